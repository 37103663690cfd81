/-
  What Depth and Common of the reference of layer 11 return. Condition: a graph in memory.
  What the small functions of the landed graph return: ranges, depth, commonCluster. Conditions: a graph in memory; clusters that lie in earlier ones.
  Lists of numbers in memory, and what SameInts of the reference of layer 11 returns. Condition: two lists in memory.
  Rows of numbers and of arcs that a call makes (layer 11): what they hold, one element more. No condition.
  A digraph's box and a graph's box across rows and stores; what Skeleton of the landed graph returns. Conditions: a graph in memory of at most 300 edges.
  Comparisons of structs of a graph, and what SameArcs of the reference of layer 11 returns. Condition: two digraphs in memory.
  What sameNode of the reference of layer 11 returns. Condition: two nodes in memory.
-/
import Derived.Test.YtcdoicgbjoikkaaGreatDoorMgb
namespace Go.Proofs.YtcdoicgbjoikkaaGreatDoor.gra
open Go.RowKit lex
set_option maxHeartbeats 1000000 in
theorem isfrom_of (l m n:Int)(b:Bool)(w:World)(h:Hid (decide (l≤n∧n≤m)=b)) :
    Calls Tryz.prog 107 #[.int .i64 l,.int .i64 m,.int .i64 n] w fun e w'=>e=.returned (.bool b)∧w=w':=by
 have hb:=h.out
 by_cases h1:l≤n
 ·by_cases h2:n≤m
  ·obtain rfl:true=b:=by rw [← hb];simp [h1,h2]
   clear hb h
   go_enter Tryz.func107,Tryz.ntmps107
   go_wp2
   go_ret
   exact ⟨rfl,rfl⟩
  ·obtain rfl:false=b:=by rw [← hb];simp [h2]
   clear hb h
   go_enter Tryz.func107,Tryz.ntmps107
   go_wp2
   go_ret
   exact ⟨rfl,rfl⟩
 ·obtain rfl:false=b:=by rw [← hb];simp [h1]
  clear hb h
  go_enter Tryz.func107,Tryz.ntmps107
  go_wp2
  go_ret
  exact ⟨rfl,rfl⟩
set_option maxRecDepth 100000 in
set_option maxHeartbeats 4000000 in
theorem isnode_of (v:Value)(g:Gr)(n:Int)(b:Bool)(w:World)(h:Hid (GrV w v g))(hb:Hid (decide (0≤n∧n < (g.ns.length:Int))=b)) :
    Calls Tryz.prog 148 #[v,.int .i64 n] w fun e w'=>e=.returned (.bool b)∧Below w.heap.size w w':=by
 obtain ⟨nv,ev,cv,rfl,-,hns,-,-⟩:=h.out
 have hB:=al1 w (.cells #[.string (bb g.nm),.bool g.dir,nv,ev,cv] 31)
 obtain ⟨ao,cap,rfl,hc,hm,_⟩:=id hns
 unfold maxLen at hm
 have e1:IntKind.i64.wrap ((g.ns.length:Int) - 1)=(g.ns.length:Int) - 1:=IntWalk.i64_in _ (by omega)
 have HQ:Hid (decide (0≤n∧n≤(g.ns.length:Int) - 1)=b):=Lh (by rw [← hb.out,decide_eq_decide];omega)
 clear hns hc hm h hb
 go_enter Tryz.func148,Tryz.ntmps148
 go_wp2_with fail
 refine (isfrom_of 0 ((g.ns.length:Int) - 1) n b _ HQ).mono ?_
 rintro e w1 ⟨rfl,rfl⟩
 go_wp2
 go_ret
 exact ⟨rfl,hB⟩
set_option maxRecDepth 100000 in
set_option maxHeartbeats 4000000 in
theorem isclu_of (v:Value)(g:Gr)(n:Int)(b:Bool)(w:World)(h:Hid (GrV w v g))(hb:Hid (decide (-1≤n∧n < (g.cs.length:Int))=b)) :
    Calls Tryz.prog 108 #[v,.int .i64 n] w fun e w'=>e=.returned (.bool b)∧Below w.heap.size w w':=by
 obtain ⟨nv,ev,cv,rfl,-,-,-,hcs⟩:=h.out
 have hB:=al1 w (.cells #[.string (bb g.nm),.bool g.dir,nv,ev,cv] 31)
 obtain ⟨ao,cap,rfl,hc,hm,_⟩:=id hcs
 unfold maxLen at hm
 have e1:IntKind.i64.wrap ((g.cs.length:Int) - 1)=(g.cs.length:Int) - 1:=IntWalk.i64_in _ (by omega)
 have HQ:Hid (decide (-1≤n∧n≤(g.cs.length:Int) - 1)=b):=Lh (by rw [← hb.out,decide_eq_decide];omega)
 clear hcs hc hm h hb
 go_enter Tryz.func108,Tryz.ntmps108
 go_wp2_with fail
 refine (isfrom_of (-1) ((g.cs.length:Int) - 1) n b _ HQ).mono ?_
 rintro e w1 ⟨rfl,rfl⟩
 go_wp2
 go_ret
 exact ⟨rfl,hB⟩
set_option maxRecDepth 100000 in
set_option maxHeartbeats 4000000 in
theorem cdepth_of (v:Value)(g:Gr)(n:Nat)(c R:Int)(w:World)(h:Hid (GrV w v g))(hn:n≤g.cs.length)(hw:Hid (Wf (g.cs.take n)))(hc0:-1≤c)(hc1:c < (n:Int))(hr:Hid (dep (g.cs.take n) c=R)) :
    Calls Tryz.prog 112 #[v,.int .i64 c] w fun e w'=>e=.returned (.int .i64 R)∧Below w.heap.size w w':=by
 obtain ⟨nv,ev,cv,rfl,hnl,hns,he,hc⟩:=h.out
 have hB:=al1 w (.cells #[.string (bb g.nm),.bool g.dir,nv,ev,cv] 31)
 have HC:=Lh (hc.keep hB)
 clear hns he hc h hnl
 obtain ⟨ao,cap,rfl,hc,hm,_⟩:=id HC.out
 unfold maxLen at hm
 have hlm:g.cs.length≤9223372036854775807:=by omega
 have hln:(g.cs.take n).length=n:=by rw [List.length_take];omega
 clear hc hm
 have hR0:R≤(n:Int):=by
  have:=dep_bound hw.out n c hc1 hc0
  have:=hr.out
  omega
 go_enter Tryz.func112,Tryz.ntmps112
 go_wp2_with fail
 go_loop [1,5] (fun kv mv=>∃ (k m:Int),kv=.int .i64 k∧mv=.int .i64 m∧-1≤k∧k < (n:Int)∧0≤m∧m+dep (g.cs.take n) k=R) (fun kv _=>(intOf kv+1).toNat)
 case atStart=>exact ⟨c,0,rfl,rfl,hc0,hc1,by omega,by rw [hr.out];omega⟩
 case round =>
  obtain ⟨k,m,rfl,rfl,hk0,hk1,hm0,hfe⟩:=hrel
  clear hr
  by_cases hlt:k < 0
  ·rw [dep_neg _ _ hlt] at hfe
   obtain rfl:m=R:=by omega
   obtain rfl:k=-1:=by omega
   clear hfe
   go_wp2
   go_ret
   exact ⟨rfl,hB⟩
  ·obtain ⟨i,rfl⟩:∃ i:Nat,k=(i:Int):=⟨k.toNat,by omega⟩
   have hi:i < g.cs.length:=by omega
   obtain ⟨A,rfl,-,q1,-⟩:=HC.out.get hi
   obtain ⟨u,hu⟩:∃ u,g.cs[i].2=u:=⟨_,rfl⟩
   rw [hu] at q1
   have hup:up (g.cs.take n) (i:Int)=u:=by rw [up_at (by omega),List.getElem_take,hu]
   have hun:=up_neg _ hw.out (i:Int) (by omega)
   rw [dep_up hw.out _ (by omega),hup] at hfe
   rw [hup] at hun
   have hd:=dep_nonneg (g.cs.take n) u
   have i0:(0:Int)≤(i:Int):=by omega
   have i1:(i:Int) < (g.cs.length:Int):=by omega
   have HF:=Lh hfe
   have hm9:m < 9223372036854775807:=by omega
   have z1:((i:Int) != -1)=true:=by rw [bne_iff_ne];omega
   clear hu hup hfe hd
   go_wp2
   go_round
   case rel=>exact ⟨u,m+1,rfl,by go_num,hun.1,by omega,by omega,by have:=HF.out;omega⟩
   case measure=>simp [intOf];omega
theorem add_at (b o j:Nat):(⟨b,o,none⟩:Addr).add j=⟨b,o+j,none⟩:=by
 unfold Addr.add;split
 ·subst_vars;rfl
 ·rfl
def blk (W:World)(g:Nat)(t:TypeId)(arr:Array Value):Prop:=W.heap[g]?=some (.cells arr t (0,0))
theorem blk_cell {W:World}{g o:Nat}{t:TypeId}{arr:Array Value}(h:blk W g t arr):W.cell? ⟨g,o,none⟩=arr[o]?:=by
 unfold blk at h;simp [World.cell?,h]
theorem blk_new (w:World)(c:Array Value)(t:TypeId):blk (w.alloc (.cells c t)) w.heap.size t c:=heap_alloc_new w _
theorem flat_len {X:Type}(f:X→List Value)(k:Nat)(hk:∀ x,(f x).length=k)(l:List X):(l.flatMap f).length=l.length*k:=by
 induction l with
 | nil=>simp
 | cons x t ih=>rw [List.flatMap_cons,List.length_append,ih,hk,List.length_cons,Nat.add_mul];omega
theorem flat_get {X:Type}(f:X→List Value)(k:Nat)(hk:∀ x,(f x).length=k):∀ (l:List X) (i j:Nat) (h:i < l.length),j < k→(l.flatMap f)[i*k+j]?=(f l[i])[j]?:=by
 intro l
 induction l with
 | nil=>intro i j h;simp at h
 | cons x t ih =>
  intro i j h hj
  rw [List.flatMap_cons]
  cases i with
  | zero=>rw [Nat.zero_mul,Nat.zero_add,List.getElem?_append_left (by rw [hk];exact hj)];rfl
  | succ i =>
   rw [List.getElem?_append_right (by rw [hk,Nat.add_mul];omega),hk,show (i+1)*k+j - k=i*k+j by rw [Nat.add_mul];omega]
   exact ih i j (by simpa using h) hj
theorem own_blk {w:World}{B s n:Nat}{t:TypeId}{v:Value}{xs:List Value}(h:w.ownsRow B t s v n xs)(hn:0 < n):∃ g cap arr,v=.slice (some ⟨g,0,none⟩) n cap∧B≤g∧blk w g t arr∧n≤cap∧cap≤maxLen∧∀ j,j < n*s→arr[j]?=xs[j]?:=by
 rcases h.2 with ⟨_,rfl⟩ | ⟨g,cap,cur,rfl,hB,hk,h1,h2,h3,h4⟩
 ·omega
 ·refine ⟨g,cap,cur,rfl,hB,hk,h1,h2,fun j hj=>?_⟩
  rw [← h4,List.getElem?_take_of_lt hj,Array.getElem?_toList]
theorem own_form {w:World}{B s n:Nat}{t:TypeId}{v:Value}{xs:List Value}(h:w.ownsRow B t s v n xs):∃ ao cap,v=.slice ao n cap∧n≤cap∧cap≤maxLen:=by
 rcases h.2 with ⟨rfl,rfl⟩ | ⟨g,cap,cur,rfl,_,_,h1,h2,_⟩
 ·exact ⟨_,0,rfl,Nat.le_refl _,by decide⟩
 ·exact ⟨_,cap,rfl,h1,h2⟩
def inC (n:Int):List Value:=[.int .i64 n]
def Irow (w:World)(B:Nat)(v:Value)(l:List Int):Prop:=w.ownsRow B 3 1 v l.length (l.flatMap inC)
abbrev Ar:=Int × Int
theorem gat_alloc {w:World}{b:Nat}{x:ByteArray}{d:Bool}{nv ev cv:Value}(o:Obj)(h:gat w b x d nv ev cv):gat (w.alloc o) b x d nv ev cv:=gat_keep h (al1 ..)
theorem guard_pt:Tryz.prog.eqGuardType Tryz.prog.depth 129=false:=by kernel_rfl
theorem neq_pt (u v:Pt)(dq:Bool)(h:Hid (decide (u≠v)=dq))(w:World):(binOp .neq 129 (.agg #[.string (bb u.1),.int .i64 u.2]) (.agg #[.string (bb v.1),.int .i64 v.2])).run Tryz.prog w=.ok (.bool dq) w:=by
 have hu:Tryz.prog.underlying 129=some (.struct (Tryz.prog.fieldsOf 129)):=by kernel_rfl
 have hp:Tryz.prog.stoodInHeld 129=false:=by kernel_rfl
 obtain ⟨a0,a1⟩:=u
 obtain ⟨c0,c1⟩:=v
 rw [run_neq_struct,run_equalIn_agg w 9999 _ _ _ hu hp,← h.out]
 by_cases h1:a0=c0 <;> by_cases h2:a1=c1 <;> simp [go_sem,Op.eqFields,Program.fieldsOf,Tryz.underlying129,Tryz.underlying9,Tryz.underlying3,ByteArray.toList_eq,h1,h2]
theorem guard_cl:Tryz.prog.eqGuardType Tryz.prog.depth 47=false:=by kernel_rfl
theorem neq_cl (u v:Pt)(dq:Bool)(h:Hid (decide (u≠v)=dq))(w:World):(binOp .neq 47 (.agg #[.string (bb u.1),.int .i64 u.2]) (.agg #[.string (bb v.1),.int .i64 v.2])).run Tryz.prog w=.ok (.bool dq) w:=by
 have hu:Tryz.prog.underlying 47=some (.struct (Tryz.prog.fieldsOf 47)):=by kernel_rfl
 have hp:Tryz.prog.stoodInHeld 47=false:=by kernel_rfl
 obtain ⟨a0,a1⟩:=u
 obtain ⟨c0,c1⟩:=v
 rw [run_neq_struct,run_equalIn_agg w 9999 _ _ _ hu hp,← h.out]
 by_cases h1:a0=c0 <;> by_cases h2:a1=c1 <;> simp [go_sem,Op.eqFields,Program.fieldsOf,Tryz.underlying47,Tryz.underlying9,Tryz.underlying3,ByteArray.toList_eq,h1,h2]
theorem guard_ed:Tryz.prog.eqGuardType Tryz.prog.depth 60=false:=by kernel_rfl
theorem neq_ed (u v:Ed)(dq:Bool)(h:Hid (decide (u≠v)=dq))(w:World):(binOp .neq 60 (.agg #[.int .i64 u.fr,.int .i64 u.to,.int .i64 u.fp,.int .i64 u.tp,.string (bb u.lb),.int .i64 u.wt,.int .i64 u.ln]) (.agg #[.int .i64 v.fr,.int .i64 v.to,.int .i64 v.fp,.int .i64 v.tp,.string (bb v.lb),.int .i64 v.wt,.int .i64 v.ln])).run Tryz.prog w=.ok (.bool dq) w:=by
 have hu:Tryz.prog.underlying 60=some (.struct (Tryz.prog.fieldsOf 60)):=by kernel_rfl
 have hp:Tryz.prog.stoodInHeld 60=false:=by kernel_rfl
 obtain ⟨a0,a1,a2,a3,a4,a5,a6⟩:=u
 obtain ⟨c0,c1,c2,c3,c4,c5,c6⟩:=v
 simp only [Ed.mk.injEq,ne_eq] at h
 rw [run_neq_struct,run_equalIn_agg w 9999 _ _ _ hu hp,← h.out]
 by_cases h0:a0=c0
 case neg=>simp [go_sem,Op.eqFields,Program.fieldsOf,Tryz.underlying60,Tryz.underlying9,Tryz.underlying3,ByteArray.toList_eq,h0]
 subst h0
 by_cases h1:a1=c1
 case neg=>simp [go_sem,Op.eqFields,Program.fieldsOf,Tryz.underlying60,Tryz.underlying9,Tryz.underlying3,ByteArray.toList_eq,h1]
 subst h1
 by_cases h2:a2=c2
 case neg=>simp [go_sem,Op.eqFields,Program.fieldsOf,Tryz.underlying60,Tryz.underlying9,Tryz.underlying3,ByteArray.toList_eq,h2]
 subst h2
 by_cases h3:a3=c3
 case neg=>simp [go_sem,Op.eqFields,Program.fieldsOf,Tryz.underlying60,Tryz.underlying9,Tryz.underlying3,ByteArray.toList_eq,h3]
 subst h3
 by_cases h4:a4=c4
 case neg=>simp [go_sem,Op.eqFields,Program.fieldsOf,Tryz.underlying60,Tryz.underlying9,Tryz.underlying3,ByteArray.toList_eq,h4]
 subst h4
 by_cases h5:a5=c5
 case neg=>simp [go_sem,Op.eqFields,Program.fieldsOf,Tryz.underlying60,Tryz.underlying9,Tryz.underlying3,ByteArray.toList_eq,h5]
 subst h5
 by_cases h6:a6=c6
 case neg=>simp [go_sem,Op.eqFields,Program.fieldsOf,Tryz.underlying60,Tryz.underlying9,Tryz.underlying3,ByteArray.toList_eq,h6]
 subst h6
 simp [go_sem,Op.eqFields,Program.fieldsOf,Tryz.underlying60,Tryz.underlying9,Tryz.underlying3]
theorem take_eq {α:Type}{a b:List α}{k:Nat}(ha:k < a.length)(hb:k < b.length)(h:a.take k=b.take k)(he:a[k]=b[k]):a.take (k+1)=b.take (k+1):=by
 rw [List.take_succ_eq_append_getElem ha,List.take_succ_eq_append_getElem hb,h,he]
theorem take_ne {α:Type}{a b:List α}{k:Nat}(ha:k < a.length)(hb:k < b.length)(he:a[k]≠b[k]):a≠b:=fun e=>he (by subst e;rfl)
theorem take_all {α:Type}{a b:List α}{k:Nat}(hl:a.length=b.length)(hk:a.length≤k)(h:a.take k=b.take k):a=b:=by
 rw [List.take_of_length_le hk,List.take_of_length_le (by omega)] at h;exact h
def NdV (w:World)(v:Value)(x:Nd):Prop:=∃ pv,v=.agg #[.string (bb x.nm),.string (bb x.lb),.int .i64 x.w,.int .i64 x.h,.int .i64 x.cl,pv]∧Pts w pv x.ps
theorem NdV.keep {w1 w2:World}{v:Value}{x:Nd}(h:NdV w1 v x)(hb:Below w1.heap.size w1 w2):NdV w2 v x:=by
 obtain ⟨pv,rfl,h1⟩:=h;exact ⟨pv,rfl,h1.keep hb⟩
def nbx (W:World)(b:Nat)(X L:ByteArray)(p q r:Int)(v:Value):Prop :=
 W.cell? ⟨b,0,none⟩=some (.string X)∧W.cell? ⟨b,1,none⟩=some (.string L)∧W.cell? ⟨b,2,none⟩=some (.int .i64 p)∧W.cell? ⟨b,3,none⟩=some (.int .i64 q)∧W.cell? ⟨b,4,none⟩=some (.int .i64 r)∧W.cell? ⟨b,5,none⟩=some v
theorem nbx_new (w:World)(X L:ByteArray)(p q r:Int)(ao:Option Addr)(n c:Nat)(t:TypeId):nbx (w.alloc (.cells #[.string X,.string L,.int .i64 p,.int .i64 q,.int .i64 r,.slice ao n c] t)) w.heap.size X L p q r (.slice ao n c):=by
 refine ⟨?_,?_,?_,?_,?_,?_⟩ <;> go_simp
theorem nbx_keep {w1 w2:World}{b:Nat}{X L:ByteArray}{p q r:Int}{v:Value}(h:nbx w1 b X L p q r v)(h2:Below w1.heap.size w1 w2):nbx w2 b X L p q r v:=by
 obtain ⟨a0,a1,a2,a3,a4,a5⟩:=h
 exact ⟨cell_keep h2 a0,cell_keep h2 a1,cell_keep h2 a2,cell_keep h2 a3,cell_keep h2 a4,cell_keep h2 a5⟩
set_option maxRecDepth 100000 in
set_option maxHeartbeats 16000000 in
theorem gsamenode_of (v v2:Value)(x y:Nd)(R:Bool)(w:World)(h1:Hid (NdV w v x))(h2:Hid (NdV w v2 y))(hr:Hid (decide (x=y)=R)) :
    Calls Tryz.prog 31 #[v,v2] w fun e w'=>e=.returned (.bool R)∧Below w.heap.size w w':=by
 have hmx:Tryz.prog.follows .mixedOrders=true:=by kernel_rfl
 obtain ⟨av,rfl,ha⟩:=h1.out
 obtain ⟨bv,rfl,hb⟩:=h2.out
 have hfe:=hr.out
 clear h1 h2 hr
 obtain ⟨n0,l0,p0,q0,r0,a⟩:=x
 obtain ⟨n1,l1,p1,q1,r1,b⟩:=y
 simp only at ha hb
 simp only [Nd.mk.injEq] at hfe
 obtain ⟨ao,ac,rfl,hc1,hm1,-⟩:=id ha
 obtain ⟨bo,bc,rfl,hc2,hm2,-⟩:=id hb
 unfold maxLen at hm1 hm2
 have hla:a.length≤9223372036854775807:=by omega
 have hlb:b.length≤9223372036854775807:=by omega
 obtain ⟨X,hX⟩:∃ X,bb n0=X:=⟨_,rfl⟩
 obtain ⟨Y,hY⟩:∃ Y,bb n1=Y:=⟨_,rfl⟩
 obtain ⟨L,hL⟩:∃ L,bb l0=L:=⟨_,rfl⟩
 obtain ⟨M,hM⟩:∃ M,bb l1=M:=⟨_,rfl⟩
 have hXY:n0=n1 ↔ X.toList=Y.toList:=by rw [← hX,← hY,ByteArray.toList_eq,ByteArray.toList_eq]
 have hLM:l0=l1 ↔ L.toList=M.toList:=by rw [← hL,← hM,ByteArray.toList_eq,ByteArray.toList_eq]
 simp only [hX,hY,hL,hM]
 simp only [hXY,hLM] at hfe
 have HB:=Lh (al2 w (.cells #[.string X,.string L,.int .i64 p0,.int .i64 q0,.int .i64 r0,.slice ao a.length ac] 45) (.cells #[.string Y,.string M,.int .i64 p1,.int .i64 q1,.int .i64 r1,.slice bo b.length bc] 45))
 have HC:=Lh (nbx_keep (nbx_new w X L p0 q0 r0 ao a.length ac 45) (al1 _ (.cells #[.string Y,.string M,.int .i64 p1,.int .i64 q1,.int .i64 r1,.slice bo b.length bc] 45)))
 have hd:=nbx_new (w.alloc (.cells #[.string X,.string L,.int .i64 p0,.int .i64 q0,.int .i64 r0,.slice ao a.length ac] 45)) Y M p1 q1 r1 bo b.length bc 45
 rw [World.size_alloc] at hd
 have HD:=Lh hd
 have HA:=Lh (ha.keep HB.out)
 have HBb:=Lh (hb.keep HB.out)
 have hga:=guard_pt
 obtain ⟨c0,c1,c2,c3,c4,c5⟩:=HC.out
 obtain ⟨d0,d1,d2,d3,d4,d5⟩:=HD.out
 clear hc1 hm1 hc2 hm2 ha hb hd hX hY hL hM hXY hLM
 by_cases k0:X.toList=Y.toList
 case neg =>
  have z0:(X.toList == Y.toList)=false:=by rw [beq_eq_false_iff_ne];exact k0
  have y0:(X.toList != Y.toList)=true:=by rw [bne_iff_ne];exact k0
  rw [decide_eq_false (fun e=>k0 (e.1))] at hfe
  subst hfe
  clear k0
  go_enter Tryz.func31,Tryz.ntmps31
  go_wp2
  go_ret
  exact ⟨rfl,HB.out⟩
 have z0:(X.toList == Y.toList)=true:=by rw [beq_iff_eq];exact k0
 have y0:(X.toList != Y.toList)=false:=by rw [bne_eq_false_iff_eq];exact k0
 by_cases k1:L.toList=M.toList
 case neg =>
  have z1:(L.toList == M.toList)=false:=by rw [beq_eq_false_iff_ne];exact k1
  have y1:(L.toList != M.toList)=true:=by rw [bne_iff_ne];exact k1
  rw [decide_eq_false (fun e=>k1 (e.2.1))] at hfe
  subst hfe
  clear k0 k1
  go_enter Tryz.func31,Tryz.ntmps31
  go_wp2
  go_ret
  exact ⟨rfl,HB.out⟩
 have z1:(L.toList == M.toList)=true:=by rw [beq_iff_eq];exact k1
 have y1:(L.toList != M.toList)=false:=by rw [bne_eq_false_iff_eq];exact k1
 by_cases k2:p0=p1
 case neg =>
  have y2:(p0 != p1)=true:=by rw [bne_iff_ne];exact k2
  rw [decide_eq_false (fun e=>k2 (e.2.2.1))] at hfe
  subst hfe
  clear k0 k1 k2
  go_enter Tryz.func31,Tryz.ntmps31
  go_wp2
  go_ret
  exact ⟨rfl,HB.out⟩
 subst k2
 have y2:(p0 != p0)=false:=by simp
 by_cases k3:q0=q1
 case neg =>
  have y3:(q0 != q1)=true:=by rw [bne_iff_ne];exact k3
  rw [decide_eq_false (fun e=>k3 (e.2.2.2.1))] at hfe
  subst hfe
  clear k0 k1 k3
  go_enter Tryz.func31,Tryz.ntmps31
  go_wp2
  go_ret
  exact ⟨rfl,HB.out⟩
 subst k3
 have y3:(q0 != q0)=false:=by simp
 by_cases k4:r0=r1
 case neg =>
  have y4:(r0 != r1)=true:=by rw [bne_iff_ne];exact k4
  rw [decide_eq_false (fun e=>k4 (e.2.2.2.2.1))] at hfe
  subst hfe
  clear k0 k1 k4
  go_enter Tryz.func31,Tryz.ntmps31
  go_wp2
  go_ret
  exact ⟨rfl,HB.out⟩
 subst k4
 have y4:(r0 != r0)=false:=by simp
 by_cases k5:a.length=b.length
 case neg =>
  have y5:((a.length:Int) != (b.length:Int))=true:=by rw [bne_iff_ne];omega
  rw [decide_eq_false (fun e=>k5 (congrArg List.length e.2.2.2.2.2))] at hfe
  subst hfe
  clear k0 k1 k5
  go_enter Tryz.func31,Tryz.ntmps31
  go_wp2
  go_ret
  exact ⟨rfl,HB.out⟩
 have y5:((a.length:Int) != (b.length:Int))=false:=by rw [k5];simp
 have HL:=Lh k5
 have HR:Hid (decide (a=b)=R):=Lh (by rw [← hfe];simp [k0,k1])
 obtain ⟨W2,hW2⟩:∃ W2,(w.alloc (.cells #[.string X,.string L,.int .i64 p0,.int .i64 q0,.int .i64 r0,.slice ao a.length ac] 45)).alloc (.cells #[.string Y,.string M,.int .i64 p0,.int .i64 q0,.int .i64 r0,.slice bo b.length bc] 45)=W2:=⟨_,rfl⟩
 have HW2:=Lh hW2
 clear hW2 hfe k0 k1 k5
 go_enter Tryz.func31,Tryz.ntmps31
 go_wp2_with fail
 rw [HW2.out] at HB HC HD HA HBb ⊢
 clear c0 c1 c2 c3 c4 c5 d0 d1 d2 d3 d4 d5 z0 z1 y0 y1 y2 y3 y4 y5
 go_loopw [5] (fun iv wr=>∃ i:Nat,iv=.int .i64 i∧i≤a.length∧a.take i=b.take i∧Below W2.heap.size W2 wr) (fun iv _=>a.length - (intOf iv).toNat)
 case atStart=>exact ⟨0,rfl,Nat.zero_le _,rfl,Below.refl _ _⟩
 case round =>
  obtain ⟨i,rfl,hi,htk,hB⟩:=hrel
  rename World=>wr
  have HB2:=Lh (below_keep hB HB.out)
  obtain ⟨-,-,-,-,-,c5⟩:=nbx_keep HC.out hB
  obtain ⟨-,-,-,-,-,d5⟩:=nbx_keep HD.out hB
  by_cases hlt:i < a.length
  ·have hlt2:i < b.length:=by have:=HL.out;omega
   obtain ⟨A,rfl,s0,s1,-⟩:=(HA.out.keep hB).get hlt
   obtain ⟨B,rfl,t0,t1,-⟩:=(HBb.out.keep hB).get hlt2
   obtain ⟨x,hx⟩:∃ x,a[i]=x:=⟨_,rfl⟩
   obtain ⟨y,hy⟩:∃ y,b[i]=y:=⟨_,rfl⟩
   rw [hx] at s0 s1
   rw [hy] at t0 t1
   have i0:(0:Int)≤(i:Int):=by omega
   have i1:(i:Int) < (a.length:Int):=by omega
   have i2:(i:Int) < (b.length:Int):=by omega
   by_cases hxy:x=y
   ·have hneq:=neq_pt x y false (Lh (by simp [hxy]))
    have HT:=Lh (take_eq hlt hlt2 htk (by rw [hx,hy,hxy]))
    clear htk hx hy hxy
    go_wp2_with fail
    go_quiet (fail)
    have HB3:=Lh (below_keep (drew_n wr nq) hB)
    generalize wr.drewN nq=w3 at HB3 ⊢
    go_wp2
    go_roundw
    case rel=>exact ⟨i+1,by go_num,by omega,HT.out,HB3.out⟩
    case measure=>simp [intOf];omega
   ·have hneq:=neq_pt x y true (Lh (by simp [hxy]))
    have hfe:=HR.out
    rw [decide_eq_false (fun e=>take_ne hlt hlt2 (by rw [hx,hy];exact hxy) e)] at hfe
    subst hfe
    clear htk hx hy hxy
    go_wp2_with fail
    go_quiet (fail)
    have HB3:=Lh (below_keep (drew_n wr nq) HB2.out)
    generalize wr.drewN nq=w3 at HB3 ⊢
    go_wp2
    go_ret
    exact ⟨rfl,HB3.out⟩
  ·have hfe:=HR.out
   rw [decide_eq_true (take_all HL.out (by omega) htk)] at hfe
   subst hfe
   clear htk
   go_wp2
   go_ret
   exact ⟨rfl,HB2.out⟩
end Go.Proofs.YtcdoicgbjoikkaaGreatDoor.gra
