/-
  Rows of numbers and of arcs that a call makes (layer 11): what they hold, one element more. No condition.
  What node of the reference of layer 11 returns. Condition: a graph in memory.
  What edge of the reference of layer 11 returns. Condition: a graph in memory.
  What Valid of the reference of layer 11 returns. Condition: a graph in memory.
-/
import Derived.Test.YtgmidodmmlmmeaaGreatDoorMga
namespace Go.Proofs.YtgmidodmmlmmeaaGreatDoor.gra
open Go.RowKit lex
theorem add_at (b o j:Nat):(⟨b,o,none⟩:Addr).add j=⟨b,o+j,none⟩:=by
 unfold Addr.add;split
 ·subst_vars;rfl
 ·rfl
def blk (W:World)(g:Nat)(t:TypeId)(arr:Array Value):Prop:=W.heap[g]?=some (.cells arr t (0,0))
theorem blk_cell {W:World}{g o:Nat}{t:TypeId}{arr:Array Value}(h:blk W g t arr):W.cell? ⟨g,o,none⟩=arr[o]?:=by
 unfold blk at h;simp [World.cell?,h]
theorem blk_new (w:World)(c:Array Value)(t:TypeId):blk (w.alloc (.cells c t)) w.heap.size t c:=heap_alloc_new w _
theorem flat_len {X:Type}(f:X→List Value)(k:Nat)(hk:∀ x,(f x).length=k)(l:List X):(l.flatMap f).length=l.length*k:=by
 induction l with
 | nil=>simp
 | cons x t ih=>rw [List.flatMap_cons,List.length_append,ih,hk,List.length_cons,Nat.add_mul];omega
theorem flat_get {X:Type}(f:X→List Value)(k:Nat)(hk:∀ x,(f x).length=k):∀ (l:List X) (i j:Nat) (h:i < l.length),j < k→(l.flatMap f)[i*k+j]?=(f l[i])[j]?:=by
 intro l
 induction l with
 | nil=>intro i j h;simp at h
 | cons x t ih =>
  intro i j h hj
  rw [List.flatMap_cons]
  cases i with
  | zero=>rw [Nat.zero_mul,Nat.zero_add,List.getElem?_append_left (by rw [hk];exact hj)];rfl
  | succ i =>
   rw [List.getElem?_append_right (by rw [hk,Nat.add_mul];omega),hk,show (i+1)*k+j - k=i*k+j by rw [Nat.add_mul];omega]
   exact ih i j (by simpa using h) hj
theorem own_blk {w:World}{B s n:Nat}{t:TypeId}{v:Value}{xs:List Value}(h:w.ownsRow B t s v n xs)(hn:0 < n):∃ g cap arr,v=.slice (some ⟨g,0,none⟩) n cap∧B≤g∧blk w g t arr∧n≤cap∧cap≤maxLen∧∀ j,j < n*s→arr[j]?=xs[j]?:=by
 rcases h.2 with ⟨_,rfl⟩ | ⟨g,cap,cur,rfl,hB,hk,h1,h2,h3,h4⟩
 ·omega
 ·refine ⟨g,cap,cur,rfl,hB,hk,h1,h2,fun j hj=>?_⟩
  rw [← h4,List.getElem?_take_of_lt hj,Array.getElem?_toList]
theorem own_form {w:World}{B s n:Nat}{t:TypeId}{v:Value}{xs:List Value}(h:w.ownsRow B t s v n xs):∃ ao cap,v=.slice ao n cap∧n≤cap∧cap≤maxLen:=by
 rcases h.2 with ⟨rfl,rfl⟩ | ⟨g,cap,cur,rfl,_,_,h1,h2,_⟩
 ·exact ⟨_,0,rfl,Nat.le_refl _,by decide⟩
 ·exact ⟨_,cap,rfl,h1,h2⟩
theorem own_nil (w:World)(B:Nat)(t:TypeId)(s:Nat):w.ownsRow B t s (.slice none 0 0) 0 []:=⟨by simp,.inl ⟨rfl,rfl⟩⟩
theorem own_rw {α:Type}{c:Nat}{P:World→Addr→α→Prop}{f:α→List Value}(hf:∀ x,(f x).length=c){w:World}(hP:∀ (b o:Nat) (x:α),(∀ j,j < c→w.cell? ⟨b,o+j,none⟩=(f x)[j]?)→P w ⟨b,o,none⟩ x)
    {B:Nat} {t:TypeId} {v:Value} {l:List α} (h:w.ownsRow B t c v l.length (l.flatMap f)):Rw c P w v l:=by
 by_cases h0:l.length=0
 ·obtain ⟨ao,cap,rfl,h1,h2⟩:=own_form h
  exact ⟨ao,cap,rfl,h1,h2,fun hn=>by omega⟩
 ·obtain ⟨g,cap,arr,rfl,hB',hk,h1,h2,h3⟩:=own_blk h (by omega)
  refine ⟨_,cap,rfl,h1,h2,fun _=>⟨_,rfl,fun i hi=>?_⟩⟩
  rw [add_at,Nat.zero_add]
  refine hP _ _ _ fun j hj=>?_
  have hlt:i*c+j < l.length*c:=by
   have:(i+1)*c≤l.length*c:=Nat.mul_le_mul_right c hi
   rw [Nat.add_mul] at this
   omega
  rw [blk_cell hk,h3 _ hlt,flat_get f c hf l i j hi hj]
def inC (n:Int):List Value:=[.int .i64 n]
def Irow (w:World)(B:Nat)(v:Value)(l:List Int):Prop:=w.ownsRow B 3 1 v l.length (l.flatMap inC)
theorem Irow.ins {w:World}{B:Nat}{v:Value}{l:List Int}(h:Irow w B v l):Ins w v l :=
 own_rw (f:=inC) (fun _=>rfl) (fun b o x hx=>by have:=hx 0 (by decide);exact this) h
theorem info_cin:(Tryz.prog.info? 3).map (fun i=>(i.zero,i.size,i.bytes))=some (some (.int .i64 0),1,8):=by kernel_rfl
theorem info_of_cin:∃ i,Tryz.prog.info? 3=some i∧i.zero=some (.int .i64 0)∧i.size=1∧i.bytes=8:=by
 have h:=info_cin
 cases hq:Tryz.prog.info? 3 with
 | none=>rw [hq] at h;cases h
 | some i =>
  rw [hq] at h
  simp only [Option.map_some,Option.some.injEq,Prod.mk.injEq] at h
  exact ⟨i,rfl,h.1,h.2.1,h.2.2⟩
theorem app_in {w:World}{ops:Array Oper}{rest:List Oper}{o:Oper}{a:Act}{Q:Exit→Act→World→Prop}(hg:o.guard=none)(p y:Operand)(ho:o.op=.call { callee:=.builtin .append,args:=#[p,y],argTypes:=#[53,53] })
    (B:Nat) (v:Value) (l:List Int) (x:Int) (H:Nat) (hH:w.heap.size=H) (hs:a.eval p=v) (hx:a.eval y=.slice (some ⟨H,0,none⟩) 1 1) (h:Hid (Irow w B v l)) (hl:l.length≤1000000) (hB:B≤w.heap.size)
    (hK:∀ ao cap w',Irow w' B (.slice ao (l.length+1) cap) (l ++ [x])→w.grownBy w' v.ownBlock→wpList Tryz.prog ops Q rest (a.put o.dst (.slice ao (l.length+1) cap)) w'):wpList Tryz.prog ops Q (o :: rest) a (w.alloc (.cells #[.int .i64 x] 3)):=by
 subst hH
 obtain ⟨i0,hi,hz0,hz1,hz2⟩:=info_of_cin
 refine wpList_append_own _ hg p y 53 ho B 3 i0 _ 1 8 Tryz.underlying53 hi hz0 hz1 hz2 rfl (by decide) v l.length _ hs (World.ownsRow.alloc h.out _) ⟨w.heap.size,0,none⟩ 1 1 [.int .i64 x] hx rfl ?_ (by simp [Value.oneCell']) (by unfold maxLen;omega) (by omega) (by simp;omega) ?_
 ·intro j u hj
  rw [add_at,Nat.zero_add,blk_cell (blk_new w #[.int .i64 x] 3),← hj]
  simp
 ·intro v' w' hown hgrow _
  obtain ⟨ao,cap,rfl,_,_⟩:=own_form hown
  refine hK ao cap w' ?_ ?_
  ·unfold Irow;rw [List.length_append,List.flatMap_append];exact hown
  ·refine ⟨hgrow.os,hgrow.tape,hgrow.output,Nat.le_trans (by simp) hgrow.size,fun k hk hne=>?_⟩
   rw [hgrow.block k (by simp;omega) hne,heap_alloc_old w _ hk]
def nat6 (w:World)(b:Nat)(x y:ByteArray)(p q r:Int)(pv:Value):Prop:=w.cell? ⟨b,0,none⟩=some (.string x)∧w.cell? ⟨b,1,none⟩=some (.string y)∧w.cell? ⟨b,2,none⟩=some (.int .i64 p)∧w.cell? ⟨b,3,none⟩=some (.int .i64 q)∧w.cell? ⟨b,4,none⟩=some (.int .i64 r)∧w.cell? ⟨b,5,none⟩=some pv
theorem nat6_new (w:World)(x y:ByteArray)(p q r:Int)(pv:Value)(t:TypeId):nat6 (w.alloc (.cells #[.string x,.string y,.int .i64 p,.int .i64 q,.int .i64 r,pv] t)) w.heap.size x y p q r pv:=by
 refine ⟨?_,?_,?_,?_,?_,?_⟩ <;> go_simp
set_option maxRecDepth 100000 in
set_option maxHeartbeats 16000000 in
theorem gnode_of (v:Value)(g:Gr)(i:Nat)(R:Int)(w:World)(h:Hid (GrV w v g))(hi:i < g.ns.length)(hr:Hid (nodeE g (g.ns.take i) g.ns[i]=R)) :
    Calls Tryz.prog 78 #[v,.int .i64 i] w fun e w'=>e=.returned (.int .i64 R)∧Below w.heap.size w w':=by
 have hg:=h.out
 obtain ⟨nv,ev,cv,rfl,hnl,hns,he,hc⟩:=h.out
 have hB:=al1 w (.cells #[.string (bb g.nm),.bool g.dir,nv,ev,cv] 26)
 have HN:=Lh (hns.keep hB)
 obtain ⟨ao,cap,rfl,hc',hm,_⟩:=id HN.out
 obtain ⟨co,cc,rfl,-,-,-⟩:=hc
 unfold maxLen at hm
 have hlm:g.ns.length≤9223372036854775807:=by omega
 clear hns he hnl hc' hm
 have hget:=HN.out.get hi
 obtain ⟨x,hx⟩:∃ x,g.ns[i]=x:=⟨_,rfl⟩
 have hxi:g.ns[i]?=some x:=by rw [List.getElem?_eq_getElem hi,hx]
 rw [hx] at hget hr
 obtain ⟨A,rfl,q0,q1,q2,q3,q4,⟨pv,q5,hps⟩,z0,z1,-⟩:=hget
 obtain ⟨xn,xl,xw,xh,xc,xp⟩:=x
 simp only at q0 q1 q2 q3 q4 hps z0 z1
 obtain ⟨po,pc,rfl,-,-,-⟩:=id hps
 obtain ⟨Y,hY⟩:∃ Y,bb xn=Y:=⟨_,rfl⟩
 obtain ⟨Z,hZ⟩:∃ Z,bb xl=Z:=⟨_,rfl⟩
 rw [hY] at q0
 rw [hZ] at q1
 have hY2:Y.data.toList=xn:=by rw [← hY]
 have hZ2:Z.data.toList=xl:=by rw [← hZ]
 have hYs:Y.size≤maxLen:=by rw [← size_list,hY2];exact z0
 have hZs:Z.size≤maxLen:=by rw [← size_list,hZ2];exact z1
 have HZ2:=Lh hZ2
 have hZl:xl.length=Z.size:=by rw [← hZ2,size_list]
 have i0:(0:Int)≤(i:Int):=by omega
 have i1:(i:Int) < (g.ns.length:Int):=by omega
 obtain ⟨nm,hnm⟩:∃ b,isNm xn=b:=⟨_,rfl⟩
 have HNM:Hid (isNm Y.data.toList=nm):=Lh (by rw [hY2];exact hnm)
 have hfe:=hr.out
 unfold nodeE at hfe
 simp only at hfe
 rw [hnm] at hfe
 obtain ⟨gv,hgv⟩:∃ gv:Value,Value.slice (some A) g.ns.length cap=gv:=⟨_,rfl⟩
 have HG0:=gat_keep (gat_new w (bb g.nm) g.dir gv ev (.slice co g.cs.length cc) 26) (al1 _ (.cells #[.string Y,.string Z,.int .i64 xw,.int .i64 xh,.int .i64 xc,.slice po xp.length pc] 59))
 have HK0:=nat6_new (w.alloc (.cells #[.string (bb g.nm),.bool g.dir,gv,ev,.slice co g.cs.length cc] 26)) Y Z xw xh xc (.slice po xp.length pc) 59
 have HB0:=below_keep (al1 (w.alloc (.cells #[.string (bb g.nm),.bool g.dir,gv,ev,.slice co g.cs.length cc] 26)) (.cells #[.string Y,.string Z,.int .i64 xw,.int .i64 xh,.int .i64 xc,.slice po xp.length pc] 59)) (al1 w _)
 have HP0:=hps.keep (by rw [hgv];exact al1 (w.alloc (.cells #[.string (bb g.nm),.bool g.dir,gv,ev,.slice co g.cs.length cc] 26)) (.cells #[.string Y,.string Z,.int .i64 xw,.int .i64 xh,.int .i64 xc,.slice po xp.length pc] 59))
 rw [show (w.alloc (.cells #[.string (bb g.nm),.bool g.dir,gv,ev,.slice co g.cs.length cc] 26)).heap.size=w.heap.size+1 by simp] at HK0
 subst hgv
 have HG:=Lh HG0
 have HK:=Lh HK0
 have HB:=Lh HB0
 have HP:=Lh HP0
 clear hY hZ hr HG0 HK0 HB0 HP0 hps hB hZ2
 cases nm
 ·rw [if_pos rfl] at hfe
  subst hfe
  clear hnm hY2
  go_enter Tryz.func78,Tryz.ntmps78
  go_wp2_with fail
  refine (rname_of _ _ _ hYs HNM).mono ?_
  rintro e w1 ⟨rfl,rfl⟩
  go_wp2
  go_ret
  exact ⟨rfl,HB.out⟩
 rw [if_neg (by decide)] at hfe
 obtain ⟨F,hF⟩:∃ F,findV g Y.data.toList=F:=⟨_,rfl⟩
 have HFI:=Lh hF
 have hdup:=findG_dup (s:=xn) 0 hxi rfl
 have hF3:findG g.ns xn 0=F:=by rw [← hY2];exact hF
 rw [hF3,Nat.zero_add] at hdup
 have HD:=Lh hdup
 have HF:=Lh hfe
 clear hfe hnm hdup hF hF3 hY2 hx hxi
 go_enter Tryz.func78,Tryz.ntmps78
 go_wp2_with fail
 refine (rname_of _ _ _ hYs HNM).mono ?_
 rintro e w1 ⟨rfl,rfl⟩
 generalize ((w.alloc (.cells #[.string (bb g.nm),.bool g.dir,.slice (some A) g.ns.length cap,ev,.slice co g.cs.length cc] 26)).alloc (.cells #[.string Y,.string Z,.int .i64 xw,.int .i64 xh,.int .i64 xc,.slice po xp.length pc] 59))=w1 at HG HK HB HP ⊢
 have HGR1:=Lh (hg.keep HB.out)
 obtain ⟨g0,g1,g2,g3,g4⟩:=HG.out
 obtain ⟨c0,c1,c2,c3,c4,c5⟩:=HK.out
 go_wp2_with fail
 refine (gfind_of _ g Y F w1 HGR1 HFI).mono ?_
 rintro e w4 ⟨rfl,hb4⟩
 have HB4:=Lh (below_keep hb4 HB.out)
 have HP4:=Lh (HP.out.keep hb4)
 have g4:=cell_keep hb4 g4
 have c1:=cell_keep hb4 c1
 have c2:=cell_keep hb4 c2
 have c3:=cell_keep hb4 c3
 have c4:=cell_keep hb4 c4
 have c5:=cell_keep hb4 c5
 clear hb4 c0 g0 g1 g2 g3 HGR1 HG HK HP
 have hfe:=HF.out
 clear HF
 by_cases f0:F=(i:Int)
 case neg =>
  have b0:(F != (i:Int))=true:=by rw [bne_iff_ne];exact f0
  have ha:(g.ns.take i).any (fun y=>y.nm == xn)=true:=by
   cases hq:(g.ns.take i).any (fun y=>y.nm == xn)
   ·exact absurd (HD.out.2 hq) f0
   ·rfl
  rw [if_pos ha] at hfe
  subst hfe
  clear ha f0 HD
  go_wp2
  go_ret
  exact ⟨rfl,HB4.out⟩
 have b0:(F != (i:Int))=false:=by rw [f0];simp
 rw [if_neg (by rw [HD.out.1 f0];decide)] at hfe
 clear HD f0
 rw [hZl] at hfe
 by_cases l0:32 < Z.size
 ·rw [if_pos l0] at hfe
  subst hfe
  have l1:(32:Int) < (Z.size:Int):=by omega
  clear l0
  go_wp2
  go_ret
  exact ⟨rfl,HB4.out⟩
 rw [if_neg l0] at hfe
 have l1:¬ (32:Int) < (Z.size:Int):=by omega
 clear l0
 obtain ⟨pb,hpb⟩:∃ b,plainB Z.data.toList=b:=⟨_,rfl⟩
 have HPB:=Lh hpb
 have HZE:Hid (plainB xl=pb):=Lh (by rw [← hpb];congr 1;rw [← HZ2.out])
 rw [HZE.out] at hfe
 clear hpb
 cases pb
 ·rw [if_pos rfl] at hfe
  subst hfe
  go_wp2_with fail
  refine (gplain_of _ _ _ hZs HPB).mono ?_
  rintro e w5 ⟨rfl,rfl⟩
  go_wp2
  go_ret
  exact ⟨rfl,HB4.out⟩
 rw [if_neg (by decide)] at hfe
 go_wp2_with fail
 refine (gplain_of _ _ _ hZs HPB).mono ?_
 rintro e w5 ⟨rfl,rfl⟩
 by_cases r0:xw < 1
 ·rw [if_pos (Or.inl r0)] at hfe
  subst hfe
  go_wp2
  go_ret
  exact ⟨rfl,HB4.out⟩
 by_cases r1:1048576 < xw
 ·rw [if_pos (Or.inr (Or.inl r1))] at hfe
  subst hfe
  go_wp2
  go_ret
  exact ⟨rfl,HB4.out⟩
 by_cases r2:xh < 1
 ·rw [if_pos (Or.inr (Or.inr (Or.inl r2)))] at hfe
  subst hfe
  go_wp2
  go_ret
  exact ⟨rfl,HB4.out⟩
 by_cases r3:1048576 < xh
 ·rw [if_pos (Or.inr (Or.inr (Or.inr (Or.inl r3))))] at hfe
  subst hfe
  go_wp2
  go_ret
  exact ⟨rfl,HB4.out⟩
 by_cases r4:xc < -1
 ·rw [if_pos (Or.inr (Or.inr (Or.inr (Or.inr (Or.inl r4)))))] at hfe
  subst hfe
  go_wp2
  go_ret
  exact ⟨rfl,HB4.out⟩
 by_cases r5:(g.cs.length:Int)≤xc
 ·rw [if_pos (Or.inr (Or.inr (Or.inr (Or.inr (Or.inr r5)))))] at hfe
  subst hfe
  go_wp2
  go_ret
  exact ⟨rfl,HB4.out⟩
 rw [if_neg (by omega)] at hfe
 by_cases p8:8 < xp.length
 ·rw [if_pos p8] at hfe
  subst hfe
  have p9:(8:Int) < (xp.length:Int):=by omega
  clear p8
  go_wp2
  go_ret
  exact ⟨rfl,HB4.out⟩
 rw [if_neg p8] at hfe
 have p9:¬ (8:Int) < (xp.length:Int):=by omega
 have HFE:=Lh hfe
 clear p8 hfe
 go_wp2_with fail
 refine (gports_of _ xp R w4 HP4 HFE).mono ?_
 rintro e w6 ⟨rfl,hb6⟩
 have HB6:=Lh (below_keep hb6 HB4.out)
 clear hb6
 go_wp2
 go_ret
 exact ⟨rfl,HB6.out⟩
def xat (w:World)(b:Nat)(p q:Int)(z:ByteArray)(r s:Int):Prop:=w.cell? ⟨b,2,none⟩=some (.int .i64 p)∧w.cell? ⟨b,3,none⟩=some (.int .i64 q)∧w.cell? ⟨b,4,none⟩=some (.string z)∧w.cell? ⟨b,5,none⟩=some (.int .i64 r)∧w.cell? ⟨b,6,none⟩=some (.int .i64 s)
theorem xat_new (w:World)(m n p q:Int)(z:ByteArray)(r s:Int)(t:TypeId):xat (w.alloc (.cells #[.int .i64 m,.int .i64 n,.int .i64 p,.int .i64 q,.string z,.int .i64 r,.int .i64 s] t)) w.heap.size p q z r s:=by
 refine ⟨?_,?_,?_,?_,?_⟩ <;> go_simp
theorem xat_keep {w1 w2:World}{b:Nat}{p q:Int}{z:ByteArray}{r s:Int}(h:xat w1 b p q z r s)(h2:Below w1.heap.size w1 w2):xat w2 b p q z r s :=
 ⟨cell_keep h2 h.1,cell_keep h2 h.2.1,cell_keep h2 h.2.2.1,cell_keep h2 h.2.2.2.1,cell_keep h2 h.2.2.2.2⟩
set_option maxRecDepth 100000 in
set_option maxHeartbeats 16000000 in
theorem gedge_of (v:Value)(g:Gr)(fr tw fp tp:Int)(Z:ByteArray)(wt ln R:Int)(w:World)(h:Hid (GrV w v g))(hZs:Z.size≤maxLen)(hr:Hid (edgeE g ⟨fr,tw,fp,tp,Z.data.toList,wt,ln⟩=R)) :
    Calls Tryz.prog 80 #[v,.agg #[.int .i64 fr,.int .i64 tw,.int .i64 fp,.int .i64 tp,.string Z,.int .i64 wt,.int .i64 ln]] w fun e w'=>e=.returned (.int .i64 R)∧Below w.heap.size w w':=by
 obtain ⟨nv,ev,cv,rfl,hnl,hns,he,hc⟩:=h.out
 obtain ⟨ao,cap,rfl,hc',hm,_⟩:=id hns
 unfold maxLen at hm
 have hlm:g.ns.length≤9223372036854775807:=by omega
 have hfe:=hr.out
 unfold edgeE at hfe
 simp only [size_list] at hfe
 clear he hnl hc' hm hc h hr
 have HG0:=gat_keep (gat_new w (bb g.nm) g.dir (.slice ao g.ns.length cap) ev cv 26) (al1 _ (.cells #[.int .i64 fr,.int .i64 tw,.int .i64 fp,.int .i64 tp,.string Z,.int .i64 wt,.int .i64 ln] 61))
 have HX0:=xat_new (w.alloc (.cells #[.string (bb g.nm),.bool g.dir,.slice ao g.ns.length cap,ev,cv] 26)) fr tw fp tp Z wt ln 61
 have HB0:=below_keep (al1 (w.alloc (.cells #[.string (bb g.nm),.bool g.dir,.slice ao g.ns.length cap,ev,cv] 26)) (.cells #[.int .i64 fr,.int .i64 tw,.int .i64 fp,.int .i64 tp,.string Z,.int .i64 wt,.int .i64 ln] 61)) (al1 w _)
 rw [show (w.alloc (.cells #[.string (bb g.nm),.bool g.dir,.slice ao g.ns.length cap,ev,cv] 26)).heap.size=w.heap.size+1 by simp] at HX0
 have HN:=Lh (hns.keep HB0)
 have HG:=Lh HG0
 have HX:=Lh HX0
 have HB:=Lh HB0
 clear HG0 HX0 HB0 hns
 by_cases a0:fr < 0
 ·rw [if_pos (Or.inl a0)] at hfe
  subst hfe
  go_enter Tryz.func80,Tryz.ntmps80
  go_wp2
  go_ret
  exact ⟨rfl,HB.out⟩
 by_cases a1:(g.ns.length:Int)≤fr
 ·rw [if_pos (Or.inr (Or.inl a1))] at hfe
  subst hfe
  go_enter Tryz.func80,Tryz.ntmps80
  go_wp2
  go_ret
  exact ⟨rfl,HB.out⟩
 by_cases a2:tw < 0
 ·rw [if_pos (Or.inr (Or.inr (Or.inl a2)))] at hfe
  subst hfe
  go_enter Tryz.func80,Tryz.ntmps80
  go_wp2
  go_ret
  exact ⟨rfl,HB.out⟩
 by_cases a3:(g.ns.length:Int)≤tw
 ·rw [if_pos (Or.inr (Or.inr (Or.inr a3)))] at hfe
  subst hfe
  go_enter Tryz.func80,Tryz.ntmps80
  go_wp2
  go_ret
  exact ⟨rfl,HB.out⟩
 rw [if_neg (by omega)] at hfe
 obtain ⟨f,rfl⟩:∃ f:Nat,fr=(f:Int):=⟨fr.toNat,by omega⟩
 obtain ⟨t,rfl⟩:∃ t:Nat,tw=(t:Int):=⟨tw.toNat,by omega⟩
 have hf:f < g.ns.length:=by omega
 have ht:t < g.ns.length:=by omega
 simp only [Int.toNat_natCast,List.getElem?_eq_getElem hf,List.getElem?_eq_getElem ht] at hfe
 obtain ⟨A,rfl,-,-,-,-,-,⟨pv,q5,hps⟩,-⟩:=HN.out.get hf
 obtain ⟨A2,e2,-,-,-,-,-,⟨pv2,s5,hps2⟩,-⟩:=HN.out.get ht
 cases e2
 obtain ⟨po,pc,rfl,-,-,-⟩:=id hps
 obtain ⟨po2,pc2,rfl,-,-,-⟩:=id hps2
 obtain ⟨L1,hL1⟩:∃ L,g.ns[f].ps.length=L:=⟨_,rfl⟩
 obtain ⟨L2,hL2⟩:∃ L,g.ns[t].ps.length=L:=⟨_,rfl⟩
 rw [hL1] at q5 hfe
 rw [hL2] at s5 hfe
 have f0:(0:Int)≤(f:Int):=by omega
 have f1:(f:Int) < (g.ns.length:Int):=by omega
 have t0:(0:Int)≤(t:Int):=by omega
 have t1:(t:Int) < (g.ns.length:Int):=by omega
 clear hL1 hL2 hps hps2 HN
 go_enter Tryz.func80,Tryz.ntmps80
 go_wp2_with fail
 by_cases b0:fp < -1
 ·rw [if_pos (Or.inl b0)] at hfe
  subst hfe
  go_quiet (fail)
  have HB3:=Lh (below_keep (drew_n _ nq) HB.out)
  generalize World.drewN _ nq=w3 at HB3 ⊢
  go_wp2
  go_ret
  exact ⟨rfl,HB3.out⟩
 by_cases b1:(L1:Int)≤fp
 ·rw [if_pos (Or.inr (Or.inl b1))] at hfe
  subst hfe
  go_quiet (fail)
  have HB3:=Lh (below_keep (drew_n _ nq) HB.out)
  generalize World.drewN _ nq=w3 at HB3 ⊢
  go_wp2
  go_ret
  exact ⟨rfl,HB3.out⟩
 by_cases b2:tp < -1
 ·rw [if_pos (Or.inr (Or.inr (Or.inl b2)))] at hfe
  subst hfe
  go_quiet (fail)
  have HB3:=Lh (below_keep (drew_n _ nq) HB.out)
  generalize World.drewN _ nq=w3 at HB3 ⊢
  go_wp2
  go_ret
  exact ⟨rfl,HB3.out⟩
 by_cases b3:(L2:Int)≤tp
 ·rw [if_pos (Or.inr (Or.inr (Or.inr b3)))] at hfe
  subst hfe
  go_quiet (fail)
  have HB3:=Lh (below_keep (drew_n _ nq) HB.out)
  generalize World.drewN _ nq=w3 at HB3 ⊢
  go_wp2
  go_ret
  exact ⟨rfl,HB3.out⟩
 rw [if_neg (by omega)] at hfe
 go_quiet (fail)
 have HB3:=Lh (below_keep (drew_n _ nq) HB.out)
 have HX3:=Lh (xat_keep HX.out (drew_n _ nq))
 generalize World.drewN _ nq=w3 at HB3 HX3 ⊢
 obtain ⟨-,-,x4,x5,x6⟩:=HX3.out
 by_cases l0:32 < Z.size
 ·rw [if_pos l0] at hfe
  subst hfe
  have l1:(32:Int) < (Z.size:Int):=by omega
  clear l0
  go_wp2
  go_ret
  exact ⟨rfl,HB3.out⟩
 rw [if_neg l0] at hfe
 have l1:¬ (32:Int) < (Z.size:Int):=by omega
 clear l0
 obtain ⟨pb,hpb⟩:∃ b,plainB Z.data.toList=b:=⟨_,rfl⟩
 have HPB:=Lh hpb
 rw [hpb] at hfe
 clear hpb
 go_wp2_with fail
 refine (gplain_of _ _ _ hZs HPB).mono ?_
 rintro e w5 ⟨rfl,rfl⟩
 cases pb
 ·rw [if_pos (Or.inl rfl)] at hfe
  subst hfe
  go_wp2
  go_ret
  exact ⟨rfl,HB3.out⟩
 by_cases r0:wt < 1
 ·rw [if_pos (Or.inr (Or.inl r0))] at hfe
  subst hfe
  go_wp2
  go_ret
  exact ⟨rfl,HB3.out⟩
 by_cases r1:1000 < wt
 ·rw [if_pos (Or.inr (Or.inr (Or.inl r1)))] at hfe
  subst hfe
  go_wp2
  go_ret
  exact ⟨rfl,HB3.out⟩
 by_cases r2:ln < 1
 ·rw [if_pos (Or.inr (Or.inr (Or.inr (Or.inl r2))))] at hfe
  subst hfe
  go_wp2
  go_ret
  exact ⟨rfl,HB3.out⟩
 by_cases r3:64 < ln
 ·rw [if_pos (Or.inr (Or.inr (Or.inr (Or.inr r3))))] at hfe
  subst hfe
  go_wp2
  go_ret
  exact ⟨rfl,HB3.out⟩
 rw [if_neg (by simp;omega)] at hfe
 subst hfe
 go_wp2
 go_ret
 exact ⟨rfl,HB3.out⟩
theorem cluster_ok {g:Gr}{pre:List Cl}{x:Cl}(h:clusterE g pre x=0):-1≤x.2∧x.2 < (pre.length:Int):=by
 unfold clusterE at h
 repeat' (split at h;exact absurd h (by decide))
 rename_i hh _
 omega
abbrev eat (w w':World)(b:Nat)(x:ByteArray)(d:Bool)(nv ev cv:Value)(B:Addr)(p q r s:Int)(z:ByteArray)(m n:Int):Prop :=
 Below w.heap.size w w'∧w'.cell? ⟨b,0,none⟩=some (.string x)∧w'.cell? ⟨b,1,none⟩=some (.bool d)∧w'.cell? ⟨b,2,none⟩=some nv∧w'.cell? ⟨b,3,none⟩=some ev∧w'.cell? ⟨b,4,none⟩=some cv ∧
 w'.cell? B=some (.int .i64 p)∧w'.cell? ⟨B.block,B.off+1,none⟩=some (.int .i64 q)∧w'.cell? ⟨B.block,B.off+2,none⟩=some (.int .i64 r)∧w'.cell? ⟨B.block,B.off+3,none⟩=some (.int .i64 s) ∧
 w'.cell? ⟨B.block,B.off+4,none⟩=some (.string z)∧w'.cell? ⟨B.block,B.off+5,none⟩=some (.int .i64 m)∧w'.cell? ⟨B.block,B.off+6,none⟩=some (.int .i64 n)
theorem eat_keep {w w1 w2:World}{b:Nat}{x:ByteArray}{d:Bool}{nv ev cv:Value}{B:Addr}{p q r s:Int}{z:ByteArray}{m n:Int}(h:eat w w1 b x d nv ev cv B p q r s z m n)(h2:Below w1.heap.size w1 w2):eat w w2 b x d nv ev cv B p q r s z m n:=by
 obtain ⟨h0,a0,a1,a2,a3,a4,b0,b1,b2,b3,b4,b5,b6⟩:=h
 exact ⟨below_keep h2 h0,cell_keep h2 a0,cell_keep h2 a1,cell_keep h2 a2,cell_keep h2 a3,cell_keep h2 a4,cell_later' h2 b0,cell_keep h2 b1,cell_keep h2 b2,cell_keep h2 b3,cell_keep h2 b4,cell_keep h2 b5,cell_keep h2 b6⟩
theorem eat_drew {w w1:World}{b:Nat}{x:ByteArray}{d:Bool}{nv ev cv:Value}{B:Addr}{p q r s:Int}{z:ByteArray}{m n:Int}(h:eat w w1 b x d nv ev cv B p q r s z m n):eat w w1.drew b x d nv ev cv B p q r s z m n:=eat_keep h (Below.refl _ _).drew
set_option maxRecDepth 100000 in
set_option maxHeartbeats 16000000 in
theorem gvalid_of (v:Value)(g:Gr)(R:Int)(w:World)(h:Hid (GrV w v g))(hr:Hid (validE g=R)) :
    Calls Tryz.prog 33 #[v] w fun e w'=>e=.returned (.int .i64 R)∧Below w.heap.size w w':=by
 have hg:=h.out
 obtain ⟨nv,ev,cv,rfl,hnl,hns,hes,hcs⟩:=h.out
 obtain ⟨no,nc,rfl,-,hm1,-⟩:=id hns
 obtain ⟨eo,ec,rfl,-,hm2,-⟩:=id hes
 obtain ⟨co,cc,rfl,-,hm3,-⟩:=id hcs
 have hYs:(bb g.nm).size≤maxLen:=by rw [← size_list];exact hnl
 have hfe:=hr.out
 unfold validE at hfe
 have HG:=Lh (gat_new w (bb g.nm) g.dir (.slice no g.ns.length nc) (.slice eo g.es.length ec) (.slice co g.cs.length cc) 26)
 have HB:=Lh (al1 w (.cells #[.string (bb g.nm),.bool g.dir,.slice no g.ns.length nc,.slice eo g.es.length ec,.slice co g.cs.length cc] 26))
 clear hns hes hcs hm1 hm2 hm3 hnl h hr
 by_cases a0:64 < g.ns.length
 ·rw [if_pos (Or.inl a0)] at hfe
  subst hfe
  have l0:(64:Int) < (g.ns.length:Int):=by omega
  clear a0
  go_enter Tryz.func33,Tryz.ntmps33
  go_wp2
  go_ret
  exact ⟨rfl,HB.out⟩
 by_cases a1:256 < g.es.length
 ·rw [if_pos (Or.inr (Or.inl a1))] at hfe
  subst hfe
  have l0:¬ (64:Int) < (g.ns.length:Int):=by omega
  have l1:(256:Int) < (g.es.length:Int):=by omega
  clear a0 a1
  go_enter Tryz.func33,Tryz.ntmps33
  go_wp2
  go_ret
  exact ⟨rfl,HB.out⟩
 by_cases a2:16 < g.cs.length
 ·rw [if_pos (Or.inr (Or.inr a2))] at hfe
  subst hfe
  have l0:¬ (64:Int) < (g.ns.length:Int):=by omega
  have l1:¬ (256:Int) < (g.es.length:Int):=by omega
  have l2:(16:Int) < (g.cs.length:Int):=by omega
  clear a0 a1 a2
  go_enter Tryz.func33,Tryz.ntmps33
  go_wp2
  go_ret
  exact ⟨rfl,HB.out⟩
 rw [if_neg (by omega)] at hfe
 have l0:¬ (64:Int) < (g.ns.length:Int):=by omega
 have l1:¬ (256:Int) < (g.es.length:Int):=by omega
 have l2:¬ (16:Int) < (g.cs.length:Int):=by omega
 have m0:g.ns.length≤64:=by omega
 have m1:g.es.length≤256:=by omega
 have m2:g.cs.length≤16:=by omega
 clear a0 a1 a2
 obtain ⟨nm,hnm⟩:∃ b,isNm g.nm=b:=⟨_,rfl⟩
 have HNM:Hid (isNm (bb g.nm).data.toList=nm):=Lh hnm
 rw [hnm] at hfe
 clear hnm
 go_enter Tryz.func33,Tryz.ntmps33
 go_wp2_with fail
 refine (rname_of _ _ _ hYs HNM).mono ?_
 rintro e w1 ⟨rfl,rfl⟩
 generalize (w.alloc (.cells #[.string (bb g.nm),.bool g.dir,.slice no g.ns.length nc,.slice eo g.es.length ec,.slice co g.cs.length cc] 26))=w1 at HG HB ⊢
 clear l0 l1 l2 HNM hYs
 cases nm
 ·rw [if_pos rfl] at hfe
  subst hfe
  go_wp2
  go_ret
  exact ⟨rfl,HB.out⟩
 rw [if_neg (by decide)] at hfe
 obtain ⟨N,hN⟩:∃ N,firstE (nodeE g) [] g.ns=N:=⟨_,rfl⟩
 obtain ⟨C,hC⟩:∃ C,firstE (clusterE g) [] g.cs=C:=⟨_,rfl⟩
 obtain ⟨E,hE⟩:∃ E,firstE (fun _ x=>edgeE g x) [] g.es=E:=⟨_,rfl⟩
 rw [hN,hC,hE] at hfe
 have HNE:Hid (firstE (nodeE g) (g.ns.take 0) (g.ns.drop 0)=N):=Lh hN
 have HCE:Hid (firstE (clusterE g) (g.cs.take 0) (g.cs.drop 0)=C):=Lh hC
 have HEE:Hid (firstE (fun _ x=>edgeE g x) (g.es.take 0) (g.es.drop 0)=E):=Lh hE
 have HFE:=Lh hfe
 clear hN hC hE hfe
 obtain ⟨g0,g1,g2,g3,g4⟩:=HG.out
 go_wp2_with fail
 clear g0 g1 g2 g3 g4
 go_loopw [3] (fun iv wr=>∃ i:Nat,iv=.int .i64 i∧i≤g.ns.length∧firstE (nodeE g) (g.ns.take i) (g.ns.drop i)=N∧Below w1.heap.size w1 wr) (fun iv _=>g.ns.length - (intOf iv).toNat)
 case atStart=>exact ⟨0,rfl,Nat.zero_le _,HNE.out,Below.refl _ _⟩
 case round =>
  obtain ⟨i,rfl,hi,hne,hB2⟩:=hrel
  rename World=>wr
  clear HNE
  have HBw:=Lh (below_keep hB2 HB.out)
  have HGQ:=Lh (gat_keep HG.out hB2)
  have HGR:=Lh (hg.keep HBw.out)
  have HB2:=Lh hB2
  obtain ⟨g0,g1,g2,g3,g4⟩:=HGQ.out
  clear hB2
  by_cases hlt:i < g.ns.length
  ·rw [firstE_at hlt] at hne
   obtain ⟨X,hX⟩:∃ X,nodeE g (g.ns.take i) g.ns[i]=X:=⟨_,rfl⟩
   have HX:=Lh hX
   rw [hX] at hne
   have i1:(i:Int) < (g.ns.length:Int):=by omega
   have HNE:=Lh hne
   clear hX hne
   go_wp2_with fail
   refine (gnode_of _ g i X wr HGR hlt HX).mono ?_
   rintro e w4 ⟨rfl,hb4⟩
   have HB4:=Lh (below_keep hb4 HBw.out)
   have HB5:=Lh (below_keep hb4 HB2.out)
   clear hb4
   have hne:=HNE.out
   by_cases x0:X=0
   ·have b0:(X != 0)=false:=by rw [x0];rfl
    rw [if_neg (by rw [x0];decide)] at hne
    have HN2:=Lh hne
    clear hne x0 HNE
    go_wp2
    go_roundw
    case rel=>exact ⟨i+1,by go_num,by omega,HN2.out,HB5.out⟩
    case measure=>simp [intOf];omega
   ·have b0:(X != 0)=true:=by rw [bne_iff_ne];exact x0
    rw [if_pos x0] at hne
    have hfe:=HFE.out
    rw [← hne,if_pos x0] at hfe
    subst hfe
    clear hne x0 HNE
    go_wp2
    go_ret
    exact ⟨rfl,HB4.out⟩
  ·rw [firstE_end (by omega)] at hne
   subst hne
   have i2:¬ (i:Int) < (g.ns.length:Int):=by omega
   have hfe:=HFE.out
   rw [if_neg (by decide)] at hfe
   have HFE2:=Lh hfe
   clear hfe HFE
   go_wp2_with fail
   clear g0 g1 g2 g3 g4
   go_loopw [5] (fun iv wq=>∃ j:Nat,iv=.int .i64 j∧j≤g.cs.length∧firstE (clusterE g) (g.cs.take j) (g.cs.drop j)=C∧Below w1.heap.size w1 wq∧Wf (g.cs.take j)) (fun iv _=>g.cs.length - (intOf iv).toNat)
   case atStart=>exact ⟨0,rfl,Nat.zero_le _,HCE.out,HB2.out,fun i x hx=>by simp at hx⟩
   case round =>
    clear HCE HGQ HGR HBw HB2
    obtain ⟨j,rfl,hj,hce,hB2,hwf⟩:=hrel
    rename World=>wq
    have HBw:=Lh (below_keep hB2 HB.out)
    have HGQ:=Lh (gat_keep HG.out hB2)
    have HGR:=Lh (hg.keep HBw.out)
    have HB2:=Lh hB2
    have HWF:=Lh hwf
    obtain ⟨g0,g1,g2,g3,g4⟩:=HGQ.out
    clear hB2 hwf
    by_cases hlt2:j < g.cs.length
    ·rw [firstE_at hlt2] at hce
     obtain ⟨X,hX⟩:∃ X,clusterE g (g.cs.take j) g.cs[j]=X:=⟨_,rfl⟩
     have HX:=Lh hX
     rw [hX] at hce
     have j1:(j:Int) < (g.cs.length:Int):=by omega
     have HCE:=Lh hce
     clear hX hce
     go_wp2_with fail
     refine (gcluster_of _ g j X wq HGR hlt2 HWF HX).mono ?_
     rintro e w4 ⟨rfl,hb4⟩
     have HB4:=Lh (below_keep hb4 HBw.out)
     have HB5:=Lh (below_keep hb4 HB2.out)
     clear hb4
     have hce:=HCE.out
     by_cases x0:X=0
     ·have b0:(X != 0)=false:=by rw [x0];rfl
      rw [if_neg (by rw [x0];decide)] at hce
      have HC2:=Lh hce
      have hok:=cluster_ok (HX.out.trans x0)
      rw [List.length_take,Nat.min_eq_left hj] at hok
      have HW2:=Lh (wf_next hlt2 HWF.out hok.1 hok.2)
      clear hce x0 HCE hok
      go_wp2
      go_roundw
      case rel=>exact ⟨j+1,by go_num,by omega,HC2.out,HB5.out,HW2.out⟩
      case measure=>simp [intOf];omega
     ·have b0:(X != 0)=true:=by rw [bne_iff_ne];exact x0
      rw [if_pos x0] at hce
      have hfe:=HFE2.out
      rw [← hce,if_pos x0] at hfe
      subst hfe
      clear hce x0 HCE
      go_wp2
      go_ret
      exact ⟨rfl,HB4.out⟩
    ·rw [firstE_end (by omega)] at hce
     subst hce
     have j2:¬ (j:Int) < (g.cs.length:Int):=by omega
     have hfe:=HFE2.out
     rw [if_neg (by decide)] at hfe
     have HFE3:=Lh hfe
     clear hfe HFE2
     go_wp2_with fail
     clear g0 g1 g2 g3 g4
     go_loopw [7] (fun iv wp=>∃ k:Nat,iv=.int .i64 k∧k≤g.es.length∧firstE (fun _ x=>edgeE g x) (g.es.take k) (g.es.drop k)=E∧Below w1.heap.size w1 wp) (fun iv _=>g.es.length - (intOf iv).toNat)
     case atStart=>exact ⟨0,rfl,Nat.zero_le _,HEE.out,HB2.out⟩
     case round =>
      clear HEE HGQ HGR HBw HB2
      obtain ⟨k,rfl,hk,hee,hB2⟩:=hrel
      rename World=>wp
      have HBw:=Lh (below_keep hB2 HB.out)
      have HGQ:=Lh (gat_keep HG.out hB2)
      have hgr:=hg.keep HBw.out
      have HB2:=Lh hB2
      obtain ⟨g0,g1,g2,g3,g4⟩:=HGQ.out
      clear hB2
      by_cases hlt3:k < g.es.length
      ·rw [firstE_at hlt3] at hee
       obtain ⟨nv',ev',cv',e0,_,_,hes,_⟩:=id hgr
       cases e0
       have hget:=hes.get hlt3
       obtain ⟨X,hX⟩:∃ X,edgeE g g.es[k]=X:=⟨_,rfl⟩
       rw [hX] at hee
       obtain ⟨x,hx⟩:∃ x,g.es[k]=x:=⟨_,rfl⟩
       rw [hx] at hget hX
       obtain ⟨fr,tw,fp,tp,lb,wt,ln⟩:=x
       obtain ⟨A,rfl,q0,q1,q2,q3,q4,q5,q6,z4,-⟩:=hget
       simp only at q0 q1 q2 q3 q4 q5 q6 z4
       obtain ⟨Z,hZ⟩:∃ Z,bb lb=Z:=⟨_,rfl⟩
       rw [hZ] at q4
       have hZ2:Z.data.toList=lb:=by rw [← hZ]
       have hZs:Z.size≤maxLen:=by rw [← size_list,hZ2];exact z4
       have HX:Hid (edgeE g ⟨fr,tw,fp,tp,Z.data.toList,wt,ln⟩=X):=Lh (by rw [hZ2];exact hX)
       have k0:(0:Int)≤(k:Int):=by omega
       have k1:(k:Int) < (g.es.length:Int):=by omega
       have HGR:=Lh hgr
       have HEE:=Lh hee
       have hP0:eat wp wp w.heap.size (bb g.nm) g.dir (.slice no g.ns.length nc) (.slice (some A) g.es.length ec) (.slice co g.cs.length cc) (A.add (k*7)) fr tw fp tp Z wt ln:=⟨Below.refl _ _,g0,g1,g2,g3,g4,q0,q1,q2,q3,q4,q5,q6⟩
       clear hX hee hZ hZ2 z4 hes hgr hx
       go_wp2_with fail
       go_region_held3 (fun w'=>Below wp.heap.size wp w'∧w'.cell? ⟨w.heap.size,0,none⟩=some (.string (bb g.nm))∧w'.cell? ⟨w.heap.size,1,none⟩=some (.bool g.dir)∧w'.cell? ⟨w.heap.size,2,none⟩=some (.slice no g.ns.length nc)∧w'.cell? ⟨w.heap.size,3,none⟩=some (.slice (some A) g.es.length ec)∧w'.cell? ⟨w.heap.size,4,none⟩=some (.slice co g.cs.length cc) ∧
           w'.cell? (A.add (k*7))=some (.int .i64 fr)∧w'.cell? ⟨(A.add (k*7)).block,(A.add (k*7)).off+1,none⟩=some (.int .i64 tw)∧w'.cell? ⟨(A.add (k*7)).block,(A.add (k*7)).off+2,none⟩=some (.int .i64 fp)∧w'.cell? ⟨(A.add (k*7)).block,(A.add (k*7)).off+3,none⟩=some (.int .i64 tp) ∧
           w'.cell? ⟨(A.add (k*7)).block,(A.add (k*7)).off+4,none⟩=some (.string Z)∧w'.cell? ⟨(A.add (k*7)).block,(A.add (k*7)).off+5,none⟩=some (.int .i64 wt)∧w'.cell? ⟨(A.add (k*7)).block,(A.add (k*7)).off+6,none⟩=some (.int .i64 ln))
        (first | assumption | (with_reducible refine eat_drew ?_;assumption))
        (first
        | (go_at_call 80;refine (gedge_of _ g fr tw fp tp Z wt ln X _ (Lh (HGR.out.keep (And.left (by assumption:eat wp _ _ _ _ _ _ _ _ _ _ _ _ _ _ _)))) hZs HX).mono ?_;rintro e w6 ⟨rfl,hb6⟩;have hP:=eat_keep (by assumption) hb6))
       all_goals
        have HB4:=Lh (below_keep hP.1 HBw.out)
        have HB5:=Lh (below_keep hP.1 HB2.out)
        have hee:=HEE.out
        clear hP0 hP q0 q1 q2 q3 q4 q5 q6 g0 g1 g2 g3 g4
        by_cases x0:X=0
        ·have b0:(X != 0)=false:=by rw [x0];rfl
         rw [if_neg (by rw [x0];decide)] at hee
         have HE2:=Lh hee
         clear hee x0 HEE
         go_wp2
         go_roundw
         case rel=>exact ⟨k+1,by go_num,by omega,HE2.out,HB5.out⟩
         case measure=>simp [intOf];omega
        ·have b0:(X != 0)=true:=by rw [bne_iff_ne];exact x0
         rw [if_pos x0] at hee
         have hfe:=HFE3.out
         rw [← hee] at hfe
         subst hfe
         clear hee x0 HEE
         go_wp2
         go_ret
         exact ⟨rfl,HB4.out⟩
      ·rw [firstE_end (by omega)] at hee
       subst hee
       have k2:¬ (k:Int) < (g.es.length:Int):=by omega
       obtain rfl:=HFE3.out
       go_wp2
       go_ret
       exact ⟨rfl,HBw.out⟩
end Go.Proofs.YtgmidodmmlmmeaaGreatDoor.gra
