/-
  What node of the reference of layer 11 returns. Condition: a graph in memory.
  What edge of the reference of layer 11 returns. Condition: a graph in memory.
  What Valid of the reference of layer 11 returns. Condition: a graph in memory.
  What Depth and Common of the reference of layer 11 return. Condition: a graph in memory.
  What Members of the reference of layer 11 returns. Condition: a graph in memory.
  Plain facts on what the landed commonCluster goes to: the cluster whose chain is what two chains share. No function of the program is named here; no condition.
  What the small functions of the landed graph return: ranges, depth, commonCluster. Conditions: a graph in memory; clusters that lie in earlier ones.
  A digraph's box and a graph's box across rows and stores; what Skeleton of the landed graph returns. Conditions: a graph in memory of at most 300 edges.
  Comparisons of structs of a graph, and what SameArcs of the reference of layer 11 returns. Condition: two digraphs in memory.
  What sameNode of the reference of layer 11 returns. Condition: two nodes in memory.
  What Find of the landed graph returns, and slices.ContainsFunc at ports and at clusters with the closures that compare a name. Condition: lists in memory.
-/
import Derived.Test.YtgmidodmmlmmeaaGreatDoorMga
namespace Go.Proofs.YtgmidodmmlmmeaaGreatDoor.gra
open Go.RowKit lex
theorem cluster_ok {g:Gr}{pre:List Cl}{x:Cl}(h:clusterE g pre x=0):-1≤x.2∧x.2 < (pre.length:Int):=by
 unfold clusterE at h
 repeat' (split at h;exact absurd h (by decide))
 rename_i hh _
 omega
def memsK (g:Gr)(c:Int)(k:Nat):List Int:=((List.range k).filter (has g c)).map fun n:Nat=>(n:Int)
def memV (g:Gr)(c:Int):List Int:=if validE g≠0∨c < -1∨(g.cs.length:Int)≤c then [] else memsK g c g.ns.length
theorem memsK_no {g:Gr}{c:Int}{k:Nat}(h:has g c k=false):memsK g c (k+1)=memsK g c k:=by
 unfold memsK;rw [List.range_succ,List.filter_append];simp [h]
theorem memsK_yes {g:Gr}{c:Int}{k:Nat}(h:has g c k=true):memsK g c (k+1)=memsK g c k ++ [(k:Int)]:=by
 unfold memsK;rw [List.range_succ,List.filter_append];simp [h]
theorem memsK_len (g:Gr)(c:Int)(k:Nat):(memsK g c k).length≤k:=by
 unfold memsK;rw [List.length_map];exact Nat.le_trans (List.length_filter_le _ _) (by simp)
theorem valid_ns {g:Gr}(h:validE g=0):g.ns.length≤64:=by
 unfold validE at h
 split at h
 ·exact absurd h (by decide)
 ·omega
theorem Ins.nil (w:World):Ins w (.slice none 0 0) []:=Rw.nil 1 inAt w
end Go.Proofs.YtgmidodmmlmmeaaGreatDoor.gra
namespace Go.Proofs.YtgmidodmmlmmeaaGreatDoor.gra
open lex
def IsCC (cs:List Cl)(c d R:Int):Prop:=-1≤R∧∀ e,e∈ch cs R ↔ e∈ch cs c∧e∈ch cs d
theorem isCC_left {cs:List Cl}(h:Wf cs){c d R:Int}(hd:-1≤d)(hc:d < c):IsCC cs c d R ↔ IsCC cs (up cs c) d R:=by
 have hn:c ∉ ch cs d:=fun hm=>by have:=mem_le h hm;omega
 unfold IsCC
 rw [ch_cons h c (by omega)]
 refine and_congr_right fun _=>forall_congr' fun e=>?_
 rw [List.mem_cons]
 constructor
 ·intro q
  rw [q]
  constructor
  ·rintro ⟨rfl | h1,h2⟩
   ·exact absurd h2 hn
   ·exact ⟨h1,h2⟩
  ·rintro ⟨h1,h2⟩;exact ⟨Or.inr h1,h2⟩
 ·intro q
  rw [q]
  constructor
  ·rintro ⟨h1,h2⟩;exact ⟨Or.inr h1,h2⟩
  ·rintro ⟨rfl | h1,h2⟩
   ·exact absurd h2 hn
   ·exact ⟨h1,h2⟩
theorem isCC_symm {cs:List Cl}{c d R:Int}:IsCC cs c d R ↔ IsCC cs d c R:=by
 unfold IsCC
 refine and_congr_right fun _=>forall_congr' fun e=>?_
 rw [and_comm (a:=e∈ch cs c)]
theorem isCC_right {cs:List Cl}(h:Wf cs){c d R:Int}(hc:-1≤c)(hd:c < d):IsCC cs c d R ↔ IsCC cs c (up cs d) R:=by
 rw [isCC_symm,isCC_left h hc hd,isCC_symm]
theorem ch_inj {cs:List Cl}(h:Wf cs){r s:Int}(hr:-1≤r)(hs:-1≤s)(he:∀ e,e∈ch cs r ↔ e∈ch cs s):r=s:=by
 have key:∀ {r s:Int},-1≤r→-1≤s→(∀ e,e∈ch cs r ↔ e∈ch cs s)→r≤s:=by
  intro r s h1 h2 h3
  by_cases h0:0≤r
  ·exact mem_le h ((h3 r).1 (mem_self h r h0))
  ·omega
 have h1:=key hr hs he
 have h2:=key hs hr (fun e=>(he e).symm)
 omega
theorem isCC_eq {cs:List Cl}(h:Wf cs){c R:Int}(hc:-1≤c)(hR:IsCC cs c c R):c=R :=
 (ch_inj h hR.1 hc (fun _=>by rw [hR.2];exact ⟨fun q=>q.1,fun q=>⟨q,q⟩⟩)).symm
theorem isCC_same (cs:List Cl){c:Int}(hc:-1≤c):IsCC cs c c c:=⟨hc,fun _=>⟨fun q=>⟨q,q⟩,fun q=>q.1⟩⟩
theorem isCC_some {cs:List Cl}(h:Wf cs):∀ (n:Nat) (c d:Int),-1≤c→-1≤d→c+d+2 < (n:Int)→∃ R,IsCC cs c d R
 | 0,c,d,h0,h1,h2=>by omega
 | n+1,c,d,h0,h1,h2=>by
  by_cases he:c=d
  ·subst he;exact ⟨c,isCC_same cs h0⟩
  ·by_cases hlt:d < c
   ·have hu:=up_neg cs h c (by omega)
    obtain ⟨R,hR⟩:=isCC_some h n (up cs c) d hu.1 h1 (by omega)
    exact ⟨R,(isCC_left h h1 hlt).2 hR⟩
   ·have hu:=up_neg cs h d (by omega)
    obtain ⟨R,hR⟩:=isCC_some h n c (up cs d) h0 hu.1 (by omega)
    exact ⟨R,(isCC_right h h0 (by omega)).2 hR⟩
theorem isCC_has {g:Gr}(h:Wf g.cs){c R:Int}{v:Nat}(hc:-1≤c)(hR:IsCC g.cs c (clOf g v) R):decide (R=c)=has g c v:=by
 rw [Bool.eq_iff_iff,decide_eq_true_eq,has_iff]
 constructor
 ·rintro rfl
  by_cases h0:0≤R
  ·exact Or.inr ((hR.2 R).1 (mem_self h R h0)).2
  ·exact Or.inl (by omega)
 ·intro hh
  refine ch_inj h hR.1 hc fun e=>?_
  rw [hR.2 e]
  constructor
  ·exact fun q=>q.1
  ·intro q
   refine ⟨q,?_⟩
   rcases hh with rfl | hh
   ·rw [ch_neg g.cs (-1) (by omega)] at q;exact nomatch q
   ·exact mem_trans h q hh
end Go.Proofs.YtgmidodmmlmmeaaGreatDoor.gra
namespace Go.Proofs.YtgmidodmmlmmeaaGreatDoor.gra
open Go.RowKit lex
set_option maxHeartbeats 1000000 in
theorem isfrom_of (l m n:Int)(b:Bool)(w:World)(h:Hid (decide (l≤n∧n≤m)=b)) :
    Calls Tryz.prog 124 #[.int .i64 l,.int .i64 m,.int .i64 n] w fun e w'=>e=.returned (.bool b)∧w=w':=by
 have hb:=h.out
 by_cases h1:l≤n
 ·by_cases h2:n≤m
  ·obtain rfl:true=b:=by rw [← hb];simp [h1,h2]
   clear hb h
   go_enter Tryz.func124,Tryz.ntmps124
   go_wp2
   go_ret
   exact ⟨rfl,rfl⟩
  ·obtain rfl:false=b:=by rw [← hb];simp [h2]
   clear hb h
   go_enter Tryz.func124,Tryz.ntmps124
   go_wp2
   go_ret
   exact ⟨rfl,rfl⟩
 ·obtain rfl:false=b:=by rw [← hb];simp [h1]
  clear hb h
  go_enter Tryz.func124,Tryz.ntmps124
  go_wp2
  go_ret
  exact ⟨rfl,rfl⟩
set_option maxRecDepth 100000 in
set_option maxHeartbeats 4000000 in
theorem isnode_of (v:Value)(g:Gr)(n:Int)(b:Bool)(w:World)(h:Hid (GrV w v g))(hb:Hid (decide (0≤n∧n < (g.ns.length:Int))=b)) :
    Calls Tryz.prog 188 #[v,.int .i64 n] w fun e w'=>e=.returned (.bool b)∧Below w.heap.size w w':=by
 obtain ⟨nv,ev,cv,rfl,-,hns,-,-⟩:=h.out
 have hB:=al1 w (.cells #[.string (bb g.nm),.bool g.dir,nv,ev,cv] 26)
 obtain ⟨ao,cap,rfl,hc,hm,_⟩:=id hns
 unfold maxLen at hm
 have e1:IntKind.i64.wrap ((g.ns.length:Int) - 1)=(g.ns.length:Int) - 1:=IntWalk.i64_in _ (by omega)
 have HQ:Hid (decide (0≤n∧n≤(g.ns.length:Int) - 1)=b):=Lh (by rw [← hb.out,decide_eq_decide];omega)
 clear hns hc hm h hb
 go_enter Tryz.func188,Tryz.ntmps188
 go_wp2_with fail
 refine (isfrom_of 0 ((g.ns.length:Int) - 1) n b _ HQ).mono ?_
 rintro e w1 ⟨rfl,rfl⟩
 go_wp2
 go_ret
 exact ⟨rfl,hB⟩
set_option maxRecDepth 100000 in
set_option maxHeartbeats 4000000 in
theorem isclu_of (v:Value)(g:Gr)(n:Int)(b:Bool)(w:World)(h:Hid (GrV w v g))(hb:Hid (decide (-1≤n∧n < (g.cs.length:Int))=b)) :
    Calls Tryz.prog 125 #[v,.int .i64 n] w fun e w'=>e=.returned (.bool b)∧Below w.heap.size w w':=by
 obtain ⟨nv,ev,cv,rfl,-,-,-,hcs⟩:=h.out
 have hB:=al1 w (.cells #[.string (bb g.nm),.bool g.dir,nv,ev,cv] 26)
 obtain ⟨ao,cap,rfl,hc,hm,_⟩:=id hcs
 unfold maxLen at hm
 have e1:IntKind.i64.wrap ((g.cs.length:Int) - 1)=(g.cs.length:Int) - 1:=IntWalk.i64_in _ (by omega)
 have HQ:Hid (decide (-1≤n∧n≤(g.cs.length:Int) - 1)=b):=Lh (by rw [← hb.out,decide_eq_decide];omega)
 clear hcs hc hm h hb
 go_enter Tryz.func125,Tryz.ntmps125
 go_wp2_with fail
 refine (isfrom_of (-1) ((g.cs.length:Int) - 1) n b _ HQ).mono ?_
 rintro e w1 ⟨rfl,rfl⟩
 go_wp2
 go_ret
 exact ⟨rfl,hB⟩
set_option maxRecDepth 100000 in
set_option maxHeartbeats 4000000 in
theorem cdepth_of (v:Value)(g:Gr)(n:Nat)(c R:Int)(w:World)(h:Hid (GrV w v g))(hn:n≤g.cs.length)(hw:Hid (Wf (g.cs.take n)))(hc0:-1≤c)(hc1:c < (n:Int))(hr:Hid (dep (g.cs.take n) c=R)) :
    Calls Tryz.prog 129 #[v,.int .i64 c] w fun e w'=>e=.returned (.int .i64 R)∧Below w.heap.size w w':=by
 obtain ⟨nv,ev,cv,rfl,hnl,hns,he,hc⟩:=h.out
 have hB:=al1 w (.cells #[.string (bb g.nm),.bool g.dir,nv,ev,cv] 26)
 have HC:=Lh (hc.keep hB)
 clear hns he hc h hnl
 obtain ⟨ao,cap,rfl,hc,hm,_⟩:=id HC.out
 unfold maxLen at hm
 have hlm:g.cs.length≤9223372036854775807:=by omega
 have hln:(g.cs.take n).length=n:=by rw [List.length_take];omega
 clear hc hm
 have hR0:R≤(n:Int):=by
  have:=dep_bound hw.out n c hc1 hc0
  have:=hr.out
  omega
 go_enter Tryz.func129,Tryz.ntmps129
 go_wp2_with fail
 go_loop [1,5] (fun kv mv=>∃ (k m:Int),kv=.int .i64 k∧mv=.int .i64 m∧-1≤k∧k < (n:Int)∧0≤m∧m+dep (g.cs.take n) k=R) (fun kv _=>(intOf kv+1).toNat)
 case atStart=>exact ⟨c,0,rfl,rfl,hc0,hc1,by omega,by rw [hr.out];omega⟩
 case round =>
  obtain ⟨k,m,rfl,rfl,hk0,hk1,hm0,hfe⟩:=hrel
  clear hr
  by_cases hlt:k < 0
  ·rw [dep_neg _ _ hlt] at hfe
   obtain rfl:m=R:=by omega
   obtain rfl:k=-1:=by omega
   clear hfe
   go_wp2
   go_ret
   exact ⟨rfl,hB⟩
  ·obtain ⟨i,rfl⟩:∃ i:Nat,k=(i:Int):=⟨k.toNat,by omega⟩
   have hi:i < g.cs.length:=by omega
   obtain ⟨A,rfl,-,q1,-⟩:=HC.out.get hi
   obtain ⟨u,hu⟩:∃ u,g.cs[i].2=u:=⟨_,rfl⟩
   rw [hu] at q1
   have hup:up (g.cs.take n) (i:Int)=u:=by rw [up_at (by omega),List.getElem_take,hu]
   have hun:=up_neg _ hw.out (i:Int) (by omega)
   rw [dep_up hw.out _ (by omega),hup] at hfe
   rw [hup] at hun
   have hd:=dep_nonneg (g.cs.take n) u
   have i0:(0:Int)≤(i:Int):=by omega
   have i1:(i:Int) < (g.cs.length:Int):=by omega
   have HF:=Lh hfe
   have hm9:m < 9223372036854775807:=by omega
   have z1:((i:Int) != -1)=true:=by rw [bne_iff_ne];omega
   clear hu hup hfe hd
   go_wp2
   go_round
   case rel=>exact ⟨u,m+1,rfl,by go_num,hun.1,by omega,by omega,by have:=HF.out;omega⟩
   case measure=>simp [intOf];omega
set_option maxRecDepth 100000 in
set_option maxHeartbeats 4000000 in
theorem ccomm_of (v:Value)(g:Gr)(c d R:Int)(w:World)(h:Hid (GrV w v g))(hw:Hid (Wf g.cs))(hc:Hid (-1≤c∧c < (g.cs.length:Int)))(hd:Hid (-1≤d∧d < (g.cs.length:Int)))(hr:Hid (IsCC g.cs c d R)) :
    Calls Tryz.prog 131 #[v,.int .i64 c,.int .i64 d] w fun e w'=>e=.returned (.int .i64 R)∧Below w.heap.size w w':=by
 obtain ⟨nv,ev,cv,rfl,hnl,hns,he,hcs⟩:=h.out
 have hB:=al1 w (.cells #[.string (bb g.nm),.bool g.dir,nv,ev,cv] 26)
 have HC:=Lh (hcs.keep hB)
 clear hns he hcs h hnl
 obtain ⟨ao,cap,rfl,hc1,hm,_⟩:=id HC.out
 unfold maxLen at hm
 have hlm:g.cs.length≤9223372036854775807:=by omega
 clear hc1 hm
 go_enter Tryz.func131,Tryz.ntmps131
 go_wp2_with fail
 go_loop [1,2] (fun kv mv=>∃ (k m:Int),kv=.int .i64 k∧mv=.int .i64 m∧-1≤k∧k < (g.cs.length:Int)∧-1≤m∧m < (g.cs.length:Int)∧IsCC g.cs k m R) (fun kv mv=>(intOf kv+intOf mv+2).toNat)
 case atStart=>exact ⟨c,d,rfl,rfl,hc.out.1,hc.out.2,hd.out.1,hd.out.2,hr.out⟩
 case round =>
  obtain ⟨k,m,rfl,rfl,hk0,hk1,hm0,hm1,hcc⟩:=hrel
  have HCC:=Lh hcc
  clear hr hcc
  by_cases heq:k=m
  ·subst heq
   obtain rfl:=isCC_eq hw.out hk0 HCC.out
   have z1:(k != k)=false:=by simp
   go_wp2
   go_ret
   exact ⟨rfl,hB⟩
  ·have z1:(k != m)=true:=by rw [bne_iff_ne];exact heq
   by_cases hlt:m < k
   ·obtain ⟨i,rfl⟩:∃ i:Nat,k=(i:Int):=⟨k.toNat,by omega⟩
    have hi:i < g.cs.length:=by omega
    obtain ⟨A,rfl,-,q1,-⟩:=HC.out.get hi
    obtain ⟨u,hu⟩:∃ u,g.cs[i].2=u:=⟨_,rfl⟩
    rw [hu] at q1
    have hup:up g.cs (i:Int)=u:=by rw [up_at hi,hu]
    have hun:=up_neg _ hw.out (i:Int) (by omega)
    have hnx:=(isCC_left hw.out hm0 hlt).1 HCC.out
    rw [hup] at hun hnx
    have HN:=Lh hnx
    have i0:(0:Int)≤(i:Int):=by omega
    have i1:(i:Int) < (g.cs.length:Int):=by omega
    clear hu hup hnx heq
    go_wp2
    go_round
    case rel=>exact ⟨u,m,rfl,rfl,hun.1,by omega,hm0,hm1,HN.out⟩
    case measure=>simp [intOf];omega
   ·obtain ⟨i,rfl⟩:∃ i:Nat,m=(i:Int):=⟨m.toNat,by omega⟩
    have hi:i < g.cs.length:=by omega
    obtain ⟨A,rfl,-,q1,-⟩:=HC.out.get hi
    obtain ⟨u,hu⟩:∃ u,g.cs[i].2=u:=⟨_,rfl⟩
    rw [hu] at q1
    have hup:up g.cs (i:Int)=u:=by rw [up_at hi,hu]
    have hun:=up_neg _ hw.out (i:Int) (by omega)
    have hnx:=(isCC_right hw.out hk0 (by omega)).1 HCC.out
    rw [hup] at hun hnx
    have HN:=Lh hnx
    have i0:(0:Int)≤(i:Int):=by omega
    have i1:(i:Int) < (g.cs.length:Int):=by omega
    clear hu hup hnx heq
    go_wp2
    go_round
    case rel=>exact ⟨k,u,rfl,rfl,hk0,hk1,hun.1,by omega,HN.out⟩
    case measure=>simp [intOf];omega
theorem gat_alloc {w:World}{b:Nat}{x:ByteArray}{d:Bool}{nv ev cv:Value}(o:Obj)(h:gat w b x d nv ev cv):gat (w.alloc o) b x d nv ev cv:=gat_keep h (al1 ..)
def NdV (w:World)(v:Value)(x:Nd):Prop:=∃ pv,v=.agg #[.string (bb x.nm),.string (bb x.lb),.int .i64 x.w,.int .i64 x.h,.int .i64 x.cl,pv]∧Pts w pv x.ps
theorem NdV.keep {w1 w2:World}{v:Value}{x:Nd}(h:NdV w1 v x)(hb:Below w1.heap.size w1 w2):NdV w2 v x:=by
 obtain ⟨pv,rfl,h1⟩:=h;exact ⟨pv,rfl,h1.keep hb⟩
def nbx (W:World)(b:Nat)(X L:ByteArray)(p q r:Int)(v:Value):Prop :=
 W.cell? ⟨b,0,none⟩=some (.string X)∧W.cell? ⟨b,1,none⟩=some (.string L)∧W.cell? ⟨b,2,none⟩=some (.int .i64 p)∧W.cell? ⟨b,3,none⟩=some (.int .i64 q)∧W.cell? ⟨b,4,none⟩=some (.int .i64 r)∧W.cell? ⟨b,5,none⟩=some v
theorem nbx_new (w:World)(X L:ByteArray)(p q r:Int)(ao:Option Addr)(n c:Nat)(t:TypeId):nbx (w.alloc (.cells #[.string X,.string L,.int .i64 p,.int .i64 q,.int .i64 r,.slice ao n c] t)) w.heap.size X L p q r (.slice ao n c):=by
 refine ⟨?_,?_,?_,?_,?_,?_⟩ <;> go_simp
theorem nbx_keep {w1 w2:World}{b:Nat}{X L:ByteArray}{p q r:Int}{v:Value}(h:nbx w1 b X L p q r v)(h2:Below w1.heap.size w1 w2):nbx w2 b X L p q r v:=by
 obtain ⟨a0,a1,a2,a3,a4,a5⟩:=h
 exact ⟨cell_keep h2 a0,cell_keep h2 a1,cell_keep h2 a2,cell_keep h2 a3,cell_keep h2 a4,cell_keep h2 a5⟩
theorem any_take {X:Type}(f:X→Bool)(l:List X)(k:Nat)(h:k < l.length):(l.take (k+1)).any f=((l.take k).any f || f l[k]):=by
 rw [List.take_succ_eq_append_getElem h,List.any_append];simp
set_option maxHeartbeats 2000000 in
theorem ndclo_of (x:Nd)(pv:Value)(po:Option Addr)(pn pc:Nat)(hp:pv=.slice po pn pc)(g:Nat)(s:ByteArray)(b:Bool)(w:World)(hc:Hid (w.cell? ⟨g,0,none⟩=some (.string s)))(h:Hid (decide (x.nm=s.data.toList)=b)) :
    Calls Tryz.prog 184 #[.agg #[.string (bb x.nm),.string (bb x.lb),.int .i64 x.w,.int .i64 x.h,.int .i64 x.cl,pv],.pointer (some ⟨g,0,none⟩)] w fun e w'=>e=.returned (.bool b)∧Below w.heap.size w w':=by
 subst hp
 obtain ⟨Y,hY⟩:∃ Y,bb x.nm=Y:=⟨_,rfl⟩
 have hY2:Y.data.toList=x.nm:=by rw [← hY]
 have e1:(Y.toList == s.toList)=b:=by rw [← h.out,ByteArray.toList_eq,ByteArray.toList_eq,hY2,Bool.eq_iff_iff];simp
 rw [hY]
 have c1:=cell_keep (al1 w (.cells #[.string Y,.string (bb x.lb),.int .i64 x.w,.int .i64 x.h,.int .i64 x.cl,.slice po pn pc] 59)) hc.out
 have hb:=al1 w (.cells #[.string Y,.string (bb x.lb),.int .i64 x.w,.int .i64 x.h,.int .i64 x.cl,.slice po pn pc] 59)
 clear h hc hY hY2
 go_enter Tryz.func184,Tryz.ntmps184
 go_wp2
 go_ret
 exact ⟨rfl,hb⟩
set_option maxRecDepth 100000 in
set_option maxHeartbeats 4000000 in
theorem ndidx_of (v:Value)(l:List Nd)(g:Nat)(s:ByteArray)(R:Int)(w:World)(h:Hid (Nds w v l))(hc:Hid (w.cell? ⟨g,0,none⟩=some (.string s)))(hr:Hid (findG l s.data.toList 0=R)) :
    Calls Tryz.prog 183 #[v,.func (.func 184) #[] #[.pointer (some ⟨g,0,none⟩)]] w fun e W'=>e=.returned (.int .i64 R)∧Below w.heap.size w W':=by
 obtain ⟨ao,cap,rfl,hc1,hm1,-⟩:=id h.out
 unfold maxLen at hm1
 have hlm:l.length≤9223372036854775807:=by omega
 have HR:Hid (findG (l.drop 0) s.data.toList 0=R):=hr
 clear hc1 hm1 hr
 go_enter Tryz.func183,Tryz.ntmps183
 go_wp2_with fail
 go_loopw [8] (fun i wr=>∃ k:Nat,k≤l.length∧i=.int .i64 k∧Below w.heap.size w wr∧findG (l.drop k) s.data.toList k=R) (fun i _=>l.length - (intOf i).toNat)
 case atStart=>exact ⟨0,Nat.zero_le _,rfl,Below.refl _ _,HR.out⟩
 case round =>
  obtain ⟨k,hk,rfl,hB,hfe⟩:=hrel
  rename World=>wr
  have HB:=Lh hB
  clear hB HR
  by_cases hlt:k < l.length
  ·obtain ⟨A,rfl,s0,s1,s2,s3,s4,⟨pv,s5,hps⟩,-⟩:=(h.out.keep HB.out).get hlt
   obtain ⟨po,pc,rfl,-,-,-⟩:=id hps
   have hcr:=Lh (cell_keep HB.out hc.out)
   rw [findG_at hlt] at hfe
   obtain ⟨x,hx⟩:∃ x,l[k]=x:=⟨_,rfl⟩
   rw [hx] at s0 s1 s2 s3 s4 s5 hfe
   obtain ⟨b,hb⟩:∃ b,decide (x.nm=s.data.toList)=b:=⟨_,rfl⟩
   have HV:=Lh hb
   have HF:=Lh hfe
   have i0:(0:Int)≤(k:Int):=by omega
   have i1:(k:Int) < (l.length:Int):=by omega
   clear hb hfe hps hx
   cases b
   ·go_wp2_with fail
    refine (ndclo_of x _ _ _ _ rfl g s false wr hcr HV).mono ?_
    rintro e w1 ⟨rfl,hb1⟩
    have HB1:=Lh (below_keep hb1 HB.out)
    have HN:Hid (findG (l.drop (k+1)) s.data.toList (k+1)=R):=Lh (by have:=HF.out;rw [if_neg (of_decide_eq_false HV.out)] at this;exact this)
    clear hb1
    go_wp2
    go_roundw
    case rel=>exact ⟨k+1,by omega,by go_num,HB1.out,HN.out⟩
    case measure=>simp [intOf];omega
   ·go_wp2_with fail
    refine (ndclo_of x _ _ _ _ rfl g s true wr hcr HV).mono ?_
    rintro e w1 ⟨rfl,hb1⟩
    have HB1:=Lh (below_keep hb1 HB.out)
    have HN:Hid ((k:Int)=R):=Lh (by have:=HF.out;rw [if_pos (of_decide_eq_true HV.out)] at this;exact this)
    clear hb1
    go_wp2
    go_ret
    exact ⟨ret_int HN.out,HB1.out⟩
  ·rw [findG_end (by omega)] at hfe
   subst hfe
   go_wp2
   go_ret
   exact ⟨rfl,HB.out⟩
set_option maxRecDepth 100000 in
set_option maxHeartbeats 2000000 in
theorem cfind_of (v:Value)(g:Gr)(s:ByteArray)(R:Int)(w:World)(h:Hid (GrV w v g))(hr:Hid (findV g s.data.toList=R)) :
    Calls Tryz.prog 122 #[v,.string s] w fun e w'=>e=.returned (.int .i64 R)∧Below w.heap.size w w':=by
 have hmf:∀ (fn:Fn) (first cap:Array Value) (w:World),(Instr.makeFunc fn first cap).run Tryz.prog w=.ok (.func fn first cap) w:=fun _ _ _ _=>rfl
 obtain ⟨nv,ev,cv,rfl,-,hn,-,-⟩:=h.out
 obtain ⟨ao,cap,rfl,-,-,-⟩:=id hn
 have hB:=al2 w (.cells #[.string (bb g.nm),.bool g.dir,.slice ao g.ns.length cap,ev,cv] 26) (.cells #[.string s] 9)
 have HN:=Lh (hn.keep hB)
 have HC:Hid (((w.alloc (.cells #[.string (bb g.nm),.bool g.dir,.slice ao g.ns.length cap,ev,cv] 26)).alloc (.cells #[.string s] 9)).cell? ⟨w.heap.size+1,0,none⟩=some (.string s)):=Lh (by go_simp)
 clear hn h
 go_enter Tryz.func122,Tryz.ntmps122
 go_wp2_with fail
 refine (ndidx_of _ g.ns _ s R _ HN HC hr).mono ?_
 rintro e w1 ⟨rfl,hb1⟩
 have HB1:=Lh (below_keep hb1 hB)
 clear hb1
 go_wp2
 go_ret
 exact ⟨rfl,HB1.out⟩
set_option maxHeartbeats 1000000 in
theorem poclo_of (p:Pt)(g:Nat)(s:ByteArray)(b:Bool)(w:World)(hc:Hid (w.cell? ⟨g,0,none⟩=some (.string s)))(h:Hid ((p.1 == s.data.toList)=b)) :
    Calls Tryz.prog 186 #[.agg #[.string (bb p.1),.int .i64 p.2],.pointer (some ⟨g,0,none⟩)] w fun e w'=>e=.returned (.bool b)∧Below w.heap.size w w':=by
 obtain ⟨Y,hY⟩:∃ Y,bb p.1=Y:=⟨_,rfl⟩
 have hY2:Y.data.toList=p.1:=by rw [← hY]
 have e1:(Y.toList == s.toList)=b:=by rw [← h.out,ByteArray.toList_eq,ByteArray.toList_eq,hY2]
 rw [hY]
 have c1:=cell_keep (al1 w (.cells #[.string Y,.int .i64 p.2] 192)) hc.out
 have hb:=al1 w (.cells #[.string Y,.int .i64 p.2] 192)
 clear h hc hY hY2
 go_enter Tryz.func186,Tryz.ntmps186
 go_wp2
 go_ret
 exact ⟨rfl,hb⟩
set_option maxRecDepth 100000 in
set_option maxHeartbeats 2000000 in
theorem poidx_of (v:Value)(l:List Pt)(g:Nat)(s:ByteArray)(w:World)(h:Hid (Pts w v l))(hc:Hid (w.cell? ⟨g,0,none⟩=some (.string s))) :
    Calls Tryz.prog 219 #[v,.func (.func 186) #[] #[.pointer (some ⟨g,0,none⟩)]] w fun e W'=>(∃ i:Int,e=.returned (.int .i64 i)∧decide (0≤i)=l.any (fun p=>p.1 == s.data.toList))∧Below w.heap.size w W':=by
 obtain ⟨ao,cap,rfl,hc1,hm1,-⟩:=id h.out
 unfold maxLen at hm1
 have hlm:l.length≤9223372036854775807:=by omega
 clear hc1 hm1
 go_enter Tryz.func219,Tryz.ntmps219
 go_wp2_with fail
 go_loopw [8] (fun i wr=>∃ k:Nat,k≤l.length∧i=.int .i64 k∧Below w.heap.size w wr∧(l.take k).any (fun p=>p.1 == s.data.toList)=false) (fun i _=>l.length - (intOf i).toNat)
 case atStart=>exact ⟨0,Nat.zero_le _,rfl,Below.refl _ _,by simp⟩
 case round =>
  obtain ⟨k,hk,rfl,hB,hal⟩:=hrel
  rename World=>wr
  have HAL:=Lh hal
  have HB:=Lh hB
  clear hal hB
  by_cases hlt:k < l.length
  ·obtain ⟨A,rfl,c0,c1,-⟩:=(h.out.keep HB.out).get hlt
   have hcr:=Lh (cell_keep HB.out hc.out)
   have hat:=any_take (fun p:Pt=>p.1 == s.data.toList) l k hlt
   obtain ⟨b,hb⟩:∃ b,(l[k].1 == s.data.toList)=b:=⟨_,rfl⟩
   have HV:=Lh hb
   rw [HAL.out,hb] at hat
   have HAT:=Lh hat
   have i0:(0:Int)≤(k:Int):=by omega
   have i1:(k:Int) < (l.length:Int):=by omega
   clear hb hat
   cases b
   ·go_wp2_with fail
    refine (poclo_of l[k] g s false wr hcr HV).mono ?_
    rintro e w1 ⟨rfl,hb1⟩
    have HB1:=Lh (below_keep hb1 HB.out)
    clear hb1
    go_wp2
    go_roundw
    case rel=>exact ⟨k+1,by omega,by go_num,HB1.out,HAT.out⟩
    case measure=>simp [intOf];omega
   ·go_wp2_with fail
    refine (poclo_of l[k] g s true wr hcr HV).mono ?_
    rintro e w1 ⟨rfl,hb1⟩
    have HB1:=Lh (below_keep hb1 HB.out)
    clear hb1
    have hany:l.any (fun p=>p.1 == s.data.toList)=true:=by
     rw [List.any_eq_true];exact ⟨l[k],List.getElem_mem hlt,HV.out⟩
    have HANY:=Lh hany
    clear hany
    go_wp2
    go_ret
    exact ⟨⟨k,rfl,by rw [HANY.out];simp⟩,HB1.out⟩
  ·obtain rfl:k=l.length:=by omega
   have HAN:Hid (l.any (fun p=>p.1 == s.data.toList)=false):=Lh (by have:=HAL.out;rwa [List.take_length] at this)
   go_wp2
   go_ret
   exact ⟨⟨-1,rfl,by rw [HAN.out];rfl⟩,HB.out⟩
set_option maxHeartbeats 1000000 in
theorem pocon_of (v:Value)(l:List Pt)(g:Nat)(s:ByteArray)(b:Bool)(w:World)(h:Hid (Pts w v l))(hc:Hid (w.cell? ⟨g,0,none⟩=some (.string s)))(hb:Hid (l.any (fun p=>p.1 == s.data.toList)=b)) :
    Calls Tryz.prog 161 #[v,.func (.func 186) #[] #[.pointer (some ⟨g,0,none⟩)]] w fun e W'=>e=.returned (.bool b)∧Below w.heap.size w W':=by
 have hq:=poidx_of v l g s w h hc
 rw [hb.out] at hq
 go_enter Tryz.func161,Tryz.ntmps161
 go_wp2_with fail
 refine hq.mono ?_
 rintro e w1 ⟨⟨i,rfl,hi⟩,hb1⟩
 have HI:=Lh hi
 clear hi
 go_wp2
 go_ret
 exact ⟨ret_bool HI.out,hb1⟩
set_option maxHeartbeats 1000000 in
theorem cluclo_of (p:Pt)(g:Nat)(s:ByteArray)(b:Bool)(w:World)(hc:Hid (w.cell? ⟨g,0,none⟩=some (.string s)))(h:Hid ((p.1 == s.data.toList)=b)) :
    Calls Tryz.prog 127 #[.agg #[.string (bb p.1),.int .i64 p.2],.pointer (some ⟨g,0,none⟩)] w fun e w'=>e=.returned (.bool b)∧Below w.heap.size w w':=by
 obtain ⟨Y,hY⟩:∃ Y,bb p.1=Y:=⟨_,rfl⟩
 have hY2:Y.data.toList=p.1:=by rw [← hY]
 have e1:(Y.toList == s.toList)=b:=by rw [← h.out,ByteArray.toList_eq,ByteArray.toList_eq,hY2]
 rw [hY]
 have c1:=cell_keep (al1 w (.cells #[.string Y,.int .i64 p.2] 63)) hc.out
 have hb:=al1 w (.cells #[.string Y,.int .i64 p.2] 63)
 clear h hc hY hY2
 go_enter Tryz.func127,Tryz.ntmps127
 go_wp2
 go_ret
 exact ⟨rfl,hb⟩
set_option maxRecDepth 100000 in
set_option maxHeartbeats 2000000 in
theorem cluidx_of (v:Value)(l:List Pt)(g:Nat)(s:ByteArray)(w:World)(h:Hid (Cls w v l))(hc:Hid (w.cell? ⟨g,0,none⟩=some (.string s))) :
    Calls Tryz.prog 187 #[v,.func (.func 127) #[] #[.pointer (some ⟨g,0,none⟩)]] w fun e W'=>(∃ i:Int,e=.returned (.int .i64 i)∧decide (0≤i)=l.any (fun p=>p.1 == s.data.toList))∧Below w.heap.size w W':=by
 obtain ⟨ao,cap,rfl,hc1,hm1,-⟩:=id h.out
 unfold maxLen at hm1
 have hlm:l.length≤9223372036854775807:=by omega
 clear hc1 hm1
 go_enter Tryz.func187,Tryz.ntmps187
 go_wp2_with fail
 go_loopw [8] (fun i wr=>∃ k:Nat,k≤l.length∧i=.int .i64 k∧Below w.heap.size w wr∧(l.take k).any (fun p=>p.1 == s.data.toList)=false) (fun i _=>l.length - (intOf i).toNat)
 case atStart=>exact ⟨0,Nat.zero_le _,rfl,Below.refl _ _,by simp⟩
 case round =>
  obtain ⟨k,hk,rfl,hB,hal⟩:=hrel
  rename World=>wr
  have HAL:=Lh hal
  have HB:=Lh hB
  clear hal hB
  by_cases hlt:k < l.length
  ·obtain ⟨A,rfl,c0,c1,-⟩:=(h.out.keep HB.out).get hlt
   have hcr:=Lh (cell_keep HB.out hc.out)
   have hat:=any_take (fun p:Pt=>p.1 == s.data.toList) l k hlt
   obtain ⟨b,hb⟩:∃ b,(l[k].1 == s.data.toList)=b:=⟨_,rfl⟩
   have HV:=Lh hb
   rw [HAL.out,hb] at hat
   have HAT:=Lh hat
   have i0:(0:Int)≤(k:Int):=by omega
   have i1:(k:Int) < (l.length:Int):=by omega
   clear hb hat
   cases b
   ·go_wp2_with fail
    refine (cluclo_of l[k] g s false wr hcr HV).mono ?_
    rintro e w1 ⟨rfl,hb1⟩
    have HB1:=Lh (below_keep hb1 HB.out)
    clear hb1
    go_wp2
    go_roundw
    case rel=>exact ⟨k+1,by omega,by go_num,HB1.out,HAT.out⟩
    case measure=>simp [intOf];omega
   ·go_wp2_with fail
    refine (cluclo_of l[k] g s true wr hcr HV).mono ?_
    rintro e w1 ⟨rfl,hb1⟩
    have HB1:=Lh (below_keep hb1 HB.out)
    clear hb1
    have hany:l.any (fun p=>p.1 == s.data.toList)=true:=by
     rw [List.any_eq_true];exact ⟨l[k],List.getElem_mem hlt,HV.out⟩
    have HANY:=Lh hany
    clear hany
    go_wp2
    go_ret
    exact ⟨⟨k,rfl,by rw [HANY.out];simp⟩,HB1.out⟩
  ·obtain rfl:k=l.length:=by omega
   have HAN:Hid (l.any (fun p=>p.1 == s.data.toList)=false):=Lh (by have:=HAL.out;rwa [List.take_length] at this)
   go_wp2
   go_ret
   exact ⟨⟨-1,rfl,by rw [HAN.out];rfl⟩,HB.out⟩
set_option maxHeartbeats 1000000 in
theorem clucon_of (v:Value)(l:List Pt)(g:Nat)(s:ByteArray)(b:Bool)(w:World)(h:Hid (Cls w v l))(hc:Hid (w.cell? ⟨g,0,none⟩=some (.string s)))(hb:Hid (l.any (fun p=>p.1 == s.data.toList)=b)) :
    Calls Tryz.prog 128 #[v,.func (.func 127) #[] #[.pointer (some ⟨g,0,none⟩)]] w fun e W'=>e=.returned (.bool b)∧Below w.heap.size w W':=by
 have hq:=cluidx_of v l g s w h hc
 rw [hb.out] at hq
 go_enter Tryz.func128,Tryz.ntmps128
 go_wp2_with fail
 refine hq.mono ?_
 rintro e w1 ⟨⟨i,rfl,hi⟩,hb1⟩
 have HI:=Lh hi
 clear hi
 go_wp2
 go_ret
 exact ⟨ret_bool HI.out,hb1⟩
end Go.Proofs.YtgmidodmmlmmeaaGreatDoor.gra
