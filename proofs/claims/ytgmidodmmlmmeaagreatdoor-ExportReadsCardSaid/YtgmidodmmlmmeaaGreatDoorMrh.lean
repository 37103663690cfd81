/-
  The landed parser's check and the deferred closures of Parse and ParseAttrs. Condition: a tree in memory, of at most 60000 statements.
  The landed Parse. Condition: the table of powers of ten is laid.
  awake of the statements of layer 9 answers true. Premise: the code answers as its plain functions say.
  What SameAttrs, SameStmts, Same and One of the reference of layer 9 return where both sides are the same list or tree. Conditions: lists and trees in memory.
  The walk of the statement ParserLists of layer 9. Premise: the code answers as its plain functions say.
-/
import Derived.Test.YtgmidodmmlmmeaaGreatDoorMrg
import Derived.Test.YtgmidodmmlmmeaaGreatDoorMpf
namespace Go.Proofs.YtgmidodmmlmmeaaGreatDoor.par
open Go.RowKit lex tre prt
set_option maxRecDepth 100000 in
theorem check_ok (v:Value)(T:Tr)(w:World)(h:Hid (TrV w v T))(hn:cnt T.body≤60000)(hv:Hid (validT T=0)) :
    Calls Tryz.prog 55 #[v] w fun e w'=>e=.returned (.tuple #[])∧Below w.heap.size w w':=by
 obtain ⟨bv,rfl,-,hs⟩:=id h.out
 obtain ⟨bo,bc,rfl⟩:∃ ao cap,bv=.slice ao T.body.length cap:=by obtain ⟨ao,cap,e,_⟩:=hs;exact ⟨ao,cap,e⟩
 have hal:=al1 w (.cells #[.string (bb T.name),.bool T.dir,.slice bo T.body.length bc] 33)
 have HT:=Lh (h.out.keep hal)
 have HV:=Lh (valid_of _ T 0 _ HT (by omega) hv)
 have HB:=Lh hal
 obtain ⟨N,hN⟩:∃ N,bb T.name=N:=⟨_,rfl⟩
 rw [hN] at HV HB ⊢
 clear hs hal hN
 go_enter Tryz.func55,Tryz.ntmps55
 go_wp2_with fail
 refine HV.out.mono ?_
 rintro e w1 ⟨rfl,hb1⟩
 have hb:=below_keep hb1 HB.out
 clear hb1
 go_wp2
 go_end0
 exact ⟨rfl,hb⟩
set_option maxRecDepth 100000 in
theorem check_no (v:Value)(T:Tr)(k:Int)(w:World)(h:Hid (TrV w v T))(hn:cnt T.body≤60000)(hv:Hid (validT T=k))(hk:k≠0) :
    Calls Tryz.prog 55 #[v] w fun e w'=>e=.panicked (pan 0 k)∧Below w.heap.size w w':=by
 obtain ⟨bv,rfl,-,hs⟩:=id h.out
 obtain ⟨bo,bc,rfl⟩:∃ ao cap,bv=.slice ao T.body.length cap:=by obtain ⟨ao,cap,e,_⟩:=hs;exact ⟨ao,cap,e⟩
 have hal:=al1 w (.cells #[.string (bb T.name),.bool T.dir,.slice bo T.body.length bc] 33)
 have HT:=Lh (h.out.keep hal)
 have HV:=Lh (valid_of _ T k _ HT (by omega) hv)
 have HB:=Lh hal
 have b1:(k != 0)=true:=by rw [bne_iff_ne];exact hk
 obtain ⟨N,hN⟩:∃ N,bb T.name=N:=⟨_,rfl⟩
 rw [hN] at HV HB ⊢
 clear hs hal hN
 go_enter Tryz.func55,Tryz.ntmps55
 go_wp2_with fail
 refine HV.out.mono ?_
 rintro e w1 ⟨rfl,hb1⟩
 have hb:=below_keep hb1 HB.out
 clear hb1
 go_wp2
 exact ⟨rfl,rfl,hb⟩
theorem cell_dw {w:World}{a:Addr}{v:Value}(h:w.cell? a=some v):w.drew.cell? a=some v:=h
theorem bl_set {n g o:Nat}{W w:World}{v:Value}(hg:n≤g)(h:Below n W w):Below n W (w.setCell ⟨g,o,none⟩ v):=h.setCell hg _
theorem blk_dw {w:World}{g:Nat}{t:TypeId}{arr:Array Value}(h:blk w g t arr):blk w.drew g t arr:=h
def ctQ (n0 g1 g2:Nat)(n e0:Int)(w1:World):Exit→Act→World→Prop
 | .normal,a,w'=>a.defers=[]∧blk w' n0 33 trZ∧blk w' g1 3 #[.int .i64 n]∧blk w' g2 34 #[.int .i64 e0]∧Below n0 w1 w'
 | _,_,_=>False
set_option maxRecDepth 100000 in
set_option maxHeartbeats 1600000 in
theorem ct_pan (n0:Nat)(n e0:Int)(a b c d e:Value)(w:World)(h0:Hid (blk w n0 33 #[a,b,c]))(h1:Hid (blk w (n0+1) 3 #[d]))(h2:Hid (blk w (n0+2) 34 #[e])) :
    CallsD Tryz.prog 51 #[.pointer (some ⟨n0,0,none⟩),.pointer (some ⟨n0+1,0,none⟩),.pointer (some ⟨n0+2,0,none⟩)] (.panicking (pan n e0)) w fun e u' w' =>
     e=.returned (.tuple #[])∧(∃ q,u'=.panicking [{ v:=q,recovered:=true }])∧blk w' n0 33 trZ∧blk w' (n0+1) 3 #[.int .i64 n]∧blk w' (n0+2) 34 #[.int .i64 e0]∧Below n0 w w':=by
 have hta:∀ W,(Instr.typeAssert (.iface 108 (.agg #[.int .i64 n,.int .i64 e0])) 20 108 true).run Tryz.prog W=.ok (.tuple #[.agg #[.int .i64 n,.int .i64 e0],.bool true]) W:=fun W=>by kernel_rfl
 refine callsD_of_wpS Tryz.func51 rfl fun c₀ cs hu=>?_
 apply wpS_seq
 apply wpS_region
 simp [wpOpsS,go_sem,recoverD,hu,pan,hta,Tryz.ntmps51,Exit.thenS]
 simp only [Array.replicate_succ,Array.replicate_zero,List.push_toArray,List.append_toArray,List.nil_append,List.cons_append,List.setIfInBounds_toArray,List.set_cons_succ,List.set_cons_zero]
 have hz:=blk_lt h2.out
 have hf0:n0≠w.heap.size:=by omega
 have hf1:n0+1≠w.heap.size:=by omega
 have hf2:n0+2≠w.heap.size:=by omega
 have hal:=al1 w (.cells #[.int .i64 n,.int .i64 e0] 108)
 have hkf:=blk_new w #[.int .i64 n,.int .i64 e0] 108
 have H0:=Lh ((Pk.below (R:=w.heap.size) hal).blk hf0 h0.out)
 have H1:=Lh ((Pk.below (R:=w.heap.size) hal).blk hf1 h1.out)
 have H2:=Lh ((Pk.below (R:=w.heap.size) hal).blk hf2 h2.out)
 have HB:Hid (Below n0 w (w.alloc (.cells #[.int .i64 n,.int .i64 e0] 108))):=Lh (hal.mono (by omega))
 have z0:(w.alloc (.cells #[.int .i64 n,.int .i64 e0] 108)).cell? ⟨n0,0,none⟩=some a:=by rw [blk_cell H0.out];rfl
 have y0:(w.alloc (.cells #[.int .i64 n,.int .i64 e0] 108)).frozen? ⟨n0,0,none⟩=false:=blk_free H0.out
 have z1:(w.alloc (.cells #[.int .i64 n,.int .i64 e0] 108)).cell? ⟨n0,1,none⟩=some b:=by rw [blk_cell H0.out];rfl
 have y1:(w.alloc (.cells #[.int .i64 n,.int .i64 e0] 108)).frozen? ⟨n0,1,none⟩=false:=blk_free H0.out
 have z2:(w.alloc (.cells #[.int .i64 n,.int .i64 e0] 108)).cell? ⟨n0,2,none⟩=some c:=by rw [blk_cell H0.out];rfl
 have y2:(w.alloc (.cells #[.int .i64 n,.int .i64 e0] 108)).frozen? ⟨n0,2,none⟩=false:=blk_free H0.out
 have c1:(w.alloc (.cells #[.int .i64 n,.int .i64 e0] 108)).cell? ⟨n0+1,0,none⟩=some d:=by rw [blk_cell H1.out];rfl
 have c2:(w.alloc (.cells #[.int .i64 n,.int .i64 e0] 108)).cell? ⟨n0+2,0,none⟩=some e:=by rw [blk_cell H2.out];rfl
 have g1:(w.alloc (.cells #[.int .i64 n,.int .i64 e0] 108)).frozen? ⟨n0+1,0,none⟩=false:=blk_free H1.out
 have g2:(w.alloc (.cells #[.int .i64 n,.int .i64 e0] 108)).frozen? ⟨n0+2,0,none⟩=false:=blk_free H2.out
 have p0:(w.alloc (.cells #[.int .i64 n,.int .i64 e0] 108)).cell? ⟨w.heap.size,0,none⟩=some (.int .i64 n):=by rw [blk_cell hkf];rfl
 have p1:(w.alloc (.cells #[.int .i64 n,.int .i64 e0] 108)).cell? ⟨w.heap.size,1,none⟩=some (.int .i64 e0):=by rw [blk_cell hkf];rfl
 clear hal hkf h0 h1 h2
 refine wpS_of_wp ?_
 go_wp2_with fail
 refine Code.wp_mono (Q:=ctQ n0 (n0+1) (n0+2) n e0 (w.alloc (.cells #[.int .i64 n,.int .i64 e0] 108))) ?_ ?_
 ·intro ex act w' hq
  cases ex with
  | normal =>
   obtain ⟨q0,q1,q2,q3,q4⟩:=hq
   refine ⟨q0,_,rfl,.tuple #[],results_none rfl _ _ _,rfl,⟨_,rfl⟩,q1,q2,q3,?_⟩
   exact HB.out.trans q4
  | _=>exact False.elim hq
 clear hta hu HB
 have k1:n0 < n0+1:=by omega
 have k2:n0 < n0+2:=by omega
 have k3:n0+1≠n0+2:=by omega
 clear hz
 generalize w.alloc (.cells #[.int .i64 n,.int .i64 e0] 108)=w1 at H0 H1 H2 z0 z1 z2 y0 y1 y2 c1 c2 g1 g2 p0 p1 ⊢
 generalize w.heap.size=F at hf0 hf1 hf2 p0 p1 ⊢
 generalize n0+1=G1 at k1 k3 hf1 H1 c1 g1 ⊢
 generalize n0+2=G2 at k2 k3 hf2 H2 c2 g2 ⊢
 have d0:n0≠G1:=by omega
 have d1:n0≠G2:=by omega
 have d2:G1≠n0:=by omega
 have d3:G2≠n0:=by omega
 have d4:G2≠G1:=by omega
 have f0:F≠n0:=by omega
 have f1:F≠G1:=by omega
 have f2:F≠G2:=by omega
 go_region_held3 (fun w'=>w'.cell? ⟨F,0,none⟩=some (.int .i64 n)∧w'.cell? ⟨F,1,none⟩=some (.int .i64 e0))
  (exact ⟨by repeat (first | with_reducible assumption | with_reducible refine cell_far ?_ f0 | with_reducible refine cell_far ?_ f1 | with_reducible refine cell_far ?_ f2 | with_reducible refine cell_dw ?_),by repeat (first | with_reducible assumption | with_reducible refine cell_far ?_ f0 | with_reducible refine cell_far ?_ f1 | with_reducible refine cell_far ?_ f2 | with_reducible refine cell_dw ?_)⟩) (fail)
 refine ⟨rfl,?_,?_,?_,?_⟩
 ·exact blk_dw (by have h:=(blk_far (o:=0) (blk_far (o:=0) (blk_set (o:=2) (blk_set (o:=1) (blk_set (o:=0) H0.out (.string ⟨#[]⟩)) (.bool false)) (.slice none 0 0)) d0 (.int .i64 n)) d1 (.int .i64 e0));simpa using h)
 ·exact blk_dw (by have h:=(blk_far (o:=0) (blk_set (o:=0) (blk_far (o:=2) (blk_far (o:=1) (blk_far (o:=0) H1.out d2 (.string ⟨#[]⟩)) d2 (.bool false)) d2 (.slice none 0 0)) (.int .i64 n)) k3 (.int .i64 e0));simpa using h)
 ·exact blk_dw (by have h:=(blk_set (o:=0) (blk_far (o:=0) (blk_far (o:=2) (blk_far (o:=1) (blk_far (o:=0) H2.out d3 (.string ⟨#[]⟩)) d3 (.bool false)) d3 (.slice none 0 0)) d4 (.int .i64 n)) (.int .i64 e0));simpa using h)
 ·exact Below.drew (bl_set (Nat.le_of_lt k2) (bl_set (Nat.le_of_lt k1) (bl_set (Nat.le_refl _) (bl_set (Nat.le_refl _) (bl_set (Nat.le_refl _) (Below.refl _ _))))))
set_option maxRecDepth 100000 in
theorem ct_ret (n0 g1 g2:Nat)(w:World) :
    CallsD Tryz.prog 51 #[.pointer (some ⟨n0,0,none⟩),.pointer (some ⟨g1,0,none⟩),.pointer (some ⟨g2,0,none⟩)] .returning w fun e u' w'=>e=.returned (.tuple #[])∧u'=.returning∧Below w.heap.size w w':=by
 have hta:∀ W,(Instr.typeAssert .nilIface 20 108 true).run Tryz.prog W=.ok (.tuple #[.agg #[.int .i64 0,.int .i64 0],.bool false]) W:=fun W=>by kernel_rfl
 refine callsD_of_wpS Tryz.func51 rfl fun c₀ cs hu=>?_
 apply wpS_seq
 apply wpS_region
 simp [wpOpsS,go_sem,recoverD,hu,hta,Tryz.ntmps51,Exit.thenS]
 simp only [Array.replicate_succ,Array.replicate_zero,List.push_toArray,List.append_toArray,List.nil_append,List.cons_append,List.setIfInBounds_toArray,List.set_cons_succ,List.set_cons_zero]
 have hal:=al1 w (.cells #[.int .i64 0,.int .i64 0] 108)
 have hc:({ c₀ with mode:=.returning }:Frame)=c₀:=by rw [← hu]
 refine wpS_of_wp ?_
 go_wp2
 exact ⟨rfl,.returning,by rw [hc],.tuple #[],results_none rfl _ _ _,rfl,rfl,hal⟩
theorem pa_pan (n0:Nat)(x0 x1 x5 x6 x7 x8 x9 x10 x11 x12 x13 x14 x15:Value)(n k:Int)(a b c d e:Value)(w w1:World)(h0:Hid (blk w1 n0 33 #[a,b,c]))(h1:Hid (blk w1 (n0+1) 3 #[d]))(h2:Hid (blk w1 (n0+2) 34 #[e]))(hn:w.heap.size=n0)(hb:Below n0 w w1) :
    bodyPostD Tryz.prog Tryz.f19 (ParOut T00 n k w) (.panic (pan n k)) { tmps:=#[x0,x1,.pointer (some ⟨n0,0,none⟩),.pointer (some ⟨n0+1,0,none⟩),.pointer (some ⟨n0+2,0,none⟩),x5,x6,x7,x8,x9,x10,x11,x12,x13,x14,x15],defers:=[{ target:=.fn (.func 51) #[.pointer (some ⟨n0,0,none⟩),.pointer (some ⟨n0+1,0,none⟩),.pointer (some ⟨n0+2,0,none⟩)],args:=#[] }] } w1:=by
 refine leaves_cons (f:=51) (args:=#[.pointer (some ⟨n0,0,none⟩),.pointer (some ⟨n0+1,0,none⟩),.pointer (some ⟨n0+2,0,none⟩)]) (by simp) (by simp [go_sem]) ?_
 refine (ct_pan n0 n k a b c d e w1 h0 h1 h2).mono ?_
 rintro e u' w2 ⟨rfl,⟨q,rfl⟩,b0,b1,b2,hb2⟩
 obtain ⟨a0,a1,a2,-,-,-⟩:=tr3 b0
 have c1:w2.cell? ⟨n0+1,0,none⟩=some (.int .i64 n):=by rw [blk_cell b1];rfl
 have c2:w2.cell? ⟨n0+2,0,none⟩=some (.int .i64 k):=by rw [blk_cell b2];rfl
 refine ⟨.tuple #[.agg #[.string ⟨#[]⟩,.bool false,.slice none 0 0],.int .i64 n,.int .i64 k],?_,_,rfl,⟨_,rfl,Nat.zero_le _,Sts.nil _⟩,?_⟩
 ·simp [results,Tryz.results19,go_sem,a0,a1,a2,c1,c2]
 ·rw [hn];exact hb.trans hb2
theorem pa_ret (n0:Nat)(x0 x1 x5 x6 x7 x8 x9 x10 x11 x12 x13 x14 x15:Value)(T:Tr)(bo:Option Addr)(bc:Nat)(w w1:World)(h0:Hid (blk w1 n0 33 #[.string (bb T.name),.bool T.dir,.slice bo T.body.length bc]))(h1:Hid (blk w1 (n0+1) 3 #[.int .i64 0]))(h2:Hid (blk w1 (n0+2) 34 #[.int .i64 0]))(hT:Hid (TrV w1 (.agg #[.string (bb T.name),.bool T.dir,.slice bo T.body.length bc]) T))(hn:w.heap.size=n0)(hb:Below n0 w w1) :
    bodyPostD Tryz.prog Tryz.f19 (ParOut T 0 0 w) .ret { tmps:=#[x0,x1,.pointer (some ⟨n0,0,none⟩),.pointer (some ⟨n0+1,0,none⟩),.pointer (some ⟨n0+2,0,none⟩),x5,x6,x7,x8,x9,x10,x11,x12,x13,x14,x15],defers:=[{ target:=.fn (.func 51) #[.pointer (some ⟨n0,0,none⟩),.pointer (some ⟨n0+1,0,none⟩),.pointer (some ⟨n0+2,0,none⟩)],args:=#[] }] } w1:=by
 refine leaves_cons (f:=51) (args:=#[.pointer (some ⟨n0,0,none⟩),.pointer (some ⟨n0+1,0,none⟩),.pointer (some ⟨n0+2,0,none⟩)]) (by simp) (by simp [go_sem]) ?_
 refine (ct_ret n0 (n0+1) (n0+2) w1).mono ?_
 rintro e u' w2 ⟨rfl,rfl,hb2⟩
 have b0:=(Pk.below (R:=w1.heap.size) hb2).blk (Nat.ne_of_lt (blk_lt h0.out)) h0.out
 have b1:=(Pk.below (R:=w1.heap.size) hb2).blk (Nat.ne_of_lt (blk_lt h1.out)) h1.out
 have b2:=(Pk.below (R:=w1.heap.size) hb2).blk (Nat.ne_of_lt (blk_lt h2.out)) h2.out
 obtain ⟨a0,a1,a2,-,-,-⟩:=tr3 b0
 have c1:w2.cell? ⟨n0+1,0,none⟩=some (.int .i64 0):=by rw [blk_cell b1];rfl
 have c2:w2.cell? ⟨n0+2,0,none⟩=some (.int .i64 0):=by rw [blk_cell b2];rfl
 have hz:=blk_lt h0.out
 refine ⟨.tuple #[.agg #[.string (bb T.name),.bool T.dir,.slice bo T.body.length bc],.int .i64 0,.int .i64 0],?_,_,rfl,hT.out.keep hb2,?_⟩
 ·simp [results,Tryz.results19,go_sem,a0,a1,a2,c1,c2]
 ·rw [hn];exact hb.trans (hb2.mono (by omega))
theorem three_blk (w:World)(a b c:Obj):((w.alloc a).alloc b).alloc c=((w.alloc a).alloc b).alloc c∧Below w.heap.size w (((w.alloc a).alloc b).alloc c):=⟨rfl,below_keep (al1 ..) (below_keep (al1 ..) (al1 ..))⟩
theorem three_at (w:World)(A B C:Array Value)(a b c:TypeId):blk (((w.alloc (.cells A a)).alloc (.cells B b)).alloc (.cells C c)) w.heap.size a A∧blk (((w.alloc (.cells A a)).alloc (.cells B b)).alloc (.cells C c)) (w.heap.size+1) b B∧blk (((w.alloc (.cells A a)).alloc (.cells B b)).alloc (.cells C c)) (w.heap.size+2) c C:=by
 refine ⟨?_,?_,?_⟩
 ·show (((w.alloc (.cells A a)).alloc (.cells B b)).alloc (.cells C c)).heap[w.heap.size]?=_
  rw [heap_alloc_old _ _ (by simp;omega),heap_alloc_old _ _ (by simp)];exact heap_alloc_new w _
 ·show (((w.alloc (.cells A a)).alloc (.cells B b)).alloc (.cells C c)).heap[w.heap.size+1]?=_
  rw [heap_alloc_old _ _ (by simp)]
  have:=heap_alloc_new (w.alloc (.cells A a)) (.cells B b)
  simpa using this
 ·have:=heap_alloc_new ((w.alloc (.cells A a)).alloc (.cells B b)) (.cells C c)
  unfold blk
  simpa using this
set_option maxRecDepth 100000 in
theorem parse_tok (s:ByteArray)(L:List Tok)(n k:Int)(w:World)(hs:s.size≤maxLen)(h:Hid (tokE s.data.toList=(L,n,k)))(hk:k≠0) :
    Calls Tryz.prog 19 #[.string s] w (ParOut T00 n k w):=by
 have hmf:∀ (fn:Fn) (first cap:Array Value) (w:World),(Instr.makeFunc fn first cap).run Tryz.prog w=.ok (.func fn first cap) w:=fun _ _ _ _=>rfl
 obtain ⟨k0,k1,k2⟩:=three_at w trZ #[.int .i64 0] #[.int .i64 0] 33 3 34
 have hb0:=(three_blk w (.cells trZ 33) (.cells #[.int .i64 0] 3) (.cells #[.int .i64 0] 34)).2
 have K0:=Lh k0
 have K1:=Lh k1
 have K2:=Lh k2
 have HB0:=Lh hb0
 clear k0 k1 k2 hb0
 go_enter_defers Tryz.func19,Tryz.ntmps19
 go_wp2_with fail
 refine (reader_no s L n k _ hs h hk).mono ?_
 rintro e w1 ⟨rfl,hb⟩
 go_wp2
 have pk:=fun g=>Pk.below (R:=g) hb
 exact pa_pan w.heap.size _ _ _ _ _ _ _ _ _ _ _ _ _ n k _ _ _ _ _ w w1 (Lh ((pk _).blk (Nat.ne_of_lt (blk_lt K0.out)) K0.out)) (Lh ((pk _).blk (Nat.ne_of_lt (blk_lt K1.out)) K1.out)) (Lh ((pk _).blk (Nat.ne_of_lt (blk_lt K2.out)) K2.out)) rfl (below_keep hb HB0.out)
theorem fin_er {α:Type}{z:α}{V:α→Int}{L r:List Tok}{c:Int}{x:Rz α}{T:α}{n k:Int}(h:finA z V L (endR x)=(T,n,k))(hx:x=.er c r):T=z∧n=lineOf L r∧k=c:=by
 subst hx;cases h;exact ⟨rfl,rfl,rfl⟩
theorem fin_more {α:Type}{z:α}{V:α→Int}{L r:List Tok}{a:α}{x:Rz α}{T:α}{n k:Int}(h:finA z V L (endR x)=(T,n,k))(hx:x=.ok a r)(hr:r.isEmpty=false):T=z∧n=lineOf L r∧k=4:=by
 subst hx
 unfold endR at h
 rw [bnd_ok,hr] at h
 cases h;exact ⟨rfl,rfl,rfl⟩
theorem fin_bad {α:Type}{z:α}{V:α→Int}{L r:List Tok}{a:α}{x:Rz α}{T:α}{n k:Int}(h:finA z V L (endR x)=(T,n,k))(hx:x=.ok a r)(hr:r.isEmpty=true)(hv:V a≠0):T=z∧n=0∧k=V a:=by
 subst hx
 unfold endR at h
 rw [bnd_ok,hr] at h
 simp only [if_true] at h
 unfold finA at h
 simp only at h
 rw [if_pos hv] at h
 cases h;exact ⟨rfl,rfl,rfl⟩
theorem fin_good {α:Type}{z:α}{V:α→Int}{L r:List Tok}{a:α}{x:Rz α}{T:α}{n k:Int}(h:finA z V L (endR x)=(T,n,k))(hx:x=.ok a r)(hr:r.isEmpty=true)(hv:V a=0):T=a∧n=0∧k=0:=by
 subst hx
 unfold endR at h
 rw [bnd_ok,hr] at h
 simp only [if_true] at h
 unfold finA at h
 simp only at h
 rw [if_neg (fun e=>e hv)] at h
 cases h;exact ⟨rfl,rfl,rfl⟩
theorem sm_below {lo:Nat}{a b c:World}(h:Sm lo a b)(k:Below b.heap.size b c):Sm lo a c:=⟨Nat.le_trans h.1 k.size,fun q h1 h2=>(k.block q (Nat.lt_of_lt_of_le h2 h.1)).trans (h.2 q h1 h2)⟩
theorem below_pk {n R:Nat}{a b c:World}(h:Below n a b)(k:Pk R b c)(hR:n≤R)(hs:n≤b.heap.size):Below n a c:=⟨k.os.trans h.os,k.tape.trans h.tape,k.output.trans h.output,Nat.le_trans h.size k.size,fun q hq=>(k.block q (by omega) (by omega)).trans (h.block q hq)⟩
theorem tok_line {l:List UInt8}{L:List Tok}{n k:Int}(h:tokE l=(L,n,k))(hk:k=0):n=0:=by
 unfold tokE at h
 split at h
 ·cases h;exact absurd hk (by decide)
 ·have h1:=tkz_line0 prL l.length l 1 false (Nat.le_refl _)
  rw [h] at h1
  exact h1 hk
set_option maxRecDepth 100000 in
set_option maxHeartbeats 1600000 in
theorem parse_go (s:ByteArray)(L:List Tok)(T:Tr)(n k:Int)(w:World)(hs:s.size≤maxLen)(htb:Hid (Tab w))(h:Hid (tokE s.data.toList=(L,0,0)))(hf:Hid (finA T00 validT L (endR (treeR fmtL L))=(T,n,k))) :
    Calls Tryz.prog 19 #[.string s] w (ParOut T n k w):=by
 have hmf:∀ (fn:Fn) (first cap:Array Value) (w:World),(Instr.makeFunc fn first cap).run Tryz.prog w=.ok (.func fn first cap) w:=fun _ _ _ _=>rfl
 obtain ⟨k0,k1,k2⟩:=three_at w trZ #[.int .i64 0] #[.int .i64 0] 33 3 34
 have hb0:=(three_blk w (.cells trZ 33) (.cells #[.int .i64 0] 3) (.cells #[.int .i64 0] 34)).2
 have K0:=Lh k0
 have K1:=Lh k1
 have K2:=Lh k2
 have HB0:=Lh hb0
 have HTb:=Lh (tab_below htb.out hb0)
 have HTA:Hid (∀ W,agree 0 w.heap.size w W→Tab W):=Lh fun W hW=>tab_agree hW htb.out
 have hL:=Lh (tokL_of h.out)
 have hz:w.heap.size+2 < (((w.alloc (.cells trZ 33)).alloc (.cells #[.int .i64 0] 3)).alloc (.cells #[.int .i64 0] 34)).heap.size:=blk_lt k2
 have HZ:=Lh hz
 clear k0 k1 k2 hb0 hz htb
 go_enter_defers Tryz.func19,Tryz.ntmps19
 go_wp2_with fail
 refine (reader_ok s L _ hs HTb h).mono ?_
 rintro e w1 ⟨R,rfl,hR,hrd,hb⟩
 have hR0:w.heap.size≠R:=by have:=HZ.out;omega
 have hR1:w.heap.size+1≠R:=by have:=HZ.out;omega
 have hR2:w.heap.size+2≠R:=by have:=HZ.out;omega
 have HRd:=Lh hrd
 have K0':=Lh ((Pk.below (R:=R) hb).blk hR0 K0.out)
 have K1':=Lh ((Pk.below (R:=R) hb).blk hR1 K1.out)
 have K2':=Lh ((Pk.below (R:=R) hb).blk hR2 K2.out)
 have HB1:=Lh (below_keep hb HB0.out)
 have HRw:Hid (w.heap.size+2 < R):=Lh (by have:=HZ.out;omega)
 have HRl:=Lh hrd.lt
 clear K0 K1 K2 HB0 hb hrd HTb h HZ hR
 go_wp2_with fail
 refine (tree_of L hL R L ⟨#[]⟩ _ w1 HRd (Lh rfl)).mono ?_
 rintro e w2 ⟨A',hp2,hx2⟩
 have K0:=Lh (hp2.blk hR0 K0'.out)
 have K1:=Lh (hp2.blk hR1 K1'.out)
 have K2:=Lh (hp2.blk hR2 K2'.out)
 clear K0' K1' K2'
 have HB2:Hid (Below w.heap.size w w2):=Lh (below_pk HB1.out hp2 (by have:=HRw.out;omega) (by have:=HRw.out;have:=HRl.out;omega))
 have HRl2:Hid (R < w2.heap.size):=Lh (Nat.lt_of_lt_of_le HRl.out hp2.size)
 rcases hn2:treeR fmtL L with ⟨T',r⟩ | ⟨c,r⟩
 rotate_left
 ·rw [hn2] at hx2
  obtain rfl:=hx2
  obtain ⟨rfl,rfl,rfl⟩:=fin_er hf.out hn2
  go_wp2
  exact pa_pan w.heap.size _ _ _ _ _ _ _ _ _ _ _ _ _ _ _ _ _ _ _ _ w w2 K0 K1 K2 rfl HB2.out
 rw [hn2] at hx2
 obtain ⟨v,rfl,⟨bo,bc,rfl,hnm,hself⟩,hr2⟩:=hx2
 have HS:=Lh hself
 have HN:=Lh hn2
 have HNm:=Lh hnm
 have HCn:Hid (cnt T'.body≤60000):=Lh (by have:=tree_cnt hn2;have:=hL.out.1;omega)
 obtain ⟨a0,a1,a2,f0,f1,f2⟩:=tr3 K0.out
 obtain ⟨X,hX⟩:∃ X,bb T'.name=X:=⟨_,rfl⟩
 have HX:=Lh hX
 rw [hX]
 have HTA2:Hid (∀ W,agree 0 w.heap.size w2 W→Tab W):=Lh fun W hW=>HTA.out W fun q q1 q2=>by rw [hW q q1 q2];exact HB2.out.block q q2
 have HC2:Hid (∀ o k n,w2.cell? ⟨w.heap.size,o,none⟩≠some (.int k n)):=Lh (fun o k n hq=>by rw [blk_cell K0.out] at hq;rcases o with _ | _ | _ | o <;> simp at hq)
 have HR3:Hid (Rd L R (((w2.setCell ⟨w.heap.size,0,none⟩ (.string X)).setCell ⟨w.heap.size,1,none⟩ (.bool T'.dir)).setCell ⟨w.heap.size,2,none⟩ (.slice bo T'.body.length bc)) r A' 0):=Lh (hr2.res (by have:=HRw.out;omega) HC2.out HTA2.out (fun q hq=>by rw [Below.heap_setCell _ _ _ _ hq,Below.heap_setCell _ _ _ _ hq,Below.heap_setCell _ _ _ _ hq]))
 have K03:Hid (blk (((w2.setCell ⟨w.heap.size,0,none⟩ (.string X)).setCell ⟨w.heap.size,1,none⟩ (.bool T'.dir)).setCell ⟨w.heap.size,2,none⟩ (.slice bo T'.body.length bc)) w.heap.size 33 #[.string X,.bool T'.dir,.slice bo T'.body.length bc]):=Lh (by have h:=blk_set (o:=2) (blk_set (o:=1) (blk_set (o:=0) K0.out (.string X)) (.bool T'.dir)) (.slice bo T'.body.length bc);simpa using h)
 have K13:=Lh (blk_far (o:=2) (blk_far (o:=1) (blk_far (o:=0) K1.out (show w.heap.size+1≠w.heap.size by omega) (.string X)) (show w.heap.size+1≠w.heap.size by omega) (.bool T'.dir)) (show w.heap.size+1≠w.heap.size by omega) (.slice bo T'.body.length bc))
 have K23:=Lh (blk_far (o:=2) (blk_far (o:=1) (blk_far (o:=0) K2.out (show w.heap.size+2≠w.heap.size by omega) (.string X)) (show w.heap.size+2≠w.heap.size by omega) (.bool T'.dir)) (show w.heap.size+2≠w.heap.size by omega) (.slice bo T'.body.length bc))
 have HZ1:Hid (w.heap.size < w1.heap.size):=Lh (by have:=HRw.out;have:=HRl.out;omega)
 have HS3:=Lh ((((Sm.refl w1.heap.size w2).store (o:=0) (Or.inl HZ1.out) (.string X)).store (o:=1) (Or.inl HZ1.out) (.bool T'.dir)).store (o:=2) (Or.inl HZ1.out) (.slice bo T'.body.length bc))
 have HB3:=Lh (bl_set (o:=2) (v:=.slice bo T'.body.length bc) (Nat.le_refl _) (bl_set (o:=1) (v:=.bool T'.dir) (Nat.le_refl _) (bl_set (o:=0) (v:=.string X) (Nat.le_refl _) HB2.out)))
 have HRl3:Hid (R < (((w2.setCell ⟨w.heap.size,0,none⟩ (.string X)).setCell ⟨w.heap.size,1,none⟩ (.bool T'.dir)).setCell ⟨w.heap.size,2,none⟩ (.slice bo T'.body.length bc)).heap.size):=Lh HR3.out.lt
 clear hp2 hself hnm hn2 hr2 K0 K1 K2 HB2 HRl2 HC2 HTA2 hX
 go_wp2_with fail
 clear a0 a1 a2 f0 f1 f2
 generalize (((w2.setCell ⟨w.heap.size,0,none⟩ (.string X)).setCell ⟨w.heap.size,1,none⟩ (.bool T'.dir)).setCell ⟨w.heap.size,2,none⟩ (.slice bo T'.body.length bc))=w3 at HR3 K03 K13 K23 HS3 HB3 HRl3 ⊢
 refine (end_of L R r A' 0 _ w3 HR3 (Lh rfl)).mono ?_
 rintro e w4 ⟨hp4,hx4⟩
 have K0:=Lh (hp4.blk hR0 K03.out)
 have K1:=Lh (hp4.blk hR1 K13.out)
 have K2:=Lh (hp4.blk hR2 K23.out)
 have HB4:Hid (Below w.heap.size w w4):=Lh (below_pk HB3.out hp4 (by have:=HRw.out;omega) (by have:=HRw.out;have:=HRl3.out;omega))
 have HS4:=Lh (HS3.out.pk hp4 HRl.out)
 clear K03 K13 K23 HB3 HS3 HRl3
 cases hr:r.isEmpty
 ·rw [hr] at hx4
  obtain rfl:=hx4
  obtain ⟨rfl,rfl,rfl⟩:=fin_more hf.out HN.out hr
  go_wp2
  exact pa_pan w.heap.size _ _ _ _ _ _ _ _ _ _ _ _ _ _ _ _ _ _ _ _ w w4 K0 K1 K2 rfl HB4.out
 have HE:=Lh hr
 rw [hr] at hx4
 obtain ⟨v,rfl,rfl,-⟩:=hx4
 have HTr:Hid (TrV w4 (.agg #[.string X,.bool T'.dir,.slice bo T'.body.length bc]) T'):=Lh ⟨_,by rw [← HX.out],HNm.out,HS.out.sm HS4.out (Nat.le_refl _) (agree.self _ _ _)⟩
 obtain ⟨a0,a1,a2,f0,f1,f2⟩:=tr3 K0.out
 clear hp4 hr HR3
 go_wp2_with fail
 by_cases hv:validT T'=0
 case neg =>
  obtain ⟨rfl,rfl,rfl⟩:=fin_bad hf.out HN.out HE.out hv
  refine (check_no _ T' _ w4 HTr HCn.out (Lh rfl) hv).mono ?_
  rintro e w5 ⟨rfl,hb5⟩
  have pk:=fun g=>Pk.below (R:=g) hb5
  go_wp2
  exact pa_pan w.heap.size _ _ _ _ _ _ _ _ _ _ _ _ _ _ _ _ _ _ _ _ w w5 (Lh ((pk _).blk (Nat.ne_of_lt (blk_lt K0.out)) K0.out)) (Lh ((pk _).blk (Nat.ne_of_lt (blk_lt K1.out)) K1.out)) (Lh ((pk _).blk (Nat.ne_of_lt (blk_lt K2.out)) K2.out)) rfl (below_keep hb5 HB4.out)
 obtain ⟨rfl,rfl,rfl⟩:=fin_good hf.out HN.out HE.out hv
 refine (check_ok _ T w4 HTr HCn.out (Lh hv)).mono ?_
 rintro e w5 ⟨rfl,hb5⟩
 have K05:=Lh ((Pk.below (R:=w4.heap.size) hb5).blk (Nat.ne_of_lt (blk_lt K0.out)) K0.out)
 have K15:=Lh ((Pk.below (R:=w4.heap.size) hb5).blk (Nat.ne_of_lt (blk_lt K1.out)) K1.out)
 have K25:=Lh ((Pk.below (R:=w4.heap.size) hb5).blk (Nat.ne_of_lt (blk_lt K2.out)) K2.out)
 have HB5:=Lh (below_keep hb5 HB4.out)
 have HS5:Hid (Sm w1.heap.size w2 w5):=Lh (sm_below HS4.out hb5)
 clear a0 a1 a2 f0 f1 f2 hb5 K0 K1 K2 HB4 HS4 HTr
 obtain ⟨a0,a1,a2,f0,f1,f2⟩:=tr3 K05.out
 have c1:w5.cell? ⟨w.heap.size+1,0,none⟩=some (.int .i64 0):=by rw [blk_cell K15.out];rfl
 have c2:w5.cell? ⟨w.heap.size+1+1,0,none⟩=some (.int .i64 0):=by rw [blk_cell (g:=w.heap.size+2) K25.out];rfl
 have g1:w5.frozen? ⟨w.heap.size+1,0,none⟩=false:=blk_free K15.out
 have g2:w5.frozen? ⟨w.heap.size+1+1,0,none⟩=false:=blk_free (g:=w.heap.size+2) K25.out
 go_wp2
 obtain rfl:=HX.out
 have K06:Hid (blk (((((w5.setCell ⟨w.heap.size,0,none⟩ (.string (bb T.name))).setCell ⟨w.heap.size,1,none⟩ (.bool T.dir)).setCell ⟨w.heap.size,2,none⟩ (.slice bo T.body.length bc)).setCell ⟨w.heap.size+1,0,none⟩ (.int .i64 0)).setCell ⟨w.heap.size+1+1,0,none⟩ (.int .i64 0)) w.heap.size 33 #[.string (bb T.name),.bool T.dir,.slice bo T.body.length bc]):=Lh (by have h:=(blk_far (o:=0) (blk_far (o:=0) (blk_set (o:=2) (blk_set (o:=1) (blk_set (o:=0) K05.out (.string (bb T.name))) (.bool T.dir)) (.slice bo T.body.length bc)) (show w.heap.size≠w.heap.size+1 by omega) (.int .i64 0)) (show w.heap.size≠w.heap.size+1+1 by omega) (.int .i64 0));simpa using h)
 have K16:Hid (blk (((((w5.setCell ⟨w.heap.size,0,none⟩ (.string (bb T.name))).setCell ⟨w.heap.size,1,none⟩ (.bool T.dir)).setCell ⟨w.heap.size,2,none⟩ (.slice bo T.body.length bc)).setCell ⟨w.heap.size+1,0,none⟩ (.int .i64 0)).setCell ⟨w.heap.size+1+1,0,none⟩ (.int .i64 0)) (w.heap.size+1) 3 #[.int .i64 0]):=Lh (by have h:=(blk_far (o:=0) (blk_set (o:=0) (blk_far (o:=2) (blk_far (o:=1) (blk_far (o:=0) K15.out (show w.heap.size+1≠w.heap.size by omega) (.string (bb T.name))) (show w.heap.size+1≠w.heap.size by omega) (.bool T.dir)) (show w.heap.size+1≠w.heap.size by omega) (.slice bo T.body.length bc)) (.int .i64 0)) (show w.heap.size+1≠w.heap.size+1+1 by omega) (.int .i64 0));simpa using h)
 have K26:Hid (blk (((((w5.setCell ⟨w.heap.size,0,none⟩ (.string (bb T.name))).setCell ⟨w.heap.size,1,none⟩ (.bool T.dir)).setCell ⟨w.heap.size,2,none⟩ (.slice bo T.body.length bc)).setCell ⟨w.heap.size+1,0,none⟩ (.int .i64 0)).setCell ⟨w.heap.size+1+1,0,none⟩ (.int .i64 0)) (w.heap.size+2) 34 #[.int .i64 0]):=Lh (by have h:=(blk_set (o:=0) (blk_far (o:=0) (blk_far (o:=2) (blk_far (o:=1) (blk_far (o:=0) K25.out (show w.heap.size+2≠w.heap.size by omega) (.string (bb T.name))) (show w.heap.size+2≠w.heap.size by omega) (.bool T.dir)) (show w.heap.size+2≠w.heap.size by omega) (.slice bo T.body.length bc)) (show w.heap.size+2≠w.heap.size+1 by omega) (.int .i64 0)) (.int .i64 0));simpa using h)
 have HB6:=Lh (bl_set (n:=w.heap.size) (g:=w.heap.size+1+1) (o:=0) (v:=.int .i64 0) (by omega) (bl_set (n:=w.heap.size) (g:=w.heap.size+1) (o:=0) (v:=.int .i64 0) (by omega) (bl_set (o:=2) (v:=.slice bo T.body.length bc) (Nat.le_refl _) (bl_set (o:=1) (v:=.bool T.dir) (Nat.le_refl _) (bl_set (o:=0) (v:=.string (bb T.name)) (Nat.le_refl _) HB5.out)))))
 have HS6:=Lh (((((HS5.out.store (o:=0) (Or.inl HZ1.out) (.string (bb T.name))).store (o:=1) (Or.inl HZ1.out) (.bool T.dir)).store (o:=2) (Or.inl HZ1.out) (.slice bo T.body.length bc)).store (g:=w.heap.size+1) (o:=0) (Or.inl (by have:=HRw.out;have:=HRl.out;omega)) (.int .i64 0)).store (g:=w.heap.size+1+1) (o:=0) (Or.inl (by have:=HRw.out;have:=HRl.out;omega)) (.int .i64 0))
 exact pa_ret w.heap.size _ _ _ _ _ _ _ _ _ _ _ _ _ T bo bc w _ K06 K16 K26 (Lh ⟨_,rfl,HNm.out,HS.out.sm HS6.out (Nat.le_refl _) (agree.self _ _ _)⟩) rfl HB6.out
theorem parse_of (s:ByteArray)(T:Tr)(n e:Int)(w:World)(hs:s.size≤maxLen)(htb:Hid (Tab w))(h:Hid (parE s.data.toList=(T,n,e))):Calls Tryz.prog 19 #[.string s] w (ParOut T n e w):=by
 have hh:=h.out
 unfold parE parA at hh
 rcases ht:tokE s.data.toList with ⟨L,l0,k0⟩
 rw [ht] at hh
 simp only at hh
 by_cases hk:k0=0
 ·rw [if_neg (fun q=>q hk)] at hh
  obtain rfl:l0=0:=tok_line ht hk
  subst hk
  exact parse_go s L T n e w hs htb (Lh ht) (Lh hh)
 ·rw [if_pos hk] at hh
  cases hh
  exact parse_tok s L n e w hs (Lh ht) hk
end Go.Proofs.YtgmidodmmlmmeaaGreatDoor.par
namespace Go.Proofs.YtgmidodmmlmmeaaGreatDoor.par
open Go.RowKit lex tre
end Go.Proofs.YtgmidodmmlmmeaaGreatDoor.par
namespace Go.Proofs.YtgmidodmmlmmeaaGreatDoor.par
open Go.RowKit lex tre prt
theorem prL_back (v:List UInt8)(h:(prL v).2=0):fmtL (prL v).1=v:=by
 rcases parseV_ways v with e | e | ⟨n,e,_,_,hf⟩
 ·rw [prL_of (n:=0) (e:=4) e] at h;cases h
 ·rw [prL_of (n:=0) (e:=16) e] at h;cases h
 ·rw [prL_of e];exact hf
end Go.Proofs.YtgmidodmmlmmeaaGreatDoor.par
