/-
  What Check and CheckAll of the reference return. Condition: values of at most 20000 bytes.
  What few, same and ports of the statements of layer 10 return. No condition.
  A map from strings that a call made, its elements as they are: what a look-up gives and what a store leaves. Condition: a text's length.
  The map of rules that the landed code makes for a kind. No condition.
  What number of a rule of the landed code answers. Condition: the text's length.
-/
import Derived.Test.YtcdoicgbjoikkaaGreatDoorMcd
namespace Go.Proofs.YtcdoicgbjoikkaaGreatDoor.att
open Go.RowKit lex tre
theorem rcheck_of (k:Int)(a:Pr)(e0:Int)(w:World)(hm:a.2.length≤20000)(hr:Hid (checkL k a=e0)) :
    Calls Tryz.prog 37 #[.int .i64 k,.agg #[.string (bb a.1),.string (bb a.2)]] w fun e w'=>e=.returned (.int .i64 e0)∧Below w.heap.size w w':=by
 obtain ⟨a1,a2⟩:=a
 simp only at hm ⊢
 have h:=hr.out
 unfold checkL at h
 cases hg:goodK k
 ·rw [if_pos hg] at h
  subst h
  exact rcheck_bad k a1 a2 w (Lh hg)
 rw [if_neg (by rw [hg];decide)] at h
 simp only at h
 obtain ⟨f,lo,hi,no,hx⟩:∃ f lo hi no,knownL k a1=⟨f,lo,hi,no⟩:=⟨_,_,_,_,rfl⟩
 have hf:=known_form k a1
 rw [hx] at h hf
 unfold okV at h
 simp only at h hf
 rcases hf with rfl | rfl | rfl | rfl | rfl | rfl
 ·rw [if_pos rfl] at h
  subst h
  exact rcheck_0 k a1 a2 lo hi no w (Lh hg) (Lh hx)
 ·rw [if_neg (by decide)] at h
  by_cases hl:32 < a2.length
  ·rw [if_pos ⟨rfl,hl⟩] at h
   subst h
   exact rcheck_1l k a1 a2 lo hi no hl hm w (Lh hg) (Lh hx)
  ·rw [if_neg (fun e=>hl e.2),if_pos rfl] at h
   subst h
   exact rcheck_1 k a1 a2 lo hi no (by omega) _ (Lh rfl) w (Lh hg) (Lh hx)
 ·rw [if_neg (by decide),if_neg (fun e=>absurd e.1 (by decide))] at h
  have h2:(if (valR ⟨2,lo,hi,no⟩ a2).2 then (0:Int) else 7)=e0:=h
  subst h2
  exact rcheck_2 k a1 a2 lo hi no hm (valR ⟨2,lo,hi,no⟩ a2).1 _ (Lh rfl) w (Lh hg) (Lh hx)
 ·rw [if_neg (by decide),if_neg (fun e=>absurd e.1 (by decide))] at h
  have h2:(if (valR ⟨3,lo,hi,no⟩ a2).2 then (0:Int) else 7)=e0:=h
  subst h2
  exact rcheck_3 k a1 a2 lo hi no hm (valR ⟨3,lo,hi,no⟩ a2).1 _ (Lh rfl) w (Lh hg) (Lh hx)
 ·rw [if_neg (by decide),if_neg (fun e=>absurd e.1 (by decide))] at h
  have h2:(if decide ((portsL a2).2=0) && decide (a2.length≤32) then (0:Int) else 7)=e0:=h
  subst h2
  exact rcheck_4 k a1 a2 lo hi no hm (portsL a2).1 (portsL a2).2 (Lh rfl) _ (Lh rfl) w (Lh hg) (Lh hx)
 ·rw [if_neg (by decide),if_neg (fun e=>absurd e.1 (by decide))] at h
  have h2:(if decide (0≤modeL a2) then (0:Int) else 7)=e0:=h
  subst h2
  exact rcheck_5 k a1 a2 lo hi no (modeL a2) (Lh rfl) _ (Lh rfl) w (Lh hg) (Lh hx)
end Go.Proofs.YtcdoicgbjoikkaaGreatDoor.att
namespace Go.Proofs.YtcdoicgbjoikkaaGreatDoor.att
open Go.RowKit Go.ChangeMaps Go.MapKept lex tre
def heldR (v:Value):Option (DataW Value × List MemPlace):=some (.held v,[])
def mAt (z:Value)(W:World)(b n:Nat)(D:DataW Value)(F:List UInt8→Value × Bool):Prop :=
 W.ownsMap Tryz.prog 9 heldR b n D∧Maps.IsMap D∧∀ x:List UInt8,D.atKey (.string x) (.held z)=.held (F x).1∧Maps.has D (.string x)=(F x).2
theorem mAt_made (z:Value)(w:World):mAt z (w.alloc (.map #[] 0)) w.heap.size 0 (.map []) (fun _=>(z,false)) :=
 ⟨World.ownsMap_made w _ _ _,Maps.isMap_empty,fun _=>⟨rfl,rfl⟩⟩
theorem mAt.kept {z:Value}{w w':World}{b n:Nat}{D:DataW Value}{F:List UInt8→Value × Bool}{row:Option Nat}(h:mAt z w b n D F)(hg:w.grownBy w' row)(hne:some b≠row):mAt z w' b n D F:=⟨h.1.kept hg hne,h.2⟩
theorem mAt.keep {z:Value}{w w':World}{b n:Nat}{D:DataW Value}{F:List UInt8→Value × Bool}(h:mAt z w b n D F)(hb:Below w.heap.size w w'):mAt z w' b n D F :=
 h.kept (row:=none) ⟨hb.os,hb.tape,hb.output,hb.size,fun k hk _=>hb.block k hk⟩ (by simp)
theorem mAt.lt {z:Value}{w:World}{b n:Nat}{D:DataW Value}{F:List UInt8→Value × Bool}(h:mAt z w b n D F):b < w.heap.size:=h.1.lt
theorem mAt.look {T e:TypeId}{z:Value}(ht:Tryz.prog.underlying T=some (.map 9 e))(hz:∀ w,(zeroValue e).run Tryz.prog w=.ok z w){w:World}{b n:Nat}{D:DataW Value}{F:List UInt8→Value × Bool}(h:mAt z w b n D F)(s:ByteArray)(hs:s.size≤maxLen) :
    (Instr.lookup T (.map (some b)) (.string s) false).run Tryz.prog w=.ok (F s.data.toList).1 w:=by
 obtain ⟨v,ps,hrun,hv⟩:=h.1.lookup (Maps.string_keyed Tryz.underlying9) ht (hz w) (R:=heldR) (zd:=.held z) (zp:=[]) rfl (WideMaps.keyOf_string_mk Tryz.underlying9 hs)
 rw [(h.2.2 _).1] at hv
 unfold heldR at hv
 cases hv
 exact hrun
theorem mAt.lookOk {T e:TypeId}{z:Value}(ht:Tryz.prog.underlying T=some (.map 9 e))(hz:∀ w,(zeroValue e).run Tryz.prog w=.ok z w){w:World}{b n:Nat}{D:DataW Value}{F:List UInt8→Value × Bool}(h:mAt z w b n D F)(s:ByteArray)(hs:s.size≤maxLen) :
    (Instr.lookup T (.map (some b)) (.string s) true).run Tryz.prog w=.ok (.tuple #[(F s.data.toList).1,.bool (F s.data.toList).2]) w:=by
 obtain ⟨v,ps,hrun,hv⟩:=h.1.look_ok (Maps.string_keyed Tryz.underlying9) ht (hz w) (R:=heldR) (zd:=.held z) (zp:=[]) rfl (WideMaps.keyOf_string_mk Tryz.underlying9 hs)
 rw [(h.2.2 _).1] at hv
 rw [(h.2.2 _).2] at hrun
 unfold heldR at hv
 cases hv
 exact hrun
theorem mAt.put {T e:TypeId}{z:Value}(ht:Tryz.prog.underlying T=some (.map 9 e)){w:World}{b n:Nat}{D:DataW Value}{F:List UInt8→Value × Bool}(h:mAt z w b n D F)(s:ByteArray)(v:Value)(hs:s.size≤maxLen)(hn:n < maxLen) :
    ∃ w',(Instr.mapUpdate T (.map (some b)) (.string s) v).run Tryz.prog w=.ok () w'∧mAt z w' b (n+1) (D.put (.string s.data.toList) (.held v)) (fun x=>if x=s.data.toList then (v,true) else F x)∧w.grownBy w' (some b):=by
 obtain ⟨w',hrun,h5,h6⟩:=h.1.update (Maps.string_keyed Tryz.underlying9) ht hn (R:=heldR) (WideMaps.keyOf_string_mk Tryz.underlying9 hs) (d:=.held v) (ps:=[]) rfl
 refine ⟨w',hrun,⟨h5,h.2.1.put _ _,fun x=>?_⟩,h6⟩
 by_cases hx:x=s.data.toList
 ·subst hx
  rw [Maps.atKey_put_same h.2.1 (by trivial),Maps.has_put_same h.2.1 (by trivial)]
  simp
 ·rw [Maps.atKey_put_other (by intro e;injection e with e;exact hx e),Maps.has_put_other (by intro e;injection e with e;exact hx e)]
  simp only [if_neg hx]
  exact h.2.2 x
end Go.Proofs.YtcdoicgbjoikkaaGreatDoor.att
namespace Go.Proofs.YtcdoicgbjoikkaaGreatDoor.att
open Go.RowKit lex tre
def RV (u lo hi us:Int)(f:Value):Value:=.agg #[.int .i64 u,.int .i64 lo,.int .i64 hi,.int .i64 us,f]
def RZ:Value:=RV 0 0 0 0 .nilFunc
def fTx:Value:=.func (.func 118) #[] #[]
def fPo:Value:=.func (.func 119) #[] #[]
def fMo:Value:=.func (.func 120) #[] #[]
def rvN (c:List UInt8):Value × Bool:=if c=wLabel then (RV 0 0 0 0 fTx,true) else if c=wWidth then (RV 1 1 1048576 20000 .nilFunc,true) else if c=wHeight then (RV 1 1 1048576 10000 .nilFunc,true) else if c=wPorts then (RV 0 0 0 0 fPo,true) else (RZ,false)
def rvE (c:List UInt8):Value × Bool:=if c=wLabel then (RV 0 0 0 0 fTx,true) else if c=wWeight then (RV 1000 1 1000 1 .nilFunc,true) else if c=wLen then (RV 1000 1 64 1 .nilFunc,true) else (RZ,false)
def rvS (c:List UInt8):Value × Bool:=if c=wMode then (RV 0 0 0 0 fMo,true) else if c=wNodesep then (RV 1 0 1048576 10000 .nilFunc,true) else if c=wRanksep then (RV 1 0 1048576 20000 .nilFunc,true) else if c=wMargin then (RV 1 0 1048576 5000 .nilFunc,true) else if c=wRounds then (RV 1000 0 100 8 .nilFunc,true) else (RZ,false)
def rvK (k:Int)(c:List UInt8):Value × Bool:=if k=1 then rvN c else if k=2 then rvE c else if k=4 then rvS c else (RZ,false)
def RuM (w:World)(b:Nat)(k:Int):Prop:=∃ n D,mAt RZ w b n D (rvK k)
theorem RuM.keep {w w':World}{b:Nat}{k:Int}(h:RuM w b k)(hb:Below w.heap.size w w'):RuM w' b k:=by
 obtain ⟨n,D,h⟩:=h;exact ⟨n,D,h.keep hb⟩
theorem rz_zero (w:World):(zeroValue 133).run Tryz.prog w=.ok RZ w:=Tryz.zeroValue133 w
theorem RuM.lookOk {w:World}{b:Nat}{k:Int}(h:RuM w b k)(s:ByteArray)(hs:s.size≤maxLen):(Instr.lookup 130 (.map (some b)) (.string s) true).run Tryz.prog w=.ok (.tuple #[(rvK k s.data.toList).1,.bool (rvK k s.data.toList).2]) w:=by
 obtain ⟨n,D,h⟩:=h
 exact h.lookOk Tryz.underlying130 rz_zero s hs
theorem RuM.look {w:World}{b:Nat}{k:Int}(h:RuM w b k)(s:ByteArray)(hs:s.size≤maxLen):(Instr.lookup 130 (.map (some b)) (.string s) false).run Tryz.prog w=.ok (rvK k s.data.toList).1 w:=by
 obtain ⟨n,D,h⟩:=h
 exact h.look Tryz.underlying130 rz_zero s hs
theorem below_put {w0 w w':World}{b:Nat}(h:Below w0.heap.size w0 w)(hg:w.grownBy w' (some b))(hb:w0.heap.size≤b):Below w0.heap.size w0 w':=h.grown hg h.size (fun k e=>by cases e;exact hb)
-- walks
set_option maxRecDepth 100000 in
set_option maxHeartbeats 4000000 in
theorem rules_1 (w:World):Calls Tryz.prog 74 #[.int .i64 1] w fun e w'=>(∃ b,e=.returned (.map (some b))∧RuM w' b 1)∧Below w.heap.size w w':=by
 have m0:=mAt_made RZ w
 have B0:=al1 w (.map #[] 0)
 obtain ⟨w1,r1,m1,g1⟩:=m0.put Tryz.underlying130 ⟨#[108,97,98,101,108]⟩ (RV 0 0 0 0 fTx) (by decide) (by decide)
 have B1:=below_put B0 g1 (Nat.le_refl _)
 obtain ⟨w2,r2,m2,g2⟩:=m1.put Tryz.underlying130 ⟨#[119,105,100,116,104]⟩ (RV 1 1 1048576 20000 .nilFunc) (by decide) (by decide)
 have B2:=below_put B1 g2 (Nat.le_refl _)
 obtain ⟨w3,r3,m3,g3⟩:=m2.put Tryz.underlying130 ⟨#[104,101,105,103,104,116]⟩ (RV 1 1 1048576 10000 .nilFunc) (by decide) (by decide)
 have B3:=below_put B2 g3 (Nat.le_refl _)
 obtain ⟨w4,r4,m4,g4⟩:=m3.put Tryz.underlying130 ⟨#[112,111,114,116,115]⟩ (RV 0 0 0 0 fPo) (by decide) (by decide)
 have B4:=below_put B3 g4 (Nat.le_refl _)
 have HR:Hid (RuM w4 w.heap.size 1):=by
  refine Lh ⟨_,_,m4.1,m4.2.1,fun x=>?_⟩
  have q:=m4.2.2 x
  rw [show rvK 1 x=_ from (?_:rvK 1 x=(_:Value × Bool))]
  ·exact q
  ·rw [show rvK 1 x=rvN x by unfold rvK;simp]
   unfold rvN wLabel wWidth wHeight wPorts
   repeat' split
   all_goals (first | rfl | (subst_vars;simp_all) | simp_all)
 clear m0 m1 m2 m3 m4 g1 g2 g3 g4 B0 B1 B2 B3
 replace r1:(Instr.mapUpdate 130 (.map (some w.heap.size)) (.string ⟨#[108,97,98,101,108]⟩) (.agg #[.int .i64 0,.int .i64 0,.int .i64 0,.int .i64 0,.func (.func 118) #[] #[]])).run Tryz.prog (w.alloc (.map #[] 0))=.ok () w1:=r1
 replace r2:(Instr.mapUpdate 130 (.map (some w.heap.size)) (.string ⟨#[119,105,100,116,104]⟩) (.agg #[.int .i64 1,.int .i64 1,.int .i64 1048576,.int .i64 20000,.nilFunc])).run Tryz.prog w1=.ok () w2:=r2
 replace r3:(Instr.mapUpdate 130 (.map (some w.heap.size)) (.string ⟨#[104,101,105,103,104,116]⟩) (.agg #[.int .i64 1,.int .i64 1,.int .i64 1048576,.int .i64 10000,.nilFunc])).run Tryz.prog w2=.ok () w3:=r3
 replace r4:(Instr.mapUpdate 130 (.map (some w.heap.size)) (.string ⟨#[112,111,114,116,115]⟩) (.agg #[.int .i64 0,.int .i64 0,.int .i64 0,.int .i64 0,.func (.func 119) #[] #[]])).run Tryz.prog w3=.ok () w4:=r4
 have hmm:=@run_makeMap Tryz.prog
 have HB:=Lh B4
 clear B4
 go_enter Tryz.func74,Tryz.ntmps74
 go_wp2
 go_ret
 exact ⟨⟨_,rfl,HR.out⟩,HB.out⟩
set_option maxRecDepth 100000 in
set_option maxHeartbeats 4000000 in
theorem rules_2 (w:World):Calls Tryz.prog 74 #[.int .i64 2] w fun e w'=>(∃ b,e=.returned (.map (some b))∧RuM w' b 2)∧Below w.heap.size w w':=by
 have m0:=mAt_made RZ w
 have B0:=al1 w (.map #[] 0)
 obtain ⟨w1,r1,m1,g1⟩:=m0.put Tryz.underlying130 ⟨#[108,97,98,101,108]⟩ (RV 0 0 0 0 fTx) (by decide) (by decide)
 have B1:=below_put B0 g1 (Nat.le_refl _)
 obtain ⟨w2,r2,m2,g2⟩:=m1.put Tryz.underlying130 ⟨#[119,101,105,103,104,116]⟩ (RV 1000 1 1000 1 .nilFunc) (by decide) (by decide)
 have B2:=below_put B1 g2 (Nat.le_refl _)
 obtain ⟨w3,r3,m3,g3⟩:=m2.put Tryz.underlying130 ⟨#[108,101,110]⟩ (RV 1000 1 64 1 .nilFunc) (by decide) (by decide)
 have B3:=below_put B2 g3 (Nat.le_refl _)
 have HR:Hid (RuM w3 w.heap.size 2):=by
  refine Lh ⟨_,_,m3.1,m3.2.1,fun x=>?_⟩
  have q:=m3.2.2 x
  rw [show rvK 2 x=_ from (?_:rvK 2 x=(_:Value × Bool))]
  ·exact q
  ·rw [show rvK 2 x=rvE x by unfold rvK;simp]
   unfold rvE wLabel wWeight wLen
   repeat' split
   all_goals (first | rfl | (subst_vars;simp_all) | simp_all)
 clear m0 m1 m2 m3 g1 g2 g3 B0 B1 B2
 replace r1:(Instr.mapUpdate 130 (.map (some w.heap.size)) (.string ⟨#[108,97,98,101,108]⟩) (.agg #[.int .i64 0,.int .i64 0,.int .i64 0,.int .i64 0,.func (.func 118) #[] #[]])).run Tryz.prog (w.alloc (.map #[] 0))=.ok () w1:=r1
 replace r2:(Instr.mapUpdate 130 (.map (some w.heap.size)) (.string ⟨#[119,101,105,103,104,116]⟩) (.agg #[.int .i64 1000,.int .i64 1,.int .i64 1000,.int .i64 1,.nilFunc])).run Tryz.prog w1=.ok () w2:=r2
 replace r3:(Instr.mapUpdate 130 (.map (some w.heap.size)) (.string ⟨#[108,101,110]⟩) (.agg #[.int .i64 1000,.int .i64 1,.int .i64 64,.int .i64 1,.nilFunc])).run Tryz.prog w2=.ok () w3:=r3
 have hmm:=@run_makeMap Tryz.prog
 have HB:=Lh B3
 clear B3
 go_enter Tryz.func74,Tryz.ntmps74
 go_wp2
 go_ret
 exact ⟨⟨_,rfl,HR.out⟩,HB.out⟩
set_option maxRecDepth 100000 in
set_option maxHeartbeats 4000000 in
theorem rules_4 (w:World):Calls Tryz.prog 74 #[.int .i64 4] w fun e w'=>(∃ b,e=.returned (.map (some b))∧RuM w' b 4)∧Below w.heap.size w w':=by
 have m0:=mAt_made RZ w
 have B0:=al1 w (.map #[] 0)
 obtain ⟨w1,r1,m1,g1⟩:=m0.put Tryz.underlying130 ⟨#[109,111,100,101]⟩ (RV 0 0 0 0 fMo) (by decide) (by decide)
 have B1:=below_put B0 g1 (Nat.le_refl _)
 obtain ⟨w2,r2,m2,g2⟩:=m1.put Tryz.underlying130 ⟨#[110,111,100,101,115,101,112]⟩ (RV 1 0 1048576 10000 .nilFunc) (by decide) (by decide)
 have B2:=below_put B1 g2 (Nat.le_refl _)
 obtain ⟨w3,r3,m3,g3⟩:=m2.put Tryz.underlying130 ⟨#[114,97,110,107,115,101,112]⟩ (RV 1 0 1048576 20000 .nilFunc) (by decide) (by decide)
 have B3:=below_put B2 g3 (Nat.le_refl _)
 obtain ⟨w4,r4,m4,g4⟩:=m3.put Tryz.underlying130 ⟨#[109,97,114,103,105,110]⟩ (RV 1 0 1048576 5000 .nilFunc) (by decide) (by decide)
 have B4:=below_put B3 g4 (Nat.le_refl _)
 obtain ⟨w5,r5,m5,g5⟩:=m4.put Tryz.underlying130 ⟨#[114,111,117,110,100,115]⟩ (RV 1000 0 100 8 .nilFunc) (by decide) (by decide)
 have B5:=below_put B4 g5 (Nat.le_refl _)
 have HR:Hid (RuM w5 w.heap.size 4):=by
  refine Lh ⟨_,_,m5.1,m5.2.1,fun x=>?_⟩
  have q:=m5.2.2 x
  rw [show rvK 4 x=_ from (?_:rvK 4 x=(_:Value × Bool))]
  ·exact q
  ·rw [show rvK 4 x=rvS x by unfold rvK;simp]
   unfold rvS wMode wNodesep wRanksep wMargin wRounds
   repeat' split
   all_goals (first | rfl | (subst_vars;simp_all) | simp_all)
 clear m0 m1 m2 m3 m4 m5 g1 g2 g3 g4 g5 B0 B1 B2 B3 B4
 replace r1:(Instr.mapUpdate 130 (.map (some w.heap.size)) (.string ⟨#[109,111,100,101]⟩) (.agg #[.int .i64 0,.int .i64 0,.int .i64 0,.int .i64 0,.func (.func 120) #[] #[]])).run Tryz.prog (w.alloc (.map #[] 0))=.ok () w1:=r1
 replace r2:(Instr.mapUpdate 130 (.map (some w.heap.size)) (.string ⟨#[110,111,100,101,115,101,112]⟩) (.agg #[.int .i64 1,.int .i64 0,.int .i64 1048576,.int .i64 10000,.nilFunc])).run Tryz.prog w1=.ok () w2:=r2
 replace r3:(Instr.mapUpdate 130 (.map (some w.heap.size)) (.string ⟨#[114,97,110,107,115,101,112]⟩) (.agg #[.int .i64 1,.int .i64 0,.int .i64 1048576,.int .i64 20000,.nilFunc])).run Tryz.prog w2=.ok () w3:=r3
 replace r4:(Instr.mapUpdate 130 (.map (some w.heap.size)) (.string ⟨#[109,97,114,103,105,110]⟩) (.agg #[.int .i64 1,.int .i64 0,.int .i64 1048576,.int .i64 5000,.nilFunc])).run Tryz.prog w3=.ok () w4:=r4
 replace r5:(Instr.mapUpdate 130 (.map (some w.heap.size)) (.string ⟨#[114,111,117,110,100,115]⟩) (.agg #[.int .i64 1000,.int .i64 0,.int .i64 100,.int .i64 8,.nilFunc])).run Tryz.prog w4=.ok () w5:=r5
 have hmm:=@run_makeMap Tryz.prog
 have HB:=Lh B5
 clear B5
 go_enter Tryz.func74,Tryz.ntmps74
 go_wp2
 go_ret
 exact ⟨⟨_,rfl,HR.out⟩,HB.out⟩
set_option maxHeartbeats 2000000 in
theorem rules_no (k:Int)(w:World)(h:goodK k=false):Calls Tryz.prog 74 #[.int .i64 k] w fun e w'=>e=.returned (.map none)∧Below w.heap.size w w':=by
 unfold goodK at h
 simp only [Bool.or_eq_false_iff,decide_eq_false_iff_not] at h
 obtain ⟨⟨h1,h2⟩,h4⟩:=h
 go_enter Tryz.func74,Tryz.ntmps74
 go_wp2
 go_ret
 exact ⟨rfl,Below.refl _ _⟩
theorem rules_yes (k:Int)(w:World)(h:goodK k=true):Calls Tryz.prog 74 #[.int .i64 k] w fun e w'=>(∃ b,e=.returned (.map (some b))∧RuM w' b k)∧Below w.heap.size w w':=by
 unfold goodK at h
 simp only [Bool.or_eq_true,decide_eq_true_eq] at h
 rcases h with (rfl | rfl) | rfl
 ·exact rules_1 w
 ·exact rules_2 w
 ·exact rules_4 w
def numC (u lo hi:Int)(s:List UInt8):Int × Bool :=
 if (prL s).2≠0∨u=0∨(prL s).1.tmod u≠0 then (0,false) else ((prL s).1.tdiv u,decide (lo≤(prL s).1.tdiv u) && decide ((prL s).1.tdiv u≤hi))
set_option maxRecDepth 100000 in
set_option maxHeartbeats 4000000 in
theorem number_0 (lo hi us:Int)(fv:Value)(s:ByteArray)(n:Int)(b:Bool)(w:World)(hs:s.size≤maxLen)(h:Hid (numC 0 lo hi s.data.toList=(n,b))) :
    Calls Tryz.prog 78 #[.agg #[.int .i64 0,.int .i64 lo,.int .i64 hi,.int .i64 us,fv],.string s] w fun e w'=>e=.returned (.tuple #[.int .i64 n,.bool b])∧Below w.heap.size w w':=by
 have hs':s.size≤9223372036854775807:=by unfold maxLen at hs;omega
 have hr:=h.out
 clear h hs
 unfold numC at hr
 have hrg:=prL_range s.data.toList
 obtain ⟨pn,pe,hpe⟩:∃ a c,prL s.data.toList=(a,c):=⟨_,_,rfl⟩
 have HP:Hid (parseV s.data.toList=.tuple #[.int .i64 pn,.int .i64 pe]):=Lh (by rw [parseV_pr,hpe])
 rw [hpe] at hr hrg
 simp only at hr hrg
 clear hpe
 by_cases h0:pe=0
 case neg =>
  rw [if_pos (Or.inl h0)] at hr
  cases hr
  have b0:(pe != 0)=true:=by rw [bne_iff_ne];exact h0
  clear hrg h0
  go_enter Tryz.func78,Tryz.ntmps78
  go_wp2_with fail
  refine (parse_any _ _ hs').mono ?_
  rintro e w1 ⟨rfl,rfl⟩
  rw [HP.out]
  go_wp2
  go_ret2
  exact ⟨rfl,al1 ..⟩
 have hg:=hrg h0
 subst h0
 clear hrg
 rw [if_pos (Or.inr (Or.inl trivial))] at hr
 cases hr
 clear hg
 go_enter Tryz.func78,Tryz.ntmps78
 go_wp2_with fail
 refine (parse_any _ _ hs').mono ?_
 rintro e w1 ⟨rfl,rfl⟩
 rw [HP.out]
 go_wp2
 go_ret2
 exact ⟨rfl,al1 ..⟩
set_option maxRecDepth 100000 in
set_option maxHeartbeats 4000000 in
theorem number_1 (lo hi us:Int)(fv:Value)(s:ByteArray)(n:Int)(b:Bool)(w:World)(hs:s.size≤maxLen)(h:Hid (numC 1 lo hi s.data.toList=(n,b))) :
    Calls Tryz.prog 78 #[.agg #[.int .i64 1,.int .i64 lo,.int .i64 hi,.int .i64 us,fv],.string s] w fun e w'=>e=.returned (.tuple #[.int .i64 n,.bool b])∧Below w.heap.size w w':=by
 have hs':s.size≤9223372036854775807:=by unfold maxLen at hs;omega
 have hr:=h.out
 clear h hs
 unfold numC at hr
 have hrg:=prL_range s.data.toList
 obtain ⟨pn,pe,hpe⟩:∃ a c,prL s.data.toList=(a,c):=⟨_,_,rfl⟩
 have HP:Hid (parseV s.data.toList=.tuple #[.int .i64 pn,.int .i64 pe]):=Lh (by rw [parseV_pr,hpe])
 rw [hpe] at hr hrg
 simp only at hr hrg
 clear hpe
 by_cases h0:pe=0
 case neg =>
  rw [if_pos (Or.inl h0)] at hr
  cases hr
  have b0:(pe != 0)=true:=by rw [bne_iff_ne];exact h0
  clear hrg h0
  go_enter Tryz.func78,Tryz.ntmps78
  go_wp2_with fail
  refine (parse_any _ _ hs').mono ?_
  rintro e w1 ⟨rfl,rfl⟩
  rw [HP.out]
  go_wp2
  go_ret2
  exact ⟨rfl,al1 ..⟩
 have hg:=hrg h0
 subst h0
 clear hrg
 rw [if_neg (by simp [Int.tmod_one])] at hr
 rw [Int.tdiv_one] at hr
 have t1:IntKind.i64.wrap pn=pn:=IntWalk.i64_in _ (by omega)
 have u1:pn.tmod 1=0:=Int.tmod_one pn
 have u2:pn.tdiv 1=pn:=Int.tdiv_one pn
 have e1:=(Prod.mk.inj hr).1
 have e2:=(Prod.mk.inj hr).2
 subst e1
 subst e2
 clear hr hg
 obtain ⟨q1,hq1⟩:∃ q,decide (lo≤pn)=q:=⟨_,rfl⟩
 obtain ⟨q2,hq2⟩:∃ q,decide (pn≤hi)=q:=⟨_,rfl⟩
 rw [hq1,hq2]
 cases q1
 ·go_enter Tryz.func78,Tryz.ntmps78
  go_wp2_with fail
  refine (parse_any _ _ hs').mono ?_
  rintro e w1 ⟨rfl,rfl⟩
  rw [HP.out]
  go_wp2
  go_quiet (fail)
  have hB:=below_keep (drew_n (w.alloc (.cells #[.int .i64 1,.int .i64 lo,.int .i64 hi,.int .i64 us,fv] 133)) nq) (al1 ..)
  generalize (w.alloc (.cells #[.int .i64 1,.int .i64 lo,.int .i64 hi,.int .i64 us,fv] 133)).drewN nq=wn at hB ⊢
  go_wp2
  go_ret2
  exact ⟨rfl,hB⟩
 ·go_enter Tryz.func78,Tryz.ntmps78
  go_wp2_with fail
  refine (parse_any _ _ hs').mono ?_
  rintro e w1 ⟨rfl,rfl⟩
  rw [HP.out]
  go_wp2
  go_quiet (fail)
  have hB:=below_keep (drew_n (w.alloc (.cells #[.int .i64 1,.int .i64 lo,.int .i64 hi,.int .i64 us,fv] 133)) nq) (al1 ..)
  generalize (w.alloc (.cells #[.int .i64 1,.int .i64 lo,.int .i64 hi,.int .i64 us,fv] 133)).drewN nq=wn at hB ⊢
  go_wp2
  go_ret2
  exact ⟨rfl,hB⟩
set_option maxRecDepth 100000 in
set_option maxHeartbeats 4000000 in
theorem number_1000 (lo hi us:Int)(fv:Value)(s:ByteArray)(n:Int)(b:Bool)(w:World)(hs:s.size≤maxLen)(h:Hid (numC 1000 lo hi s.data.toList=(n,b))) :
    Calls Tryz.prog 78 #[.agg #[.int .i64 1000,.int .i64 lo,.int .i64 hi,.int .i64 us,fv],.string s] w fun e w'=>e=.returned (.tuple #[.int .i64 n,.bool b])∧Below w.heap.size w w':=by
 have hs':s.size≤9223372036854775807:=by unfold maxLen at hs;omega
 have hr:=h.out
 clear h hs
 unfold numC at hr
 have hrg:=prL_range s.data.toList
 obtain ⟨pn,pe,hpe⟩:∃ a c,prL s.data.toList=(a,c):=⟨_,_,rfl⟩
 have HP:Hid (parseV s.data.toList=.tuple #[.int .i64 pn,.int .i64 pe]):=Lh (by rw [parseV_pr,hpe])
 rw [hpe] at hr hrg
 simp only at hr hrg
 clear hpe
 by_cases h0:pe=0
 case neg =>
  rw [if_pos (Or.inl h0)] at hr
  cases hr
  have b0:(pe != 0)=true:=by rw [bne_iff_ne];exact h0
  clear hrg h0
  go_enter Tryz.func78,Tryz.ntmps78
  go_wp2_with fail
  refine (parse_any _ _ hs').mono ?_
  rintro e w1 ⟨rfl,rfl⟩
  rw [HP.out]
  go_wp2
  go_ret2
  exact ⟨rfl,al1 ..⟩
 have hg:=hrg h0
 subst h0
 clear hrg
 have m1:(pn.tmod 1000).natAbs=pn.natAbs % 1000:=by rw [Int.natAbs_tmod];rfl
 have m2:(pn.tdiv 1000).natAbs=pn.natAbs / 1000:=by rw [Int.natAbs_tdiv];rfl
 have t1:IntKind.i64.wrap (pn.tmod 1000)=pn.tmod 1000:=IntWalk.i64_in _ (by omega)
 have t2:IntKind.i64.wrap (pn.tdiv 1000)=pn.tdiv 1000:=IntWalk.i64_in _ (by omega)
 by_cases h4:pn.tmod 1000=0
 case neg =>
  rw [if_pos (Or.inr (Or.inr h4))] at hr
  cases hr
  have b4:(pn.tmod 1000 != 0)=true:=by rw [bne_iff_ne];exact h4
  clear h4 hg m1 m2
  go_enter Tryz.func78,Tryz.ntmps78
  go_wp2_with fail
  refine (parse_any _ _ hs').mono ?_
  rintro e w1 ⟨rfl,rfl⟩
  rw [HP.out]
  go_wp2
  go_ret2
  exact ⟨rfl,al1 ..⟩
 rw [if_neg (by simp [h4])] at hr
 have b4:(pn.tmod 1000 != 0)=false:=by rw [h4];rfl
 have e1:=(Prod.mk.inj hr).1
 have e2:=(Prod.mk.inj hr).2
 subst e1
 subst e2
 clear hr h4 hg m1 m2
 obtain ⟨q1,hq1⟩:∃ q,decide (lo≤pn.tdiv 1000)=q:=⟨_,rfl⟩
 obtain ⟨q2,hq2⟩:∃ q,decide (pn.tdiv 1000≤hi)=q:=⟨_,rfl⟩
 rw [hq1,hq2]
 cases q1
 ·go_enter Tryz.func78,Tryz.ntmps78
  go_wp2_with fail
  refine (parse_any _ _ hs').mono ?_
  rintro e w1 ⟨rfl,rfl⟩
  rw [HP.out]
  go_wp2
  go_quiet (fail)
  have hB:=below_keep (drew_n (w.alloc (.cells #[.int .i64 1000,.int .i64 lo,.int .i64 hi,.int .i64 us,fv] 133)) nq) (al1 ..)
  generalize (w.alloc (.cells #[.int .i64 1000,.int .i64 lo,.int .i64 hi,.int .i64 us,fv] 133)).drewN nq=wn at hB ⊢
  go_wp2
  go_ret2
  exact ⟨rfl,hB⟩
 ·go_enter Tryz.func78,Tryz.ntmps78
  go_wp2_with fail
  refine (parse_any _ _ hs').mono ?_
  rintro e w1 ⟨rfl,rfl⟩
  rw [HP.out]
  go_wp2
  go_quiet (fail)
  have hB:=below_keep (drew_n (w.alloc (.cells #[.int .i64 1000,.int .i64 lo,.int .i64 hi,.int .i64 us,fv] 133)) nq) (al1 ..)
  generalize (w.alloc (.cells #[.int .i64 1000,.int .i64 lo,.int .i64 hi,.int .i64 us,fv] 133)).drewN nq=wn at hB ⊢
  go_wp2
  go_ret2
  exact ⟨rfl,hB⟩
theorem number_of (u lo hi us:Int)(fv:Value)(s:ByteArray)(n:Int)(b:Bool)(w:World)(hs:s.size≤maxLen)(hu:u=0∨u=1∨u=1000)(h:Hid (numC u lo hi s.data.toList=(n,b))) :
    Calls Tryz.prog 78 #[.agg #[.int .i64 u,.int .i64 lo,.int .i64 hi,.int .i64 us,fv],.string s] w fun e w'=>e=.returned (.tuple #[.int .i64 n,.bool b])∧Below w.heap.size w w':=by
 rcases hu with rfl | rfl | rfl
 ·exact number_0 lo hi us fv s n b w hs h
 ·exact number_1 lo hi us fv s n b w hs h
 ·exact number_1000 lo hi us fv s n b w hs h
end Go.Proofs.YtcdoicgbjoikkaaGreatDoor.att
