/-
  What edges of the reference's machine does (layer 12). Conditions: a machine of at most 100000 nodes and edges in memory, lists of at most 20000 attributes.
-/
import Derived.Test.YtcdoicgbjoikkaaGreatDoorMnk
namespace Go.Proofs.YtcdoicgbjoikkaaGreatDoor.nor
open Go.RowKit lex tre att
set_option maxRecDepth 100000 in
set_option maxHeartbeats 1000000 in
theorem edges_of (B b:Nat)(nm:Nm)(d:Bool)(s:Sta)(x:StV)(k:Int)(Z:ByteArray)(rs ats:List Pr)(ro uo bo:Option Addr)(rc tc bn bc:Nat)(p:Pl)(po qo:Option Addr)(pc qc:Nat)(w:World)(hS:Hid (StB w B b nm d s x))(hr:Hid (PrsS B w (.slice ro rs.length rc) rs))(ha:Hid (PrsS B w (.slice uo ats.length tc) ats))(hp:Hid (PrsT w (.slice po p.dn.length pc) p.dn))(hq:Hid (PrsT w (.slice qo p.de.length qc) p.de))
    (hl:s.ns.length+rs.length≤100000) (hal:s.ats.length+rs.length≤100000) (hel:s.en.length+rs.length≤100000) (had:ats.length≤20000) (hqd:p.de.length≤20000) :
    Calls Tryz.prog 69 #[.pointer (some ⟨b,0,none⟩),.agg #[.int .i64 k,.string Z,.slice ro rs.length rc,.slice uo ats.length tc,.slice bo bn bc],.agg #[.int .i64 p.cl,.slice po p.dn.length pc,.slice qo p.de.length qc]] w fun e w'=>e=.returned (.tuple #[])∧MacOut B b nm d (edgesS s rs ats p) w w':=by
 go_enter Tryz.func69,Tryz.ntmps69
 obtain ⟨M,HM⟩:=box_pred (fun a' w'=>(a'=⟨#[.pointer (some ⟨b,0,none⟩),.agg #[.int .i64 k,.string Z,.slice ro rs.length rc,.slice uo ats.length tc,.slice bo bn bc],.agg #[.int .i64 p.cl,.slice po p.dn.length pc,.slice qo p.de.length qc],undef,.pointer (some ⟨w.heap.size,0,none⟩),.pointer (some ⟨w.heap.size+1,0,none⟩),undef,undef,undef,undef,undef,undef,undef,undef,undef,undef,undef,undef,undef,undef,undef,undef,undef,undef,undef,undef,undef,undef,undef,undef,undef,undef,undef,undef,undef,undef,undef,undef,undef,undef,undef,undef,undef,undef,undef,undef,undef,undef,undef,undef,undef,undef,undef,undef,undef,undef,undef,undef,undef,undef,undef,undef,undef,undef,undef,undef,undef,undef,undef,undef,undef,undef,undef,undef,undef,undef,undef,undef,undef,undef,undef,undef,undef,undef,undef],[]⟩∧w'=(w.alloc (.cells #[.int .i64 k,.string Z,.slice ro rs.length rc,.slice uo ats.length tc,.slice bo bn bc] 56)).alloc (.cells #[.int .i64 p.cl,.slice po p.dn.length pc,.slice qo p.de.length qc] 77)))
 refine seq_mid M ?_ ?_
 ·go_wp2
  exact (HM.out _ _).2 ⟨rfl,rfl⟩
 intro a' w' hm
 obtain ⟨rfl,rfl⟩:=(HM.out _ _).1 hm
 clear HM hm M
 have hB1:Below w.heap.size w ((w.alloc (.cells #[.int .i64 k,.string Z,.slice ro rs.length rc,.slice uo ats.length tc,.slice bo bn bc] 56)).alloc (.cells #[.int .i64 p.cl,.slice po p.dn.length pc,.slice qo p.de.length qc] 77)):=al2 ..
 have hbx:blk ((w.alloc (.cells #[.int .i64 k,.string Z,.slice ro rs.length rc,.slice uo ats.length tc,.slice bo bn bc] 56)).alloc (.cells #[.int .i64 p.cl,.slice po p.dn.length pc,.slice qo p.de.length qc] 77)) w.heap.size 56 #[.int .i64 k,.string Z,.slice ro rs.length rc,.slice uo ats.length tc,.slice bo bn bc]:=(TFr.alloc _ _).blk (blk_new ..) rfl
 have hbp:blk ((w.alloc (.cells #[.int .i64 k,.string Z,.slice ro rs.length rc,.slice uo ats.length tc,.slice bo bn bc] 56)).alloc (.cells #[.int .i64 p.cl,.slice po p.dn.length pc,.slice qo p.de.length qc] 77)) (w.heap.size+1) 77 #[.int .i64 p.cl,.slice po p.dn.length pc,.slice qo p.de.length qc]:=by have:=blk_new (w.alloc (.cells #[.int .i64 k,.string Z,.slice ro rs.length rc,.slice uo ats.length tc,.slice bo bn bc] 56)) #[.int .i64 p.cl,.slice po p.dn.length pc,.slice qo p.de.length qc] 77;rwa [show (w.alloc (.cells #[.int .i64 k,.string Z,.slice ro rs.length rc,.slice uo ats.length tc,.slice bo bn bc] 56)).heap.size=w.heap.size+1 by simp] at this
 have hsz:((w.alloc (.cells #[.int .i64 k,.string Z,.slice ro rs.length rc,.slice uo ats.length tc,.slice bo bn bc] 56)).alloc (.cells #[.int .i64 p.cl,.slice po p.dn.length pc,.slice qo p.de.length qc] 77)).heap.size=w.heap.size+1+1:=by simp
 generalize (w.alloc (.cells #[.int .i64 k,.string Z,.slice ro rs.length rc,.slice uo ats.length tc,.slice bo bn bc] 56)).alloc (.cells #[.int .i64 p.cl,.slice po p.dn.length pc,.slice qo p.de.length qc] 77)=W1 at hB1 hbx hbp hsz ⊢
 have HED:Hid (EdR W1 W1 B b w.heap.size nm d s rs p #[.int .i64 k,.string Z,.slice ro rs.length rc,.slice uo ats.length tc,.slice bo bn bc] #[.int .i64 p.cl,.slice po p.dn.length pc,.slice qo p.de.length qc] (.slice none 0 0) 0 [] s x):=Lh ⟨hS.out.below hB1,World.ownsRow_nil ..,rfl,rfl,rfl,Nat.le_refl _,Nat.le_refl _,rfl,TFr.refl _,Below.refl _ _,hbx,hbp⟩
 have HB1:=Lh hB1
 have HSZ:=Lh hsz
 have HBP:=Lh hS.out.base
 have hrsl:rs.length≤100000:=by omega
 clear hB1 hbx hbp
 obtain ⟨M,HM⟩:=box_pred (fun a' w'=>(a'=⟨#[.pointer (some ⟨b,0,none⟩),.agg #[.int .i64 k,.string Z,.slice ro rs.length rc,.slice uo ats.length tc,.slice bo bn bc],.agg #[.int .i64 p.cl,.slice po p.dn.length pc,.slice qo p.de.length qc],undef,.pointer (some ⟨w.heap.size,0,none⟩),.pointer (some ⟨w.heap.size+1,0,none⟩),.slice none 0 0,undef,undef,undef,undef,undef,undef,undef,undef,undef,undef,undef,undef,undef,undef,undef,undef,undef,undef,undef,undef,undef,undef,undef,undef,undef,undef,undef,undef,undef,undef,undef,undef,undef,undef,undef,undef,undef,undef,undef,undef,undef,undef,undef,undef,undef,undef,undef,undef,undef,undef,undef,undef,undef,undef,undef,undef,undef,undef,undef,undef,undef,undef,undef,undef,undef,undef,undef,undef,undef,undef,undef,undef,undef,undef,undef,undef,undef,undef],[]⟩∧w'=W1))
 refine seq_mid M ?_ ?_
 ·go_wp2
  exact (HM.out _ _).2 ⟨rfl,rfl⟩
 intro a' w' hm
 obtain ⟨rfl,hw9⟩:=(HM.out _ _).1 hm
 rw [hw9]
 clear HM hm M hw9 w'
 obtain ⟨M,HM⟩:=box_pred (fun a' w'=>∃ lv,a'=⟨#[.pointer (some ⟨b,0,none⟩),.agg #[.int .i64 k,.string Z,.slice ro rs.length rc,.slice uo ats.length tc,.slice bo bn bc],.agg #[.int .i64 p.cl,.slice po p.dn.length pc,.slice qo p.de.length qc],undef,.pointer (some ⟨w.heap.size,0,none⟩),.pointer (some ⟨w.heap.size+1,0,none⟩),lv,a'.tmps.getD 7 undef,a'.tmps.getD 8 undef,a'.tmps.getD 9 undef,a'.tmps.getD 10 undef,a'.tmps.getD 11 undef,a'.tmps.getD 12 undef,a'.tmps.getD 13 undef,a'.tmps.getD 14 undef,a'.tmps.getD 15 undef,a'.tmps.getD 16 undef,a'.tmps.getD 17 undef,a'.tmps.getD 18 undef,a'.tmps.getD 19 undef,a'.tmps.getD 20 undef,a'.tmps.getD 21 undef,a'.tmps.getD 22 undef,a'.tmps.getD 23 undef,a'.tmps.getD 24 undef,a'.tmps.getD 25 undef,a'.tmps.getD 26 undef,a'.tmps.getD 27 undef,a'.tmps.getD 28 undef,a'.tmps.getD 29 undef,a'.tmps.getD 30 undef,a'.tmps.getD 31 undef,a'.tmps.getD 32 undef,a'.tmps.getD 33 undef,a'.tmps.getD 34 undef,a'.tmps.getD 35 undef,a'.tmps.getD 36 undef,a'.tmps.getD 37 undef,a'.tmps.getD 38 undef,a'.tmps.getD 39 undef,a'.tmps.getD 40 undef,a'.tmps.getD 41 undef,a'.tmps.getD 42 undef,a'.tmps.getD 43 undef,a'.tmps.getD 44 undef,a'.tmps.getD 45 undef,a'.tmps.getD 46 undef,a'.tmps.getD 47 undef,a'.tmps.getD 48 undef,a'.tmps.getD 49 undef,a'.tmps.getD 50 undef,a'.tmps.getD 51 undef,a'.tmps.getD 52 undef,a'.tmps.getD 53 undef,a'.tmps.getD 54 undef,a'.tmps.getD 55 undef,a'.tmps.getD 56 undef,a'.tmps.getD 57 undef,a'.tmps.getD 58 undef,a'.tmps.getD 59 undef,a'.tmps.getD 60 undef,a'.tmps.getD 61 undef,a'.tmps.getD 62 undef,a'.tmps.getD 63 undef,a'.tmps.getD 64 undef,a'.tmps.getD 65 undef,a'.tmps.getD 66 undef,a'.tmps.getD 67 undef,a'.tmps.getD 68 undef,a'.tmps.getD 69 undef,a'.tmps.getD 70 undef,a'.tmps.getD 71 undef,a'.tmps.getD 72 undef,a'.tmps.getD 73 undef,a'.tmps.getD 74 undef,a'.tmps.getD 75 undef,a'.tmps.getD 76 undef,a'.tmps.getD 77 undef,a'.tmps.getD 78 undef,a'.tmps.getD 79 undef,a'.tmps.getD 80 undef,a'.tmps.getD 81 undef,a'.tmps.getD 82 undef,a'.tmps.getD 83 undef,a'.tmps.getD 84 undef],[]⟩∧∃ x',EdR W1 w' B b w.heap.size nm d s rs p #[.int .i64 k,.string Z,.slice ro rs.length rc,.slice uo ats.length tc,.slice bo bn bc] #[.int .i64 p.cl,.slice po p.dn.length pc,.slice qo p.de.length qc] lv (refsI rs s p).length (refsI rs s p) (refsS rs s p) x')
 refine seq_mid M ?_ ?_
 ·go_wp2_with fail
  go_loopw [6,7] (fun lv iv wr=>∃ (i:Nat) (C:List Int) (s1:Sta) (x1:StV),iv=.int .i64 i∧i≤rs.length∧EdR W1 wr B b w.heap.size nm d s rs p #[.int .i64 k,.string Z,.slice ro rs.length rc,.slice uo ats.length tc,.slice bo bn bc] #[.int .i64 p.cl,.slice po p.dn.length pc,.slice qo p.de.length qc] lv i C s1 x1) (fun _ iv _=>rs.length - (intOf iv).toNat)
  case atStart=>exact ⟨0,[],s,x,rfl,Nat.zero_le _,HED.out⟩
  case round =>
   obtain ⟨i,C,s1,x1,rfl,hi,hed⟩:=hrel
   rename World=>wr
   obtain ⟨oo,oc,rfl,_,_⟩:=own_form hed.row
   obtain ⟨c2,c4,c5,c6,c7⟩:=hed.st.box.read
   have x0:wr.cell? ⟨w.heap.size,2,none⟩=some (.slice ro rs.length rc):=by rw [blk_cell hed.bx];rfl
   have HE:=Lh hed
   clear hed c2 c4 c5 c6 HED
   have HT:Hid (TFr w wr):=Lh ((TFr.below HB1.out).trans HE.out.fr)
   have HB:Hid (Below B w wr):=Lh ((HB1.out.mono hS.out.base).trans HE.out.bl)
   by_cases he:s1.e=0
   ·by_cases hlt:i < rs.length
    ·obtain ⟨ao',cap',e',_,_,hA⟩:=hr.out wr HT.out HB.out
     cases e'
     obtain ⟨A,rfl,hAt⟩:=hA (by omega)
     obtain ⟨q0,-,-,-⟩:=hAt i hlt
     obtain ⟨n,hn⟩:∃ n,rs[i].1=n:=⟨_,rfl⟩
     rw [hn] at q0
     have i0:(0:Int)≤(i:Int):=by omega
     have i1:(i:Int) < (rs.length:Int):=by omega
     have HNn:=Lh hn
     have hS0:ed5 wr w.heap.size A (A.add (i*2)) rs.length rc n p.cl (.slice po p.dn.length pc) (.slice qo p.de.length qc):=⟨x0,q0,by rw [blk_cell HE.out.bp];rfl,by rw [blk_cell HE.out.bp];rfl,by rw [blk_cell HE.out.bp];rfl⟩
     clear hA hAt hn
     go_wp2_with fail
     obtain ⟨i9,hi0,hz0,hz1,hz2⟩:=info_of info_int
     have hle1:s1.ns.length≤100000:=by have:=HE.out.nl;omega
     have hle2:s1.ats.length≤100000:=by have:=HE.out.al;omega
     have hCl:C.length≤1000000:=by have:=HE.out.len;omega
     go_region_held3 (fun w'=>ed5 w' w.heap.size A (A.add (i*2)) rs.length rc n p.cl (.slice po p.dn.length pc) (.slice qo p.de.length qc))
      (repeat (first | assumption | (with_reducible refine ed5_drew ?_) | (with_reducible refine ed5_alloc ?_)))
      (first
      | (go_at_call 67;refine (mention_of B b nm d s1 x1 n p _ _ _ (Lh (HE.out.st.below (by repeat (first | (with_reducible exact Below.refl _ _) | (with_reducible refine Below.drew ?_) | (with_reducible refine b_allocN ?_ ?_) | (simp;done) | omega)))) (Lh ((HT.out.prs hp.out).keep (by repeat (first | (with_reducible exact Below.refl _ _) | (with_reducible refine Below.drew ?_) | (with_reducible refine b_allocN ?_ ?_) | (simp;done) | omega)))) hle1 hle2).mono ?_;rintro e w6 ⟨rfl,x6,hs6,ht6,hb6⟩;have hT6:TFr wr w6:=TFr.trans (TFr.below (by repeat (first | (with_reducible exact Below.refl _ _) | (with_reducible refine Below.drew ?_) | (with_reducible refine b_allocN ?_ ?_) | (simp;done) | omega))) ht6;have hB6:Below B wr w6:=Below.trans (Below.mono (B:=wr.heap.size) (by repeat (first | (with_reducible exact Below.refl _ _) | (with_reducible refine Below.drew ?_) | (with_reducible refine b_allocN ?_ ?_) | (simp;done) | omega)) HE.out.st.base) hb6;have hP:ed5 w6 w.heap.size A (A.add (i*2)) rs.length rc n p.cl (.slice po p.dn.length pc) (.slice qo p.de.length qc):=ed5_at (hT6.blk HE.out.bx rfl) (hT6.blk HE.out.bp rfl) (hr.out w6 (HT.out.trans hT6) (HB.out.trans hB6)) hlt HNn.out;have hrow6:=tfr_own HE.out.row hT6 rfl;have hsz6:w.heap.size+2≤w6.heap.size:=by have h8:=HE.out.fr.size;have h9:=hT6.size;omega)
      | (refine step_append_lies _ (by rfl) _ _ _ (by rfl) (w.heap.size+2) 3 i9 _ 1 8 Tryz.underlying167 hi0 hz0 hz1 hz2 rfl (by omega) (.slice oo C.length oc) C.length (C.flatMap inC) (by rfl) (by exact row_below hrow6 (by repeat (first | (with_reducible exact Below.refl _ _) | (with_reducible refine Below.drew ?_) | (with_reducible refine b_allocN ?_ ?_) | (simp;done) | omega))) ⟨w6.heap.size,0,none⟩ 1 1 [.int .i64 (mentI s1 n)] (by rfl) (by rfl) (by exact World.news_of_block (cs:=#[.int .i64 (mentI s1 n)]) (t:=3) (fr:=(0,0)) (heap_alloc_new _ _)) (by simp [Value.oneCell']) (by omega) (by unfold maxLen;omega) (by omega) (by simp;omega) (w6.heap.size+1) (by simp) ?_;intro gg cap1 w7 hown7 hgrow7 hat7 hlt7;have hED7:=EdR.next (lv':=.slice (some ⟨gg,0,none⟩) (C.length+1) cap1) HE.out hs6 hT6 hB6 (by exact (by repeat (first | (with_reducible exact Below.refl _ _) | (with_reducible refine Below.drew ?_) | (with_reducible refine b_allocN ?_ ?_) | (simp;done) | omega))) hgrow7 (by show World.ownsRow _ _ _ _ _ (C ++ [_]).length _;rw [List.length_append,List.flatMap_append];exact hown7) hlt HNn.out he HSZ.out HBP.out;have hP:ed5 w7 w.heap.size A (A.add (i*2)) rs.length rc n p.cl (.slice po p.dn.length pc) (.slice qo p.de.length qc):=ed5_at hED7.bx hED7.bp (hr.out w7 ((TFr.below HB1.out).trans hED7.fr) ((HB1.out.mono HBP.out).trans hED7.bl)) hlt HNn.out))
     all_goals
      have HED7:=Lh hED7
      clear hP hED7 hs6 hT6 hB6 hrow6 hgrow7 hat7 hlt7 hown7 hS0 q0 x0
      go_wp2
      go_roundw
      case rel=>exact ⟨i+1,_,_,_,by go_num,by omega,HED7.out⟩
      case measure=>simp [intOf];omega
    ·have dl:decide ((i:Int) < (rs.length:Int))=false:=decide_eq_false (by omega)
     have HFI:Hid (∃ x',EdR W1 wr B b w.heap.size nm d s rs p #[.int .i64 k,.string Z,.slice ro rs.length rc,.slice uo ats.length tc,.slice bo bn bc] #[.int .i64 p.cl,.slice po p.dn.length pc,.slice qo p.de.length qc] (.slice oo C.length oc) (refsI rs s p).length (refsI rs s p) (refsS rs s p) x'):=Lh (by
      have h1:=HE.out.es;have h2:=HE.out.ei
      rw [List.drop_of_length_le (by omega)] at h1 h2
      rw [refsS] at h1;rw [refsI,List.append_nil] at h2
      have h3:=HE.out;rw [← HE.out.len] at h3;rw [← h1,← h2];exact ⟨x1,h3⟩)
     clear hr
     go_wp2
     exact (HM.out _ _).2 ⟨_,rfl,HFI.out⟩
   ·have HFI:Hid (∃ x',EdR W1 wr B b w.heap.size nm d s rs p #[.int .i64 k,.string Z,.slice ro rs.length rc,.slice uo ats.length tc,.slice bo bn bc] #[.int .i64 p.cl,.slice po p.dn.length pc,.slice qo p.de.length qc] (.slice oo C.length oc) (refsI rs s p).length (refsI rs s p) (refsS rs s p) x'):=Lh (by
      have h1:=HE.out.es;have h2:=HE.out.ei
      rw [refsS_err he] at h1;rw [refsI_err he,List.append_nil] at h2
      have h3:=HE.out;rw [← HE.out.len] at h3;rw [← h1,← h2];exact ⟨x1,h3⟩)
    have de:decide (s1.e=0)=false:=decide_eq_false he
    by_cases hlt:i < rs.length
    ·have dl:decide ((i:Int) < (rs.length:Int))=true:=decide_eq_true (by omega)
     clear hr
     go_wp2
     exact (HM.out _ _).2 ⟨_,rfl,HFI.out⟩
    ·have dl:decide ((i:Int) < (rs.length:Int))=false:=decide_eq_false (by omega)
     clear hr
     go_wp2
     exact (HM.out _ _).2 ⟨_,rfl,HFI.out⟩
 intro a' W2 hm
 obtain ⟨lv,ha9,x2,hed⟩:=(HM.out _ _).1 hm
 obtain ⟨f,hf⟩:∃ f:Nat→Value,(fun i=>a'.tmps.getD i undef)=f:=⟨_,rfl⟩
 have ha8:a'=⟨#[.pointer (some ⟨b,0,none⟩),.agg #[.int .i64 k,.string Z,.slice ro rs.length rc,.slice uo ats.length tc,.slice bo bn bc],.agg #[.int .i64 p.cl,.slice po p.dn.length pc,.slice qo p.de.length qc],undef,.pointer (some ⟨w.heap.size,0,none⟩),.pointer (some ⟨w.heap.size+1,0,none⟩),lv,f 7,f 8,f 9,f 10,f 11,f 12,f 13,f 14,f 15,f 16,f 17,f 18,f 19,f 20,f 21,f 22,f 23,f 24,f 25,f 26,f 27,f 28,f 29,f 30,f 31,f 32,f 33,f 34,f 35,f 36,f 37,f 38,f 39,f 40,f 41,f 42,f 43,f 44,f 45,f 46,f 47,f 48,f 49,f 50,f 51,f 52,f 53,f 54,f 55,f 56,f 57,f 58,f 59,f 60,f 61,f 62,f 63,f 64,f 65,f 66,f 67,f 68,f 69,f 70,f 71,f 72,f 73,f 74,f 75,f 76,f 77,f 78,f 79,f 80,f 81,f 82,f 83,f 84],[]⟩:=by rw [← hf];exact ha9
 clear ha9 hf
 subst ha8
 clear HM hm M HED
 obtain ⟨s2,hs2⟩:∃ s2,refsS rs s p=s2:=⟨_,rfl⟩
 obtain ⟨LI,hLI⟩:∃ LI,refsI rs s p=LI:=⟨_,rfl⟩
 obtain ⟨m,hm⟩:∃ m,mergeL p.de ats=m:=⟨_,rfl⟩
 have HG:Hid (edgesS s rs ats p=if s2.e≠0 then s2 else ⟨s2.ns,s2.ats,s2.cs,s2.en ++ endsL LI rs m,s2.e⟩):=Lh (by unfold edgesS;rw [hs2,hLI,hm])
 have HLL:Hid (s2.e=0→LI.length=rs.length):=Lh (fun h=>by rw [← hLI];exact refs_len rs s (by rw [hs2];exact h))
 have HMG:=Lh hm
 rw [hs2,hLI] at hed
 obtain ⟨oo,oc,rfl,_,_⟩:=own_form hed.row
 have HTW:Hid (TFr w W2):=Lh ((TFr.below HB1.out).trans hed.fr)
 have HBW:Hid (Below B w W2):=Lh ((HB1.out.mono HBP.out).trans hed.bl)
 have HEN:Hid (s2.en.length≤100000):=Lh (by rw [hed.en];omega)
 have HLN:Hid (LI.length≤100000):=Lh (by have h1:=refsI_le rs s p;rw [hLI] at h1;omega)
 have hLn:LI.length≤100000:=by have h1:=refsI_le rs s p;rw [hLI] at h1;omega
 have HED:Hid (EdQ W2 W2 B b w.heap.size nm d s2 (endsL LI rs m) #[.int .i64 k,.string Z,.slice ro rs.length rc,.slice uo ats.length tc,.slice bo bn bc] #[.int .i64 p.cl,.slice po p.dn.length pc,.slice qo p.de.length qc] (.slice oo LI.length oc) LI (0+1) x2):=Lh ⟨by rw [show (0+1 - 1:Nat)=0 from rfl,List.take_zero,List.append_nil];exact hed.st,hed.row,TFr.refl _,Below.refl _ _,hed.bx,hed.bp⟩
 have HSZ2:Hid (w.heap.size+2≤W2.heap.size):=Lh (by have h1:=hed.fr.size;have h2:=HSZ.out;omega)
 clear hed hs2 hLI hm hS hsz
 go_wp2_with fail
 go_loopw [8] (fun iv wr=>∃ (j:Nat) (x1:StV),iv=.int .i64 ((j:Int)+1)∧j≤LI.length∧(j=0∨j+1≤LI.length)∧(s2.e≠0→j=0)∧EdQ W2 wr B b w.heap.size nm d s2 (endsL LI rs m) #[.int .i64 k,.string Z,.slice ro rs.length rc,.slice uo ats.length tc,.slice bo bn bc] #[.int .i64 p.cl,.slice po p.dn.length pc,.slice qo p.de.length qc] (.slice oo LI.length oc) LI (j+1) x1) (fun iv _=>LI.length - (intOf iv).toNat)
 case atStart=>exact ⟨0,x2,rfl,Nat.zero_le _,Or.inl rfl,fun _=>rfl,HED.out⟩
 case round =>
  obtain ⟨j,x1,rfl,hj,hj2,hj3,hed⟩:=hrel
  rename World=>wr
  have c7:=hed.st.box.read.2.2.2.2
  have HE:=Lh hed
  have HJ2:=Lh hj2
  have HJ3:=Lh hj3
  have HT:Hid (TFr w wr):=Lh (HTW.out.trans HE.out.fr)
  have HB:Hid (Below B w wr):=Lh (HBW.out.trans HE.out.bl)
  clear hed hj2 hj3 HED
  have FIN:Hid ((s2.e≠0∨LI.length≤j+1)→MacOut B b nm d (edgesS s rs ats p) w wr):=Lh (fun hh=>by
   refine ⟨x1,?_,HT.out,HB.out⟩
   have h1:=HE.out.st
   rw [HG.out]
   by_cases he:s2.e=0
   ·rw [if_neg (by rw [he];simp)]
    rw [List.take_of_length_le (by rw [endsL_lenE m LI rs (HLL.out he)];have:=hh.resolve_left (by rw [he];simp);omega)] at h1
    exact h1
   ·rw [if_pos he]
    rw [HJ3.out he,show (0+1 - 1:Nat)=0 from rfl,List.take_zero,List.append_nil] at h1
    exact h1)
  by_cases hlt:j+1 < LI.length
  ·have i1:(j:Int)+1 < (LI.length:Int):=by omega
   by_cases he:s2.e=0
   ·have hLr:=HLL.out he
    have hjr:j+1 < rs.length:=by omega
    obtain ⟨ao',cap',e',_,_,hA⟩:=hr.out wr HT.out HB.out
    cases e'
    obtain ⟨A,rfl,-⟩:=hA (by omega)
    obtain ⟨G,rfl,-⟩:=row_int HE.out.row hlt
    obtain ⟨nv,cv,av,ev,avs,evs⟩:=x1
    obtain ⟨eo,ec,hev,_,_⟩:=own_form HE.out.st.er
    simp only at hev
    subst hev
    obtain ⟨a,ha1⟩:∃ a,LI[j]=a:=⟨_,rfl⟩
    obtain ⟨c,hc1⟩:∃ c,LI[j+1]=c:=⟨_,rfl⟩
    obtain ⟨fp,hf1⟩:∃ fp,rs[j].2=fp:=⟨_,rfl⟩
    obtain ⟨tp,ht1⟩:∃ tp,rs[j+1].2=tp:=⟨_,rfl⟩
    have HTK:Hid ((endsL LI rs m).take (j+1)=(endsL LI rs m).take j ++ [⟨a,c,fp,tp,m⟩]):=Lh (by rw [endsL_take hLr hlt,ha1,hc1,hf1,ht1])
    have H9:Hid (∀ W,blk W w.heap.size 56 #[.int .i64 k,.string Z,.slice (some A) rs.length rc,.slice uo ats.length tc,.slice bo bn bc]→blk W (w.heap.size+1) 77 #[.int .i64 p.cl,.slice po p.dn.length pc,.slice qo p.de.length qc]→Prs W (.slice (some A) rs.length rc) rs→Irow W (w.heap.size+2) (.slice (some ⟨G,0,none⟩) LI.length oc) LI→ed9 W w.heap.size A G rs.length rc (.slice uo ats.length tc) (.slice qo p.de.length qc) j a c fp tp):=Lh (fun W h1 h2 h3 h4=>ed9_at h1 h2 h3 h4 hlt hjr ha1 hc1 hf1 ht1)
    have hS0:ed9 wr w.heap.size A G rs.length rc (.slice uo ats.length tc) (.slice qo p.de.length qc) j a c fp tp:=H9.out wr HE.out.bx HE.out.bp (hr.out wr HT.out HB.out) HE.out.row
    have hevl:evs.length≤1000000:=by have h1:=HE.out.st.el;have h2:=congrArg List.length h1;rw [List.length_map,List.length_append,List.length_take,endsL_lenE m LI rs hLr] at h2;have:=HEN.out;simp only at h2;omega
    have c6:=HE.out.st.box.read.2.2.2.1
    have hblt:=HE.out.st.lt
    have hbase:=HE.out.st.base
    have i0:(0:Int)≤(j:Int)+1:=by omega
    have k0:(0:Int)≤(j:Int):=by omega
    have i2:(j:Int) < (LI.length:Int):=by omega
    have i3:(j:Int) < (rs.length:Int):=by omega
    have i4:(j:Int)+1 < (rs.length:Int):=by omega
    have hj5:j≤100000:=by have h1:=refsI_le rs s p;have h2:=HLN.out;omega
    have hwr2:IntKind.i64.wrap (j:Int)=(j:Int):=IntWalk.i64_in _ (by omega)
    have hwr:IntKind.i64.wrap ((j:Int)+1 - 1)=(j:Int):=by rw [Int.add_sub_cancel];exact hwr2
    have i5:((j:Int)+1).toNat=j+1:=by omega
    have HLR:=Lh hLr
    clear hA ha1 hc1 hf1 ht1 hLr
    obtain ⟨i9,hi0,hz0,hz1,hz2⟩:=info_of info_end
    go_wp2_with fail
    have hBd:Below wr.heap.size wr wr.drew:=(Below.refl wr.heap.size wr).drew
    have hc6d:wr.drew.cell? ⟨b,6,none⟩=some (.slice eo evs.length ec):=c6
    refine wp_region_held_drew (S:=(fun W:World=>W.cell? ⟨w.heap.size,2,none⟩=some (.slice (some A) rs.length rc)∧W.cell? ⟨w.heap.size,3,none⟩=some (.slice uo ats.length tc)∧W.cell? ⟨w.heap.size+1,2,none⟩=some (.slice qo p.de.length qc)∧W.cell? ⟨G,j,none⟩=some (.int .i64 a)∧W.cell? ⟨G,j+1,none⟩=some (.int .i64 c)∧W.cell? ⟨(A.add (j*2)).block,(A.add (j*2)).off+1,none⟩=some (.string (bb fp))∧W.cell? ⟨(A.add ((j+1)*2)).block,(A.add ((j+1)*2)).off+1,none⟩=some (.string (bb tp)))) (by kernel_rfl) (ed9_drew hS0) (fun hHeld=>?_)
    refine tk 0 48 (.pointer (some ⟨b,0,none⟩)) ?_ ?_
    ·(intro W hSw;(try dsimp only at hSw);obtain ⟨hs0,hs1,hs2,hs3,hs4,hs5,hs6⟩:=hSw
      go_simp)
    try simp only [sA,sB,sC]
    refine tk 1 49 (.pointer (some ⟨b,0,none⟩)) ?_ ?_
    ·(intro W hSw;(try dsimp only at hSw);obtain ⟨hs0,hs1,hs2,hs3,hs4,hs5,hs6⟩:=hSw
      go_simp)
    try simp only [sA,sB,sC]
    refine tk 2 50 (.pointer (some ⟨b,0,none⟩)) ?_ ?_
    ·(intro W hSw;(try dsimp only at hSw);obtain ⟨hs0,hs1,hs2,hs3,hs4,hs5,hs6⟩:=hSw
      go_simp)
    try simp only [sA,sB,sC]
    refine tk 3 51 (.pointer (some ⟨b,6,none⟩)) ?_ ?_
    ·(intro W hSw;(try dsimp only at hSw);obtain ⟨hs0,hs1,hs2,hs3,hs4,hs5,hs6⟩:=hSw
      go_simp)
    try simp only [sA,sB,sC]
    refine tk 5 53 (.slice (some ⟨G,0,none⟩) LI.length oc) ?_ ?_
    ·(intro W hSw;(try dsimp only at hSw);obtain ⟨hs0,hs1,hs2,hs3,hs4,hs5,hs6⟩:=hSw
      go_simp)
    try simp only [sA,sB,sC]
    refine tk 6 54 (.int .i64 ((j:Int)+1)) ?_ ?_
    ·(intro W hSw;(try dsimp only at hSw);obtain ⟨hs0,hs1,hs2,hs3,hs4,hs5,hs6⟩:=hSw
      go_simp)
    try simp only [sA,sB,sC]
    refine tk 7 55 (.int .i64 (j:Int)) ?_ ?_
    ·(intro W hSw;(try dsimp only at hSw);obtain ⟨hs0,hs1,hs2,hs3,hs4,hs5,hs6⟩:=hSw
      go_simp)
    try simp only [sA,sB,sC]
    refine tk 8 56 (.pointer (some ⟨G,j,none⟩)) ?_ ?_
    ·(intro W hSw;(try dsimp only at hSw);obtain ⟨hs0,hs1,hs2,hs3,hs4,hs5,hs6⟩:=hSw
      go_simp)
    try simp only [sA,sB,sC]
    refine tk 9 57 (.int .i64 a) ?_ ?_
    ·(intro W hSw;(try dsimp only at hSw);obtain ⟨hs0,hs1,hs2,hs3,hs4,hs5,hs6⟩:=hSw
      go_simp)
    try simp only [sA,sB,sC]
    refine tk 10 58 (.slice (some ⟨G,0,none⟩) LI.length oc) ?_ ?_
    ·(intro W hSw;(try dsimp only at hSw);obtain ⟨hs0,hs1,hs2,hs3,hs4,hs5,hs6⟩:=hSw
      go_simp)
    try simp only [sA,sB,sC]
    refine tk 11 59 (.int .i64 ((j:Int)+1)) ?_ ?_
    ·(intro W hSw;(try dsimp only at hSw);obtain ⟨hs0,hs1,hs2,hs3,hs4,hs5,hs6⟩:=hSw
      go_simp)
    try simp only [sA,sB,sC]
    refine tk 12 60 (.pointer (some ⟨G,(j+1),none⟩)) ?_ ?_
    ·(intro W hSw;(try dsimp only at hSw);obtain ⟨hs0,hs1,hs2,hs3,hs4,hs5,hs6⟩:=hSw
      go_simp)
    try simp only [sA,sB,sC]
    refine tk 13 61 (.int .i64 c) ?_ ?_
    ·(intro W hSw;(try dsimp only at hSw);obtain ⟨hs0,hs1,hs2,hs3,hs4,hs5,hs6⟩:=hSw
      go_simp)
    try simp only [sA,sB,sC]
    refine tk 14 62 (.pointer (some ⟨w.heap.size,2,none⟩)) ?_ ?_
    ·(intro W hSw;(try dsimp only at hSw);obtain ⟨hs0,hs1,hs2,hs3,hs4,hs5,hs6⟩:=hSw
      go_simp)
    try simp only [sA,sB,sC]
    refine tk 15 63 (.slice (some A) rs.length rc) ?_ ?_
    ·(intro W hSw;(try dsimp only at hSw);obtain ⟨hs0,hs1,hs2,hs3,hs4,hs5,hs6⟩:=hSw
      go_simp)
    try simp only [sA,sB,sC]
    refine tk 16 64 (.int .i64 ((j:Int)+1)) ?_ ?_
    ·(intro W hSw;(try dsimp only at hSw);obtain ⟨hs0,hs1,hs2,hs3,hs4,hs5,hs6⟩:=hSw
      go_simp)
    try simp only [sA,sB,sC]
    refine tk 17 65 (.int .i64 (j:Int)) ?_ ?_
    ·(intro W hSw;(try dsimp only at hSw);obtain ⟨hs0,hs1,hs2,hs3,hs4,hs5,hs6⟩:=hSw
      go_simp)
    try simp only [sA,sB,sC]
    refine tk 18 66 (.pointer (some (A.add (j*2)))) ?_ ?_
    ·(intro W hSw;(try dsimp only at hSw);obtain ⟨hs0,hs1,hs2,hs3,hs4,hs5,hs6⟩:=hSw
      go_simp)
    try simp only [sA,sB,sC]
    refine tk 19 67 (.pointer (some ⟨(A.add (j*2)).block,(A.add (j*2)).off+1,none⟩)) ?_ ?_
    ·(intro W hSw;(try dsimp only at hSw);obtain ⟨hs0,hs1,hs2,hs3,hs4,hs5,hs6⟩:=hSw
      go_simp)
    try simp only [sA,sB,sC]
    refine tk 20 68 (.string (bb fp)) ?_ ?_
    ·(intro W hSw;(try dsimp only at hSw);obtain ⟨hs0,hs1,hs2,hs3,hs4,hs5,hs6⟩:=hSw
      go_simp)
    try simp only [sA,sB,sC]
    refine tk 21 69 (.pointer (some ⟨w.heap.size,2,none⟩)) ?_ ?_
    ·(intro W hSw;(try dsimp only at hSw);obtain ⟨hs0,hs1,hs2,hs3,hs4,hs5,hs6⟩:=hSw
      go_simp)
    try simp only [sA,sB,sC]
    refine tk 22 70 (.slice (some A) rs.length rc) ?_ ?_
    ·(intro W hSw;(try dsimp only at hSw);obtain ⟨hs0,hs1,hs2,hs3,hs4,hs5,hs6⟩:=hSw
      go_simp)
    try simp only [sA,sB,sC]
    refine tk 23 71 (.int .i64 ((j:Int)+1)) ?_ ?_
    ·(intro W hSw;(try dsimp only at hSw);obtain ⟨hs0,hs1,hs2,hs3,hs4,hs5,hs6⟩:=hSw
      go_simp)
    try simp only [sA,sB,sC]
    refine tk 24 72 (.pointer (some (A.add ((j+1)*2)))) ?_ ?_
    ·(intro W hSw;(try dsimp only at hSw);obtain ⟨hs0,hs1,hs2,hs3,hs4,hs5,hs6⟩:=hSw
      go_simp)
    try simp only [sA,sB,sC]
    refine tk 25 73 (.pointer (some ⟨(A.add ((j+1)*2)).block,(A.add ((j+1)*2)).off+1,none⟩)) ?_ ?_
    ·(intro W hSw;(try dsimp only at hSw);obtain ⟨hs0,hs1,hs2,hs3,hs4,hs5,hs6⟩:=hSw
      go_simp)
    try simp only [sA,sB,sC]
    refine tk 26 74 (.string (bb tp)) ?_ ?_
    ·(intro W hSw;(try dsimp only at hSw);obtain ⟨hs0,hs1,hs2,hs3,hs4,hs5,hs6⟩:=hSw
      go_simp)
    try simp only [sA,sB,sC]
    refine tk 27 75 (.pointer (some ⟨(w.heap.size+1),2,none⟩)) ?_ ?_
    ·(intro W hSw;(try dsimp only at hSw);obtain ⟨hs0,hs1,hs2,hs3,hs4,hs5,hs6⟩:=hSw
      go_simp)
    try simp only [sA,sB,sC]
    refine tk 28 76 (.slice qo p.de.length qc) ?_ ?_
    ·(intro W hSw;(try dsimp only at hSw);obtain ⟨hs0,hs1,hs2,hs3,hs4,hs5,hs6⟩:=hSw
      go_simp)
    try simp only [sA,sB,sC]
    refine tk 29 77 (.pointer (some ⟨w.heap.size,3,none⟩)) ?_ ?_
    ·(intro W hSw;(try dsimp only at hSw);obtain ⟨hs0,hs1,hs2,hs3,hs4,hs5,hs6⟩:=hSw
      go_simp)
    try simp only [sA,sB,sC]
    refine tk 30 78 (.slice uo ats.length tc) ?_ ?_
    ·(intro W hSw;(try dsimp only at hSw);obtain ⟨hs0,hs1,hs2,hs3,hs4,hs5,hs6⟩:=hSw
      go_simp)
    try simp only [sA,sB,sC]
    refine wpAnyH_ready (rs:=[4,31]) (by kernel_rfl) (by simp) ?_
    refine AllReadyH.cons rfl (fun K hK=>?_) (AllReadyH.cons rfl (fun K hK=>?_) AllReadyH.nil)
    ·
     go_simp
     refine hK.out _ _ (by repeat (first | assumption | (with_reducible refine ed9_drew ?_) | (with_reducible refine ed9_alloc ?_))) (fun hHeld=>?_)
     clear hK K
     try simp only [sA,sB,sC]
     refine wpAnyH_ready (rs:=[31]) (by kernel_rfl) (by simp) ?_
     refine AllReadyH.cons rfl (fun K hK=>?_) AllReadyH.nil
     go_simp
     refine (rmergeT_of _ _ p.de ats _ (Lh ((HT.out.prs hq.out).keep hBd).prs) (Lh ((ha.out wr HT.out HB.out).keep hBd)) hqd had (Lh (prs_bnd hq.out.prs)) (Lh (prs_bnd ha.out.now))).mono ?_
     rintro e w6 ⟨v6,rfl,hp6,hb6⟩
     obtain ⟨mo,mc,rfl,_,_,_⟩:=id hp6.prs
     have hb66:Below wr.heap.size wr w6:=below_keep hb6 hBd
     have c66:=(HE.out.st.below hb66).box.read.2.2.2.1
     have hblt6:=(HE.out.st.below hb66).lt
     have hbase6:=(HE.out.st.below hb66).base
     have hP:ed9 w6 w.heap.size A G rs.length rc (.slice uo ats.length tc) (.slice qo p.de.length qc) j a c fp tp:=H9.out w6 ((TFr.below hb66).blk HE.out.bx rfl) ((TFr.below hb66).blk HE.out.bp rfl) (hr.out w6 (HT.out.trans (TFr.below hb66)) (HB.out.trans (hb66.mono hbase))) (row_below HE.out.row hb66)
     have HP6:=Lh hp6
     have HB66:=Lh hb66
     clear hp6 hb6 hb66 hHeld
     refine hK.out _ _ hP (fun hHeld=>?_)
     clear hK K
     try simp only [sA,sB,sC]
     refine tk 32 80 (.agg #[.int .i64 a,.int .i64 c,.string (bb fp),.string (bb tp),.slice mo (mergeL p.de ats).length mc]) ?_ ?_
     ·(intro W hSw;(try dsimp only at hSw);obtain ⟨hs0,hs1,hs2,hs3,hs4,hs5,hs6⟩:=hSw
       go_simp)
     try simp only [sA,sB,sC]
     refine wpAnyH_ready (rs:=[33]) (by kernel_rfl) (by simp) ?_
     refine AllReadyH.cons rfl (fun K hK=>?_) AllReadyH.nil
     go_simp
     refine hK.out _ _ (by repeat (first | assumption | (with_reducible refine ed9_drew ?_) | (with_reducible refine ed9_alloc ?_))) (fun hHeld=>?_)
     clear hK K
     try simp only [sA,sB,sC]
     refine wpAnyH_ready (rs:=[34]) (by kernel_rfl) (by simp) ?_
     refine AllReadyH.cons rfl (fun K hK=>?_) AllReadyH.nil
     refine step_append_lies _ (by rfl) _ _ _ (by rfl) B 126 i9 _ 5 72 Tryz.underlying72 hi0 hz0 hz1 hz2 rfl (by omega) (.slice eo evs.length ec) evs.length (evs.flatMap enC) (by rfl) (by exact row_below (row_below HE.out.st.er HB66.out) (by repeat (first | (with_reducible exact Below.refl _ _) | (with_reducible refine Below.drew ?_) | (with_reducible refine b_allocN ?_ ?_) | (simp;done) | omega))) ⟨w6.heap.size,0,none⟩ 1 1 [.int .i64 a,.int .i64 c,.string (bb fp),.string (bb tp),.slice mo (mergeL p.de ats).length mc] (by rfl) (by rfl) (by exact World.news_of_block (cs:=#[.int .i64 a,.int .i64 c,.string (bb fp),.string (bb tp),.slice mo (mergeL p.de ats).length mc]) (t:=126) (fr:=(0,0)) (heap_alloc_new _ _)) (by simp [Value.oneCell']) (by omega) (by unfold maxLen;omega) (by omega) (by simp;omega) (w6.heap.size+1) (by simp) ?_
     intro gg cap1 w7 hown7 hgrow7 hat7 hlt7
     obtain ⟨⟨hx7,ht7,hb7⟩,hQ⟩:=EdQ.next (e:=⟨a,c,fp,tp,m⟩) (v:=.slice mo (mergeL p.de ats).length mc) (ev':=.slice (some ⟨gg,0,none⟩) (evs.length+1) cap1) HE.out HB66.out (by exact (by repeat (first | (with_reducible exact Below.refl _ _) | (with_reducible refine Below.drew ?_) | (with_reducible refine b_allocN ?_ ?_) | (simp;done) | omega))) hgrow7 (by show World.ownsRow _ _ _ _ _ (evs ++ [_]).length _;rw [List.length_append,List.flatMap_append];exact hown7) (by show PrsT w6 _ m;rw [← HMG.out];exact HP6.out) HTK.out
     have hP7:ed9 w7 w.heap.size A G rs.length rc (.slice uo ats.length tc) (.slice qo p.de.length qc) j a c fp tp:=H9.out w7 (ht7.blk HE.out.bx rfl) (ht7.blk HE.out.bp rfl) (hr.out w7 (HT.out.trans ht7) (HB.out.trans hb7)) (tfr_own HE.out.row ht7 rfl)
     have hP2:ed9 (w7.setCell ⟨b,6,none⟩ (.slice (some ⟨gg,0,none⟩) (evs.length+1) cap1)) w.heap.size A G rs.length rc (.slice uo ats.length tc) (.slice qo p.de.length qc) j a c fp tp:=H9.out _ hQ.bx hQ.bp (hr.out _ (HTW.out.trans hQ.fr) (HBW.out.trans hQ.bl)) hQ.row
     have hfz7:=hx7.open 6
     have hc7:=hx7.read.2.2.2.1
     have HQ:=Lh hQ
     clear hQ ht7 hb7 hx7 hown7 hgrow7 hat7 hlt7 hHeld hP
     refine hK.out _ _ hP7 (fun hHeld=>?_)
     clear hK K
     try simp only [sA,sB,sC]
     refine tk 35 83 (.pointer (some ⟨b,0,none⟩)) ?_ ?_
     ·(intro W hSw;(try dsimp only at hSw);obtain ⟨hs0,hs1,hs2,hs3,hs4,hs5,hs6⟩:=hSw
       go_simp)
     try simp only [sA,sB,sC]
     refine tk 36 84 (.pointer (some ⟨b,6,none⟩)) ?_ ?_
     ·(intro W hSw;(try dsimp only at hSw);obtain ⟨hs0,hs1,hs2,hs3,hs4,hs5,hs6⟩:=hSw
       go_simp)
     refine wpAnyH_ready (rs:=[37]) (by kernel_rfl) (by simp) ?_
     refine AllReadyH.cons rfl (fun K hK=>?_) AllReadyH.nil
     go_simp
     refine hK.out _ _ hP2 (fun hHeld=>?_)
     clear hK K
     try simp only [sA,sB,sC]
     refine wpAnyH_done (by kernel_rfl) ?_ _
     clear hP7 hP2 hHeld hS0 hfz7 hc7 c6
     go_wp2
     go_roundw
     case rel=>exact ⟨j+1,_,by go_num,by omega,Or.inr (by omega),fun h=>absurd he h,HQ.out⟩
     case measure=>simp [intOf];omega
    ·
     go_simp
     refine (rmergeT_of _ _ p.de ats _ (Lh ((HT.out.prs hq.out).keep hBd).prs) (Lh ((ha.out wr HT.out HB.out).keep hBd)) hqd had (Lh (prs_bnd hq.out.prs)) (Lh (prs_bnd ha.out.now))).mono ?_
     rintro e w6 ⟨v6,rfl,hp6,hb6⟩
     obtain ⟨mo,mc,rfl,_,_,_⟩:=id hp6.prs
     have hb66:Below wr.heap.size wr w6:=below_keep hb6 hBd
     have c66:=(HE.out.st.below hb66).box.read.2.2.2.1
     have hblt6:=(HE.out.st.below hb66).lt
     have hbase6:=(HE.out.st.below hb66).base
     have hP:ed9 w6 w.heap.size A G rs.length rc (.slice uo ats.length tc) (.slice qo p.de.length qc) j a c fp tp:=H9.out w6 ((TFr.below hb66).blk HE.out.bx rfl) ((TFr.below hb66).blk HE.out.bp rfl) (hr.out w6 (HT.out.trans (TFr.below hb66)) (HB.out.trans (hb66.mono hbase))) (row_below HE.out.row hb66)
     have HP6:=Lh hp6
     have HB66:=Lh hb66
     clear hp6 hb6 hb66 hHeld
     refine hK.out _ _ hP (fun hHeld=>?_)
     clear hK K
     try simp only [sA,sB,sC]
     refine tk 32 80 (.agg #[.int .i64 a,.int .i64 c,.string (bb fp),.string (bb tp),.slice mo (mergeL p.de ats).length mc]) ?_ ?_
     ·(intro W hSw;(try dsimp only at hSw);obtain ⟨hs0,hs1,hs2,hs3,hs4,hs5,hs6⟩:=hSw
       go_simp)
     try simp only [sA,sB,sC]
     have c66d:w6.cell? ⟨b,6,none⟩=some (.slice eo evs.length ec):=c66
     refine wpAnyH_ready (rs:=[4,33]) (by kernel_rfl) (by simp) ?_
     refine AllReadyH.cons rfl (fun K hK=>?_) (AllReadyH.cons rfl (fun K hK=>?_) AllReadyH.nil)
     ·
      go_simp
      refine hK.out _ _ (by repeat (first | assumption | (with_reducible refine ed9_drew ?_) | (with_reducible refine ed9_alloc ?_))) (fun hHeld=>?_)
      clear hK K
      try simp only [sA,sB,sC]
      refine wpAnyH_ready (rs:=[33]) (by kernel_rfl) (by simp) ?_
      refine AllReadyH.cons rfl (fun K hK=>?_) AllReadyH.nil
      go_simp
      refine hK.out _ _ (by repeat (first | assumption | (with_reducible refine ed9_drew ?_) | (with_reducible refine ed9_alloc ?_))) (fun hHeld=>?_)
      clear hK K
      try simp only [sA,sB,sC]
      refine wpAnyH_ready (rs:=[34]) (by kernel_rfl) (by simp) ?_
      refine AllReadyH.cons rfl (fun K hK=>?_) AllReadyH.nil
      refine step_append_lies _ (by rfl) _ _ _ (by rfl) B 126 i9 _ 5 72 Tryz.underlying72 hi0 hz0 hz1 hz2 rfl (by omega) (.slice eo evs.length ec) evs.length (evs.flatMap enC) (by rfl) (by exact row_below (row_below HE.out.st.er HB66.out) (by repeat (first | (with_reducible exact Below.refl _ _) | (with_reducible refine Below.drew ?_) | (with_reducible refine b_allocN ?_ ?_) | (simp;done) | omega))) ⟨w6.heap.size,0,none⟩ 1 1 [.int .i64 a,.int .i64 c,.string (bb fp),.string (bb tp),.slice mo (mergeL p.de ats).length mc] (by rfl) (by rfl) (by exact World.news_of_block (cs:=#[.int .i64 a,.int .i64 c,.string (bb fp),.string (bb tp),.slice mo (mergeL p.de ats).length mc]) (t:=126) (fr:=(0,0)) (heap_alloc_new _ _)) (by simp [Value.oneCell']) (by omega) (by unfold maxLen;omega) (by omega) (by simp;omega) (w6.heap.size+1) (by simp) ?_
      intro gg cap1 w7 hown7 hgrow7 hat7 hlt7
      obtain ⟨⟨hx7,ht7,hb7⟩,hQ⟩:=EdQ.next (e:=⟨a,c,fp,tp,m⟩) (v:=.slice mo (mergeL p.de ats).length mc) (ev':=.slice (some ⟨gg,0,none⟩) (evs.length+1) cap1) HE.out HB66.out (by exact (by repeat (first | (with_reducible exact Below.refl _ _) | (with_reducible refine Below.drew ?_) | (with_reducible refine b_allocN ?_ ?_) | (simp;done) | omega))) hgrow7 (by show World.ownsRow _ _ _ _ _ (evs ++ [_]).length _;rw [List.length_append,List.flatMap_append];exact hown7) (by show PrsT w6 _ m;rw [← HMG.out];exact HP6.out) HTK.out
      have hP7:ed9 w7 w.heap.size A G rs.length rc (.slice uo ats.length tc) (.slice qo p.de.length qc) j a c fp tp:=H9.out w7 (ht7.blk HE.out.bx rfl) (ht7.blk HE.out.bp rfl) (hr.out w7 (HT.out.trans ht7) (HB.out.trans hb7)) (tfr_own HE.out.row ht7 rfl)
      have hP2:ed9 (w7.setCell ⟨b,6,none⟩ (.slice (some ⟨gg,0,none⟩) (evs.length+1) cap1)) w.heap.size A G rs.length rc (.slice uo ats.length tc) (.slice qo p.de.length qc) j a c fp tp:=H9.out _ hQ.bx hQ.bp (hr.out _ (HTW.out.trans hQ.fr) (HBW.out.trans hQ.bl)) hQ.row
      have hfz7:=hx7.open 6
      have hc7:=hx7.read.2.2.2.1
      have HQ:=Lh hQ
      clear hQ ht7 hb7 hx7 hown7 hgrow7 hat7 hlt7 hHeld hP
      refine hK.out _ _ hP7 (fun hHeld=>?_)
      clear hK K
      try simp only [sA,sB,sC]
      refine tk 35 83 (.pointer (some ⟨b,0,none⟩)) ?_ ?_
      ·(intro W hSw;(try dsimp only at hSw);obtain ⟨hs0,hs1,hs2,hs3,hs4,hs5,hs6⟩:=hSw
        go_simp)
      try simp only [sA,sB,sC]
      refine tk 36 84 (.pointer (some ⟨b,6,none⟩)) ?_ ?_
      ·(intro W hSw;(try dsimp only at hSw);obtain ⟨hs0,hs1,hs2,hs3,hs4,hs5,hs6⟩:=hSw
        go_simp)
      refine wpAnyH_ready (rs:=[37]) (by kernel_rfl) (by simp) ?_
      refine AllReadyH.cons rfl (fun K hK=>?_) AllReadyH.nil
      go_simp
      refine hK.out _ _ hP2 (fun hHeld=>?_)
      clear hK K
      try simp only [sA,sB,sC]
      refine wpAnyH_done (by kernel_rfl) ?_ _
      clear hP7 hP2 hHeld hS0 hfz7 hc7 c6
      go_wp2
      go_roundw
      case rel=>exact ⟨j+1,_,by go_num,by omega,Or.inr (by omega),fun h=>absurd he h,HQ.out⟩
      case measure=>simp [intOf];omega
     ·
      go_simp
      refine hK.out _ _ (by repeat (first | assumption | (with_reducible refine ed9_drew ?_) | (with_reducible refine ed9_alloc ?_))) (fun hHeld=>?_)
      clear hK K
      try simp only [sA,sB,sC]
      have c6a:=s_alloc (o:=.cells #[.int .i64 a,.int .i64 c,.string (bb fp),.string (bb tp),.slice mo (mergeL p.de ats).length mc] 126) c66d
      refine wpAnyH_ready (rs:=[4]) (by kernel_rfl) (by simp) ?_
      refine AllReadyH.cons rfl (fun K hK=>?_) AllReadyH.nil
      go_simp
      refine hK.out _ _ (by repeat (first | assumption | (with_reducible refine ed9_drew ?_) | (with_reducible refine ed9_alloc ?_))) (fun hHeld=>?_)
      clear hK K
      try simp only [sA,sB,sC]
      refine wpAnyH_ready (rs:=[34]) (by kernel_rfl) (by simp) ?_
      refine AllReadyH.cons rfl (fun K hK=>?_) AllReadyH.nil
      refine step_append_lies _ (by rfl) _ _ _ (by rfl) B 126 i9 _ 5 72 Tryz.underlying72 hi0 hz0 hz1 hz2 rfl (by omega) (.slice eo evs.length ec) evs.length (evs.flatMap enC) (by rfl) (by exact row_below (row_below HE.out.st.er HB66.out) (by repeat (first | (with_reducible exact Below.refl _ _) | (with_reducible refine Below.drew ?_) | (with_reducible refine b_allocN ?_ ?_) | (simp;done) | omega))) ⟨w6.heap.size,0,none⟩ 1 1 [.int .i64 a,.int .i64 c,.string (bb fp),.string (bb tp),.slice mo (mergeL p.de ats).length mc] (by rfl) (by rfl) (by exact World.news_of_block (cs:=#[.int .i64 a,.int .i64 c,.string (bb fp),.string (bb tp),.slice mo (mergeL p.de ats).length mc]) (t:=126) (fr:=(0,0)) (heap_alloc_new _ _)) (by simp [Value.oneCell']) (by omega) (by unfold maxLen;omega) (by omega) (by simp;omega) (w6.heap.size+1) (by simp) ?_
      intro gg cap1 w7 hown7 hgrow7 hat7 hlt7
      obtain ⟨⟨hx7,ht7,hb7⟩,hQ⟩:=EdQ.next (e:=⟨a,c,fp,tp,m⟩) (v:=.slice mo (mergeL p.de ats).length mc) (ev':=.slice (some ⟨gg,0,none⟩) (evs.length+1) cap1) HE.out HB66.out (by exact (by repeat (first | (with_reducible exact Below.refl _ _) | (with_reducible refine Below.drew ?_) | (with_reducible refine b_allocN ?_ ?_) | (simp;done) | omega))) hgrow7 (by show World.ownsRow _ _ _ _ _ (evs ++ [_]).length _;rw [List.length_append,List.flatMap_append];exact hown7) (by show PrsT w6 _ m;rw [← HMG.out];exact HP6.out) HTK.out
      have hP7:ed9 w7 w.heap.size A G rs.length rc (.slice uo ats.length tc) (.slice qo p.de.length qc) j a c fp tp:=H9.out w7 (ht7.blk HE.out.bx rfl) (ht7.blk HE.out.bp rfl) (hr.out w7 (HT.out.trans ht7) (HB.out.trans hb7)) (tfr_own HE.out.row ht7 rfl)
      have hP2:ed9 (w7.setCell ⟨b,6,none⟩ (.slice (some ⟨gg,0,none⟩) (evs.length+1) cap1)) w.heap.size A G rs.length rc (.slice uo ats.length tc) (.slice qo p.de.length qc) j a c fp tp:=H9.out _ hQ.bx hQ.bp (hr.out _ (HTW.out.trans hQ.fr) (HBW.out.trans hQ.bl)) hQ.row
      have hfz7:=hx7.open 6
      have hc7:=hx7.read.2.2.2.1
      have HQ:=Lh hQ
      clear hQ ht7 hb7 hx7 hown7 hgrow7 hat7 hlt7 hHeld hP
      refine hK.out _ _ hP7 (fun hHeld=>?_)
      clear hK K
      try simp only [sA,sB,sC]
      refine tk 35 83 (.pointer (some ⟨b,0,none⟩)) ?_ ?_
      ·(intro W hSw;(try dsimp only at hSw);obtain ⟨hs0,hs1,hs2,hs3,hs4,hs5,hs6⟩:=hSw
        go_simp)
      try simp only [sA,sB,sC]
      refine tk 36 84 (.pointer (some ⟨b,6,none⟩)) ?_ ?_
      ·(intro W hSw;(try dsimp only at hSw);obtain ⟨hs0,hs1,hs2,hs3,hs4,hs5,hs6⟩:=hSw
        go_simp)
      refine wpAnyH_ready (rs:=[37]) (by kernel_rfl) (by simp) ?_
      refine AllReadyH.cons rfl (fun K hK=>?_) AllReadyH.nil
      go_simp
      refine hK.out _ _ hP2 (fun hHeld=>?_)
      clear hK K
      try simp only [sA,sB,sC]
      refine wpAnyH_done (by kernel_rfl) ?_ _
      clear hP7 hP2 hHeld hS0 hfz7 hc7 c6
      go_wp2
      go_roundw
      case rel=>exact ⟨j+1,_,by go_num,by omega,Or.inr (by omega),fun h=>absurd he h,HQ.out⟩
      case measure=>simp [intOf];omega
   ·have de:decide (s2.e=0)=false:=decide_eq_false he
    clear hr ha
    go_wp2
    refine end0 rfl rfl ?_
    exact ⟨rfl,FIN.out (Or.inl he)⟩
  ·have dl:decide ((j:Int)+1 < (LI.length:Int))=false:=decide_eq_false (by omega)
   clear hr ha
   go_wp2
   refine end0 rfl rfl ?_
   exact ⟨rfl,FIN.out (Or.inr (by omega))⟩
end Go.Proofs.YtcdoicgbjoikkaaGreatDoor.nor
