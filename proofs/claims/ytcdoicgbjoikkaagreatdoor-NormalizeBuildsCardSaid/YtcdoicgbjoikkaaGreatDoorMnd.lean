/-
  What node and clustered of the reference's machine return (layer 12). Condition: rows of names in memory.
  What checked of the reference's machine does (layer 12). Conditions: a machine without an error, attributes in memory whose values are of at most 20000 bytes.
  What mention of the reference's machine does (layer 12). Conditions: a machine of at most 100000 nodes in memory.
-/
import Derived.Test.YtcdoicgbjoikkaaGreatDoorMnc
import Derived.Deep.RegionHeldLaw
namespace Go.Proofs.YtcdoicgbjoikkaaGreatDoor.nor
open Go.RowKit lex tre att
def nmsAt (w:World)(c:Nat)(v:Value)(l:List Cl):Prop :=
 ∃ (ao:Option Addr) (cap:Nat),v=.slice ao l.length cap∧l.length≤maxLen∧∀ k (h:k < l.length),∃ A,ao=some A∧w.cell? (A.add (k*c))=some (.string (bb l[k].1))
theorem row_nms {W:World}{B c:Nat}{t:TypeId}{v:Value}{l:List Cl}{f:Cl→List Value}(hf:∀ x,(f x).length=c)(h0:∀ x,(f x)[0]?=some (.string (bb x.1)))(h:W.ownsRow B t c v l.length (l.flatMap f)):nmsAt W c v l:=by
 obtain ⟨ao,cap,rfl,h1,h2⟩:=own_form h
 refine ⟨ao,cap,rfl,by omega,fun k hk=>?_⟩
 obtain ⟨g,cap',arr,e,_,hg,_,_,h3⟩:=own_blk h (by omega)
 cases e
 have hc:0 < c:=by
  have:=h0 l[k]
  rcases Nat.eq_zero_or_pos c with q | q
  ·have h9:=hf l[k]
   rw [q,List.length_eq_zero_iff] at h9
   rw [h9] at this;cases this
  ·exact q
 refine ⟨_,rfl,?_⟩
 rw [add_at,Nat.zero_add,blk_cell hg,h3 _ ?_]
 ·have:=flat_get f c hf l k 0 hk hc
  rw [Nat.add_zero] at this
  rw [this];exact h0 _
 ·have:(k+1)*c≤l.length*c:=Nat.mul_le_mul_right c hk
  rw [Nat.add_mul] at this
  omega
theorem nodeI_at {l:List Cl}{k:Nat}(h:k < l.length)(n:Nm):nodeI (l.drop k) n k=if l[k].1=n then (k:Int) else nodeI (l.drop (k+1)) n (k+1):=by
 rw [List.drop_eq_getElem_cons h,nodeI]
theorem nodeI_end {l:List Cl}{k:Nat}(h:l.length≤k)(n:Nm):nodeI (l.drop k) n k=-1:=by
 rw [List.drop_of_length_le h,nodeI]
theorem clusd_at {l:List Cl}{k:Nat}(h:k < l.length)(n:Nm):clusd (l.drop k) n=(l[k].1 == n || clusd (l.drop (k+1)) n):=by
 rw [List.drop_eq_getElem_cons h];unfold clusd;rw [List.any_cons]
set_option maxRecDepth 100000 in
set_option maxHeartbeats 1000000 in
theorem node_of (b:Nat)(nv:Value)(l:List Cl)(s:ByteArray)(R:Int)(w:World)(h0:w.cell? ⟨b,2,none⟩=some nv)(h:Hid (nmsAt w 6 nv l))(hr:Hid (nodeI l s.data.toList 0=R)) :
    Calls Tryz.prog 117 #[.pointer (some ⟨b,0,none⟩),.string s] w fun e w'=>e=.returned (.int .i64 R)∧w'=w:=by
 obtain ⟨ao,cap,rfl,hm,_⟩:=id h.out
 unfold maxLen at hm
 have HR:Hid (nodeI (l.drop 0) s.data.toList 0=R):=hr
 have hlm:l.length≤9223372036854775807:=by omega
 clear hm hr
 go_enter Tryz.func117,Tryz.ntmps117
 go_wp2_with fail
 go_loop [5] (fun iv=>∃ k:Nat,iv=.int .i64 k∧k≤l.length∧nodeI (l.drop k) s.data.toList k=R) (fun iv=>l.length - (intOf iv).toNat)
 case atStart=>exact ⟨0,rfl,Nat.zero_le _,HR.out⟩
 case round =>
  obtain ⟨k,rfl,hk,hfe⟩:=hrel
  clear HR
  by_cases hlt:k < l.length
  ·rw [nodeI_at hlt] at hfe
   obtain ⟨ao',cap',e,_,hAt⟩:=h.out
   obtain ⟨A,hA,q0⟩:=hAt k hlt
   cases e
   subst hA
   obtain ⟨Y,hY⟩:∃ Y,bb l[k].1=Y:=⟨_,rfl⟩
   rw [hY] at q0
   have hY2:Y.data.toList=l[k].1:=by rw [← hY]
   have i0:(0:Int)≤(k:Int):=by omega
   have i1:(k:Int) < (l.length:Int):=by omega
   clear hAt
   by_cases hxy:l[k].1=s.data.toList
   ·have b1:(Y.toList == s.toList)=true:=by rw [ByteArray.toList_eq,ByteArray.toList_eq,hY2,beq_iff_eq];exact hxy
    rw [if_pos hxy] at hfe
    subst hfe
    clear hY hY2 hxy
    go_wp2
    go_ret
    exact ⟨rfl,rfl⟩
   ·have b1:(Y.toList == s.toList)=false:=by rw [ByteArray.toList_eq,ByteArray.toList_eq,hY2,beq_eq_false_iff_ne];exact hxy
    rw [if_neg hxy] at hfe
    have HF:=Lh hfe
    clear hY hY2 hxy hfe
    go_wp2
    go_round
    case rel=>exact ⟨k+1,by go_num,by omega,HF.out⟩
    case measure=>simp [intOf];omega
  ·rw [nodeI_end (by omega)] at hfe
   subst hfe
   go_wp2
   go_ret
   exact ⟨rfl,rfl⟩
set_option maxRecDepth 100000 in
set_option maxHeartbeats 1000000 in
theorem clustered_of (b:Nat)(nv:Value)(l:List Cl)(s:ByteArray)(R:Bool)(w:World)(h0:w.cell? ⟨b,4,none⟩=some nv)(h:Hid (nmsAt w 2 nv l))(hr:Hid (clusd l s.data.toList=R)) :
    Calls Tryz.prog 116 #[.pointer (some ⟨b,0,none⟩),.string s] w fun e w'=>e=.returned (.bool R)∧w'=w:=by
 obtain ⟨ao,cap,rfl,hm,_⟩:=id h.out
 unfold maxLen at hm
 have HR:Hid (clusd (l.drop 0) s.data.toList=R):=hr
 have hlm:l.length≤9223372036854775807:=by omega
 clear hm hr
 go_enter Tryz.func116,Tryz.ntmps116
 go_wp2_with fail
 go_loop [5] (fun iv=>∃ k:Nat,iv=.int .i64 k∧k≤l.length∧clusd (l.drop k) s.data.toList=R) (fun iv=>l.length - (intOf iv).toNat)
 case atStart=>exact ⟨0,rfl,Nat.zero_le _,HR.out⟩
 case round =>
  obtain ⟨k,rfl,hk,hfe⟩:=hrel
  clear HR
  by_cases hlt:k < l.length
  ·rw [clusd_at hlt] at hfe
   obtain ⟨ao',cap',e,_,hAt⟩:=h.out
   obtain ⟨A,hA,q0⟩:=hAt k hlt
   cases e
   subst hA
   obtain ⟨Y,hY⟩:∃ Y,bb l[k].1=Y:=⟨_,rfl⟩
   rw [hY] at q0
   have hY2:Y.data.toList=l[k].1:=by rw [← hY]
   have i0:(0:Int)≤(k:Int):=by omega
   have i1:(k:Int) < (l.length:Int):=by omega
   clear hAt
   by_cases hxy:l[k].1=s.data.toList
   ·have b1:(Y.toList == s.toList)=true:=by rw [ByteArray.toList_eq,ByteArray.toList_eq,hY2,beq_iff_eq];exact hxy
    rw [beq_iff_eq.2 hxy,Bool.true_or] at hfe
    subst hfe
    clear hY hY2 hxy
    go_wp2
    go_ret
    exact ⟨rfl,rfl⟩
   ·have b1:(Y.toList == s.toList)=false:=by rw [ByteArray.toList_eq,ByteArray.toList_eq,hY2,beq_eq_false_iff_ne];exact hxy
    rw [beq_eq_false_iff_ne.2 hxy,Bool.false_or] at hfe
    have HF:=Lh hfe
    clear hY hY2 hxy hfe
    go_wp2
    go_round
    case rel=>exact ⟨k+1,by go_num,by omega,HF.out⟩
    case measure=>simp [intOf];omega
  ·rw [List.drop_of_length_le (by omega)] at hfe
   subst hfe
   go_wp2
   go_ret
   exact ⟨rfl,rfl⟩
def PrsS (B:Nat)(w:World)(v:Value)(l:List Pr):Prop:=∀ w',TFr w w'→Below B w w'→Prs w' v l
theorem PrsS.now {B:Nat}{w:World}{v:Value}{l:List Pr}(h:PrsS B w v l):Prs w v l:=h w (TFr.refl w) (Below.refl B w)
theorem PrsS.keep {B:Nat}{w w':World}{v:Value}{l:List Pr}(h:PrsS B w v l)(ht:TFr w w')(hb:Below B w w'):PrsS B w' v l:=fun w2 h2 h3=>h w2 (ht.trans h2) (hb.trans h3)
theorem prsS_typ {B:Nat}{w:World}{v:Value}{l:List Pr}(h:PrsT w v l):PrsS B w v l:=fun _ ht _=>(ht.prs h).1
theorem prsS_old {w0 w:World}{v:Value}{l:List Pr}(h:Prs w0 v l)(hb:Below w0.heap.size w0 w):PrsS w0.heap.size w v l:=fun _ _ hb'=>h.keep (hb.trans hb')
theorem firC_at {k:Int}{l:List Pr}{i:Nat}(h:i < l.length):firC k (l.drop i)=if checkL k l[i]≠0 then checkL k l[i] else firC k (l.drop (i+1)):=by
 rw [List.drop_eq_getElem_cons h,firC]
theorem end0 {P:Program}{fn:Func}{R:Ending→World→Prop}{a:Act}{w:World}(hr:fn.results=#[])(hd:a.defers=[])(hR:R (.returned (.tuple #[])) w):bodyPost P fn R .normal a w :=
 bodyPost_end (results_none hr _ _ _) hd hR
def MacOut (B b:Nat)(nm:Nm)(d:Bool)(s:Sta)(w w':World):Prop:=∃ x,StB w' B b nm d s x∧TFr w w'∧Below B w w'
set_option maxRecDepth 100000 in
set_option maxHeartbeats 1000000 in
theorem checked_of (B b:Nat)(nm:Nm)(d:Bool)(s:Sta)(x:StV)(k:Int)(v:Value)(l:List Pr)(w:World)(hS:Hid (StB w B b nm d s x))(h0:s.e=0)(h:Hid (PrsS B w v l))(hv:Hid (∀ a∈l,a.2.length≤20000)) :
    Calls Tryz.prog 65 #[.pointer (some ⟨b,0,none⟩),.int .i64 k,v] w fun e w'=>e=.returned (.tuple #[])∧MacOut B b nm d ⟨s.ns,s.ats,s.cs,s.en,firC k l⟩ w w':=by
 obtain ⟨ao,cap,rfl,hc,hm,_⟩:=id h.out.now
 unfold maxLen at hm
 have hlm:l.length≤9223372036854775807:=by omega
 obtain ⟨R,hR⟩:∃ R,firC k l=R:=⟨_,rfl⟩
 rw [hR]
 have HR:=Lh hR
 clear hc hm hR
 go_enter Tryz.func65,Tryz.ntmps65
 go_wp2_with fail
 go_loopw [6] (fun iv wr=>∃ (i:Nat) (e:Int),iv=.int .i64 i∧i≤l.length∧StB wr B b nm d ⟨s.ns,s.ats,s.cs,s.en,e⟩ x∧(e≠0→e=R)∧(e=0→firC k (l.drop i)=R)∧TFr w wr∧Below B w wr) (fun iv _=>l.length - (intOf iv).toNat)
 case atStart=>exact ⟨0,0,rfl,Nat.zero_le _,by have:=hS.out;rw [← h0];exact this,by simp,fun _=>HR.out,TFr.refl w,Below.refl B w⟩
 case round =>
  obtain ⟨i,e,rfl,hi,hst,he1,he2,ht,hb⟩:=hrel
  rename World=>wr
  obtain ⟨c2,c4,c5,c6,c7⟩:=hst.box.read
  have hfz:=hst.box.open 7
  have HST:=Lh hst
  have HT:=Lh ht
  have HB:=Lh hb
  have HE1:=Lh he1
  have HE2:=Lh he2
  clear hst ht hb he1 he2 c2 c4 c5 c6
  by_cases hlt:i < l.length
  ·by_cases he:e=0
   ·subst he
    have hfe:=HE2.out rfl
    rw [firC_at hlt] at hfe
    obtain ⟨ao',cap',e',_,_,hA⟩:=h.out wr HT.out HB.out
    cases e'
    obtain ⟨A,rfl,hAt⟩:=hA (by omega)
    obtain ⟨q0,q1,-,-⟩:=hAt i hlt
    obtain ⟨u,hu⟩:∃ u,l[i]=u:=⟨_,rfl⟩
    have HV:u.2.length≤20000:=by rw [← hu];exact hv.out _ (List.getElem_mem hlt)
    rw [hu] at q0 q1 hfe
    obtain ⟨e0,he0⟩:∃ e0,checkL k u=e0:=⟨_,rfl⟩
    rw [he0] at hfe
    have HF:=Lh hfe
    have HE0:=Lh he0
    have HU:=Lh hu
    have i0:(0:Int)≤(i:Int):=by omega
    have i1:(i:Int) < (l.length:Int):=by omega
    clear hA hAt hfe he0 hu
    go_wp2_with fail
    refine (rcheck_of _ u e0 wr HV HE0).mono ?_
    rintro e w1 ⟨rfl,hb1⟩
    have hs1:=HST.out.below hb1
    have z0:=hs1.box.open 7
    obtain ⟨z1,z2⟩:∃ y,w1.cell? ⟨b,7,none⟩=some y:=⟨_,hs1.box.read.2.2.2.2⟩
    have HS1:=Lh hs1
    have HB1:=Lh hb1
    clear hs1 hb1
    go_wp2
    go_roundw
    case rel =>
     obtain ⟨m1,m2,m3⟩:=HS1.out.err e0
     refine ⟨i+1,e0,by go_num,by omega,m1,fun hne=>?_,fun hz=>?_,(HT.out.trans (TFr.below HB1.out)).trans m2,(HB.out.trans (HB1.out.mono (HST.out.base))).trans m3⟩
     ·have:=HF.out;rwa [if_pos hne] at this
     ·have:=HF.out;rwa [if_neg (by simpa using hz)] at this
    case measure=>simp [intOf];omega
   ·have hd:decide (e=0)=false:=decide_eq_false he
    have hRe:=HE1.out he
    go_wp2
    refine end0 rfl rfl ?_
    exact ⟨rfl,x,by rw [← hRe];exact HST.out,HT.out,HB.out⟩
  ·obtain rfl:i=l.length:=by omega
   have hRe:e=R:=by
    by_cases he:e=0
    ·have:=HE2.out he
     rw [List.drop_length,firC] at this
     rw [he];exact this
    ·exact HE1.out he
   clear HE1 HE2
   go_wp2
   refine end0 rfl rfl ?_
   exact ⟨rfl,x,by rw [← hRe];exact HST.out,HT.out,HB.out⟩
theorem box_pred (f:Act→World→Prop):∃ M:Act→World→Prop,Hid (∀ a w,M a w ↔ f a w):=⟨f,Lh fun _ _=>Iff.rfl⟩
theorem seq_mid {P:Program}{x y:Code}{Q:Exit→Act→World→Prop}{a:Act}{w:World}(M:Act→World→Prop)(h1:x.wp P (fun e a' w'=>e=.normal∧M a' w') a w)(h2:∀ a' w',M a' w'→y.wp P Q a' w'):(Code.seq x y).wp P Q a w :=
 wp_seq (wp_mono h1 fun e a' w' hh=>by obtain ⟨he,hm⟩:=hh;subst he;exact h2 a' w' hm)
theorem s_drew {W:World}{A:Addr}{v:Value}(h:W.cell? A=some v):W.drew.cell? A=some v:=h
theorem s_alloc {W:World}{A:Addr}{v:Value}{o:Obj}(h:W.cell? A=some v):(W.alloc o).cell? A=some v:=cell_later' (al1 ..) h
theorem s_set {W:World}{A:Addr}{v u:Value}{b o:Nat}(h0:A.block≠b)(h:W.cell? A=some v):(W.setCell ⟨b,o,none⟩ u).cell? A=some v:=by rw [World.cell?_setCell_far W ⟨b,o,none⟩ A u (Ne.symm h0)];exact h
theorem b_allocN {B:Nat}{a w:World}{o:Obj}(h:Below B a w)(hB:B≤w.heap.size):Below B a (w.alloc o):=h.alloc hB o
theorem info_nd:(Tryz.prog.info? 45).map (fun i=>(i.zero,i.size,i.bytes))=some (some (.agg #[.string ⟨#[]⟩,.string ⟨#[]⟩,.int .i64 0,.int .i64 0,.int .i64 0,.slice none 0 0]),6,80):=by kernel_rfl
theorem info_at:(Tryz.prog.info? 54).map (fun i=>(i.zero,i.size,i.bytes))=some (some (.slice none 0 0),1,24):=by kernel_rfl
theorem info_of {P:Program}{t:TypeId}{z:Option Value}{c n:Nat}(h:(P.info? t).map (fun i=>(i.zero,i.size,i.bytes))=some (z,c,n)):∃ i,P.info? t=some i∧i.zero=z∧i.size=c∧i.bytes=n:=by
 cases hq:P.info? t with
 | none=>rw [hq] at h;cases h
 | some i =>
  rw [hq] at h
  simp only [Option.map_some,Option.some.injEq,Prod.mk.injEq] at h
  exact ⟨i,rfl,h.1,h.2.1,h.2.2⟩
set_option maxRecDepth 100000 in
set_option maxHeartbeats 1000000 in
theorem mention_of (B b:Nat)(nm:Nm)(d:Bool)(s:Sta)(x:StV)(n:Nm)(p:Pl)(pv dv:Value)(w:World)(hS:Hid (StB w B b nm d s x))(hp:Hid (PrsT w pv p.dn))(hl:s.ns.length≤100000)(hal:s.ats.length≤100000) :
    Calls Tryz.prog 67 #[.pointer (some ⟨b,0,none⟩),.string (bb n),.agg #[.int .i64 p.cl,pv,dv]] w fun e w'=>e=.returned (.int .i64 (mentI s n))∧MacOut B b nm d (mentS s n p) w w':=by
 obtain ⟨X,hX⟩:∃ X,bb n=X:=⟨_,rfl⟩
 obtain ⟨po,pc,rfl,_,_,_⟩:=id hp.out.prs
 rw [hX]
 go_enter Tryz.func67,Tryz.ntmps67
 obtain ⟨M,HM⟩:=box_pred (fun a' w'=>(a'=⟨#[.pointer (some ⟨b,0,none⟩),.string X,.agg #[.int .i64 p.cl,.slice po p.dn.length pc,dv],undef,undef,.pointer (some ⟨w.heap.size,0,none⟩),.int .i64 0,undef,undef,undef,undef,undef,undef,undef,undef,undef,undef,undef,undef,undef,undef,undef,undef,undef,undef,undef,undef,undef,undef,undef,undef,undef,undef,undef,undef,undef,undef,undef,undef,undef,undef,undef,undef,undef,undef,undef,undef,undef,undef,undef,undef,undef,undef,undef,undef,undef,undef,undef,undef,undef],[]⟩)∧w'=w.alloc (.cells #[.int .i64 p.cl,.slice po p.dn.length pc,dv] 77))
 refine seq_mid M ?_ ?_
 ·go_wp2
  exact (HM.out _ _).2 ⟨rfl,rfl⟩
 intro a' w' hm
 obtain ⟨rfl,rfl⟩:=(HM.out _ _).1 hm
 clear HM hm M
 have HX:=Lh hX
 clear hX
 have hs1:=hS.out.below (al1 w (.cells #[.int .i64 p.cl,.slice po p.dn.length pc,dv] 77))
 have hbp:=blk_new w #[.int .i64 p.cl,.slice po p.dn.length pc,dv] 77
 have hpp:=hp.out.keep (al1 w (.cells #[.int .i64 p.cl,.slice po p.dn.length pc,dv] 77))
 have hw1:=al1 w (.cells #[.int .i64 p.cl,.slice po p.dn.length pc,dv] 77)
 have hPb:w.heap.size≠b:=Nat.ne_of_gt hS.out.lt
 generalize w.alloc (.cells #[.int .i64 p.cl,.slice po p.dn.length pc,dv] 77)=W1 at hs1 hbp hpp hw1 ⊢
 obtain ⟨M,HM⟩:=box_pred (fun a' w'=>(∃ u8 u9 u10 u11 u12 u13 u14 u15 u16 u17 u18 u19 u20,a'=⟨#[.pointer (some ⟨b,0,none⟩),.string X,.agg #[.int .i64 p.cl,.slice po p.dn.length pc,dv],undef,undef,.pointer (some ⟨w.heap.size,0,none⟩),.int .i64 0,undef,u8,u9,u10,u11,u12,u13,u14,u15,u16,u17,u18,u19,u20,undef,undef,undef,undef,undef,undef,undef,undef,undef,undef,undef,undef,undef,undef,undef,undef,undef,undef,undef,undef,undef,undef,undef,undef,undef,undef,undef,undef,undef,undef,undef,undef,undef,undef,undef,undef,undef,undef,undef],[]⟩)∧StB w' B b nm d ⟨s.ns,s.ats,s.cs,s.en,if s.e=0∧clusd s.cs n=true then 6 else s.e⟩ x∧TFr W1 w'∧Below B W1 w')
 refine seq_mid M ?_ ?_
 ·obtain ⟨c2,c4,c5,c6,c7⟩:=hs1.box.read
  have hfz:=hs1.box.open 7
  have HN:Hid (nmsAt W1 2 x.cv s.cs):=Lh (row_nms (fun _=>rfl) (fun _=>rfl) hs1.cr)
  have HS1:=Lh hs1
  obtain ⟨R,hR⟩:∃ R,clusd s.cs X.data.toList=R:=⟨_,rfl⟩
  have HR:=Lh hR
  have HRn:Hid (clusd s.cs n=R):=Lh (by rw [← hR,← HX.out])
  clear hs1 hbp hpp c2 c5 c6 hR
  by_cases h0:s.e=0
  ·have d0:decide (s.e=0)=true:=decide_eq_true h0
   go_wp2_with fail
   refine (clustered_of b _ _ _ _ W1 c4 HN HR).mono ?_
   rintro e w1 ⟨rfl,rfl⟩
   cases R
   ·go_wp2
    exact (HM.out _ _).2 ⟨⟨_,_,_,_,_,_,_,_,_,_,_,_,_,rfl⟩,by rw [if_neg (by rw [HRn.out];simp)];exact HS1.out,TFr.refl _,Below.refl _ _⟩
   ·go_wp2
    obtain ⟨m1,m2,m3⟩:=HS1.out.err 6
    exact (HM.out _ _).2 ⟨⟨_,_,_,_,_,_,_,_,_,_,_,_,_,rfl⟩,by rw [if_pos ⟨h0,HRn.out⟩];exact m1,m2,m3⟩
  ·have d0:decide (s.e=0)=false:=decide_eq_false h0
   go_wp2
   exact (HM.out _ _).2 ⟨⟨_,_,_,_,_,_,_,_,_,_,_,_,_,rfl⟩,by rw [if_neg (fun q=>h0 q.1)];exact HS1.out,TFr.refl _,Below.refl _ _⟩
 intro a' W2 hm
 obtain ⟨⟨u8,u9,u10,u11,u12,u13,u14,u15,u16,u17,u18,u19,u20,rfl⟩,hs2,ht2,hb2⟩:=(HM.out _ _).1 hm
 clear HM hm M
 have hbp2:=ht2.blk hbp rfl
 have hpp2:=ht2.prs hpp
 have HT:Hid (TFr w W2):=Lh ((TFr.below hw1).trans ht2)
 have HB:Hid (Below B w W2):=Lh ((hw1.mono hS.out.base).trans hb2)
 clear hs1 hbp hpp ht2 hb2 hw1
 obtain ⟨e2,he2⟩:∃ e2,(if s.e=0∧clusd s.cs n=true then 6 else s.e)=e2:=⟨_,rfl⟩
 have HE2:Hid (mentS s n p=if nodeI s.ns n 0 < 0 then ⟨s.ns ++ [(n,p.cl)],s.ats ++ [p.dn],s.cs,s.en,e2⟩ else ⟨s.ns,s.ats,s.cs,s.en,e2⟩):=Lh (by unfold mentS;rw [he2])
 rw [he2] at hs2
 clear he2
 obtain ⟨i,hi⟩:∃ i,nodeI s.ns X.data.toList 0=i:=⟨_,rfl⟩
 have HI:=Lh hi
 have HIn:Hid (nodeI s.ns n 0=i):=Lh (by rw [← hi,← HX.out])
 clear hi
 obtain ⟨nv,cv,av,ev,avs,evs⟩:=x
 obtain ⟨no,nc,hnv,hm1,hm2⟩:=own_form hs2.nr
 obtain ⟨ao,ac,hav,hm3,hm4⟩:=own_form hs2.ar
 simp only at hnv hav
 subst hnv hav
 obtain ⟨c2,c4,c5,c6,c7⟩:=hs2.box.read
 have HN:Hid (nmsAt W2 6 (.slice no s.ns.length nc) s.ns):=Lh (row_nms (fun _=>rfl) (fun _=>rfl) hs2.nr)
 have HS2:=Lh hs2
 have HP2:=Lh hbp2
 have HPP:=Lh hpp2
 clear hs2 hbp2 hpp2 c4 c5 c6 c7 hm1 hm2 hm3 hm4
 obtain ⟨M,HM⟩:=box_pred (fun a' w'=>(∃ u8 u9 u10 u11 u12 u13 u14 u15 u16 u17 u18 u19 u20 u21 u22 u23,a'=⟨#[.pointer (some ⟨b,0,none⟩),.string X,.agg #[.int .i64 p.cl,.slice po p.dn.length pc,dv],undef,undef,.pointer (some ⟨w.heap.size,0,none⟩),.int .i64 0,.int .i64 i,u8,u9,u10,u11,u12,u13,u14,u15,u16,u17,u18,u19,u20,u21,u22,u23,undef,undef,undef,undef,undef,undef,undef,undef,undef,undef,undef,undef,undef,undef,undef,undef,undef,undef,undef,undef,undef,undef,undef,undef,undef,undef,undef,undef,undef,undef,undef,undef,undef,undef,undef,undef],[]⟩)∧w'=W2)
 refine seq_mid M ?_ ?_
 ·go_wp2_with fail
  refine (node_of b _ s.ns X i W2 c2 HN HI).mono ?_
  rintro e wz ⟨rfl,rfl⟩
  clear c2
  go_wp2
  exact (HM.out _ _).2 ⟨⟨_,_,_,_,_,_,_,_,_,_,_,_,_,_,_,_,rfl⟩,rfl⟩
 intro a' w' hm
 obtain ⟨⟨u8,u9,u10,u11,u12,u13,u14,u15,u16,u17,u18,u19,u20,u21,u22,u23,rfl⟩,hw9⟩:=(HM.out _ _).1 hm
 clear HM hm M
 rw [hw9]
 clear hw9 w'
 by_cases g:0≤i
 ·have dg:decide (0≤i)=true:=decide_eq_true g
  have HNG:Hid (0≤nodeI s.ns n 0):=Lh (by rw [HIn.out];exact g)
  clear c2
  go_wp2
  go_ret
  refine ⟨by unfold mentI;rw [if_neg (Int.not_lt.2 HNG.out),HIn.out];rfl,⟨.slice no s.ns.length nc,cv,.slice ao avs.length ac,ev,avs,evs⟩,?_,HT.out,HB.out⟩
  rw [HE2.out,if_neg (Int.not_lt.2 HNG.out)];exact HS2.out
 have dg:decide (0≤i)=false:=decide_eq_false g
 have HNG:Hid (nodeI s.ns n 0 < 0):=Lh (by rw [HIn.out];omega)
 have HMI:Hid (mentI s n=(s.ns.length:Int)):=Lh (by unfold mentI;rw [if_pos HNG.out])
 have HE3:Hid (mentS s n p=⟨s.ns ++ [(n,p.cl)],s.ats ++ [p.dn],s.cs,s.en,e2⟩):=Lh (by rw [HE2.out,if_pos HNG.out])
 clear HE2 HN HI HIn c2
 obtain ⟨M,HM⟩:=box_pred (fun a' w'=>(∃ u8 u9 u10 u11 u12 u13 u14 u15 u16 u17 u18 u19 u20 u21 u22 u23 u24 u25 u26,a'=⟨#[.pointer (some ⟨b,0,none⟩),.string X,.agg #[.int .i64 p.cl,.slice po p.dn.length pc,dv],undef,undef,.pointer (some ⟨w.heap.size,0,none⟩),.int .i64 0,.int .i64 i,u8,u9,u10,u11,u12,u13,u14,u15,u16,u17,u18,u19,u20,u21,u22,u23,u24,u25,u26,undef,undef,undef,undef,undef,undef,undef,undef,undef,undef,undef,undef,undef,undef,undef,undef,undef,undef,undef,undef,undef,undef,undef,undef,undef,undef,undef,undef,undef,undef,undef,undef,undef],[]⟩)∧w'=W2)
 refine seq_mid M ?_ ?_
 ·go_wp2
  exact (HM.out _ _).2 ⟨⟨_,_,_,_,_,_,_,_,_,_,_,_,_,_,_,_,_,_,_,rfl⟩,rfl⟩
 intro a' w' hm
 obtain ⟨⟨u8,u9,u10,u11,u12,u13,u14,u15,u16,u17,u18,u19,u20,u21,u22,u23,u24,u25,u26,rfl⟩,hw9⟩:=(HM.out _ _).1 hm
 clear HM hm M
 rw [hw9]
 clear hw9 w'
 obtain ⟨i9,hi0,hz0,hz1,hz2⟩:=info_of info_nd
 have hbase:=HS2.out.base
 have hbx:=HS2.out.box.read.1
 have hblt:=HS2.out.lt
 have hS0:W2.cell? ⟨w.heap.size,0,none⟩=some (.int .i64 p.cl):=by rw [blk_cell HP2.out];rfl
 obtain ⟨M,HM⟩:=box_pred (fun a' w'=>(∃ u8 u9 u10 u11 u12 u13 u14 u15 u16 u17 u18 u19 u20 u21 u22 u23 u24 u25 u26 u27 u28 u29 u30 u31 u32 u33 u34 u35 u36 u37 u38 u39 u40 u41,a'=⟨#[.pointer (some ⟨b,0,none⟩),.string X,.agg #[.int .i64 p.cl,.slice po p.dn.length pc,dv],undef,undef,.pointer (some ⟨w.heap.size,0,none⟩),.int .i64 0,.int .i64 i,u8,u9,u10,u11,u12,u13,u14,u15,u16,u17,u18,u19,u20,u21,u22,u23,u24,u25,u26,u27,u28,u29,u30,u31,u32,u33,u34,u35,u36,u37,u38,u39,u40,u41,undef,undef,undef,undef,undef,undef,undef,undef,undef,undef,undef,undef,undef,undef,undef,undef,undef,undef],[]⟩)∧(∃ nv',StB w' B b nm d ⟨s.ns ++ [(n,p.cl)],s.ats,s.cs,s.en,e2⟩ ⟨nv',cv,.slice ao avs.length ac,ev,avs,evs⟩)∧TFr W2 w'∧Below B W2 w')
 refine seq_mid M ?_ ?_
 ·refine wp_region_held_drew (S:=(fun W=>W.cell? ⟨w.heap.size,0,none⟩=some (.int .i64 p.cl))) (by kernel_rfl) (s_drew hS0) (fun hHeld=>?_)
  refine tk 0 27 (.pointer (some ⟨b,0,none⟩)) ?_ ?_
  ·(intro W hSw;try dsimp only at hSw
    go_simp)
  try simp only [sA,sB,sC]
  refine tk 1 28 (.pointer (some ⟨b,0,none⟩)) ?_ ?_
  ·(intro W hSw;try dsimp only at hSw
    go_simp)
  try simp only [sA,sB,sC]
  refine tk 2 29 (.pointer (some ⟨b,0,none⟩)) ?_ ?_
  ·(intro W hSw;try dsimp only at hSw
    go_simp)
  try simp only [sA,sB,sC]
  refine tk 3 30 (.pointer (some ⟨b,0,none⟩)) ?_ ?_
  ·(intro W hSw;try dsimp only at hSw
    go_simp)
  try simp only [sA,sB,sC]
  refine tk 4 31 (.pointer (some ⟨b,2,none⟩)) ?_ ?_
  ·(intro W hSw;try dsimp only at hSw
    go_simp)
  try simp only [sA,sB,sC]
  refine tk 6 33 (.string X) ?_ ?_
  ·(intro W hSw;try dsimp only at hSw
    go_simp)
  try simp only [sA,sB,sC]
  refine tk 7 34 (.pointer (some ⟨w.heap.size,0,none⟩)) ?_ ?_
  ·(intro W hSw;try dsimp only at hSw
    go_simp)
  try simp only [sA,sB,sC]
  refine tk 8 35 (.int .i64 p.cl) ?_ ?_
  ·(intro W hSw;try dsimp only at hSw
    go_simp)
  try simp only [sA,sB,sC]
  refine tk 9 36 (.agg #[.string X,.string ⟨#[]⟩,.int .i64 0,.int .i64 0,.int .i64 p.cl,.slice none 0 0]) ?_ ?_
  ·(intro W hSw;try dsimp only at hSw
    go_simp)
  try simp only [sA,sB,sC]
  refine wpAnyH_ready (rs:=[5,10]) (by kernel_rfl) (by simp) ?_
  refine AllReadyH.cons rfl (fun K hK=>?_) (AllReadyH.cons rfl (fun K hK=>?_) AllReadyH.nil)
  ·
   go_simp
   refine hK.out _ _ (by repeat (first | assumption | (with_reducible refine s_drew ?_) | (with_reducible refine s_alloc ?_) | (with_reducible refine s_set (by simp only;omega) ?_))) (fun hHeld=>?_)
   clear hK K
   try simp only [sA,sB,sC]
   refine wpAnyH_ready (rs:=[10]) (by kernel_rfl) (by simp) ?_
   refine AllReadyH.cons rfl (fun K hK=>?_) AllReadyH.nil
   go_simp
   refine hK.out _ _ (by repeat (first | assumption | (with_reducible refine s_drew ?_) | (with_reducible refine s_alloc ?_) | (with_reducible refine s_set (by simp only;omega) ?_))) (fun hHeld=>?_)
   clear hK K
   try simp only [sA,sB,sC]
   refine wpAnyH_ready (rs:=[11]) (by kernel_rfl) (by simp) ?_
   refine AllReadyH.cons rfl (fun K hK=>?_) AllReadyH.nil
   refine step_append_lies _ (by rfl) _ _ _ (by rfl) B 45 i9 _ 6 80 Tryz.underlying27 hi0 hz0 hz1 hz2 rfl (by omega) (.slice no s.ns.length nc) s.ns.length (s.ns.flatMap ndC) (by rfl) (by exact row_below HS2.out.nr (by repeat (first | (with_reducible exact Below.refl _ _) | (with_reducible refine Below.drew ?_) | (with_reducible refine b_allocN ?_ ?_) | (simp;done) | omega))) ⟨W2.heap.size,0,none⟩ 1 1 [.string X,.string ⟨#[]⟩,.int .i64 0,.int .i64 0,.int .i64 p.cl,.slice none 0 0] (by rfl) (by rfl) (by exact World.news_of_block (cs:=#[.string X,.string ⟨#[]⟩,.int .i64 0,.int .i64 0,.int .i64 p.cl,.slice none 0 0]) (t:=45) (fr:=(0,0)) (heap_alloc_new _ _)) (by simp [Value.oneCell']) (by omega) (by unfold maxLen;omega) (by omega) (by simp;omega) (W2.heap.size+1) (by simp) ?_
   intro gg cap1 w1 hown1 hgrow hat1 hlt1
   obtain ⟨⟨hx1,ht3,hb3⟩,hs3,ht4,hb4⟩:=HS2.out.growN (c:=(n,p.cl)) (by exact (by repeat (first | (with_reducible exact Below.refl _ _) | (with_reducible refine Below.drew ?_) | (with_reducible refine b_allocN ?_ ?_) | (simp;done) | omega))) hgrow (by show World.ownsRow _ _ _ _ _ (s.ns ++ [(n,p.cl)]).length _;rw [List.length_append,List.flatMap_append];show World.ownsRow _ _ _ _ _ _ (_ ++ [.string (bb n),.string ⟨#[]⟩,.int .i64 0,.int .i64 0,.int .i64 p.cl,.slice none 0 0]);rw [HX.out];exact hown1)
   have HS1:w1.cell? ⟨w.heap.size,0,none⟩=some (.int .i64 p.cl):=by rw [blk_cell (ht3.blk HP2.out rfl)];rfl
   have hfz:=hx1.open 2
   have hc2:=hx1.read.1
   have HS3:=Lh hs3
   have HT4:=Lh ht4
   have HB4:=Lh hb4
   clear hs3 ht3 hb3 ht4 hb4 hx1
   refine hK.out _ _ HS1 (fun hHeld=>?_)
   clear hK K
   try simp only [sA,sB,sC]
   refine tk 12 39 (.pointer (some ⟨b,0,none⟩)) ?_ ?_
   ·(intro W hSw;try dsimp only at hSw
     go_simp)
   try simp only [sA,sB,sC]
   refine tk 13 40 (.pointer (some ⟨b,0,none⟩)) ?_ ?_
   ·(intro W hSw;try dsimp only at hSw
     go_simp)
   refine tk 14 41 (.pointer (some ⟨b,2,none⟩)) ?_ ?_
   ·(intro W hSw;try dsimp only at hSw
     go_simp)
   refine wpAnyH_ready (rs:=[15]) (by kernel_rfl) (by simp) ?_
   refine AllReadyH.cons rfl (fun K hK=>?_) AllReadyH.nil
   go_simp
   refine hK.out _ _ (by repeat (first | assumption | (with_reducible refine s_drew ?_) | (with_reducible refine s_alloc ?_) | (with_reducible refine s_set (by simp only;omega) ?_))) (fun hHeld=>?_)
   clear hK K
   try simp only [sA,sB,sC]
   refine wpAnyH_done (by kernel_rfl) ?_ _
   exact ⟨rfl,(HM.out _ _).2 ⟨⟨_,_,_,_,_,_,_,_,_,_,_,_,_,_,_,_,_,_,_,_,_,_,_,_,_,_,_,_,_,_,_,_,_,_,rfl⟩,⟨_,HS3.out⟩,HT4.out,HB4.out⟩⟩
  ·
   go_simp
   refine hK.out _ _ (by repeat (first | assumption | (with_reducible refine s_drew ?_) | (with_reducible refine s_alloc ?_) | (with_reducible refine s_set (by simp only;omega) ?_))) (fun hHeld=>?_)
   clear hK K
   try simp only [sA,sB,sC]
   refine wpAnyH_ready (rs:=[5]) (by kernel_rfl) (by simp) ?_
   refine AllReadyH.cons rfl (fun K hK=>?_) AllReadyH.nil
   go_simp
   refine hK.out _ _ (by repeat (first | assumption | (with_reducible refine s_drew ?_) | (with_reducible refine s_alloc ?_) | (with_reducible refine s_set (by simp only;omega) ?_))) (fun hHeld=>?_)
   clear hK K
   try simp only [sA,sB,sC]
   refine wpAnyH_ready (rs:=[11]) (by kernel_rfl) (by simp) ?_
   refine AllReadyH.cons rfl (fun K hK=>?_) AllReadyH.nil
   refine step_append_lies _ (by rfl) _ _ _ (by rfl) B 45 i9 _ 6 80 Tryz.underlying27 hi0 hz0 hz1 hz2 rfl (by omega) (.slice no s.ns.length nc) s.ns.length (s.ns.flatMap ndC) (by rfl) (by exact row_below HS2.out.nr (by repeat (first | (with_reducible exact Below.refl _ _) | (with_reducible refine Below.drew ?_) | (with_reducible refine b_allocN ?_ ?_) | (simp;done) | omega))) ⟨W2.heap.size,0,none⟩ 1 1 [.string X,.string ⟨#[]⟩,.int .i64 0,.int .i64 0,.int .i64 p.cl,.slice none 0 0] (by rfl) (by rfl) (by exact World.news_of_block (cs:=#[.string X,.string ⟨#[]⟩,.int .i64 0,.int .i64 0,.int .i64 p.cl,.slice none 0 0]) (t:=45) (fr:=(0,0)) (heap_alloc_new _ _)) (by simp [Value.oneCell']) (by omega) (by unfold maxLen;omega) (by omega) (by simp;omega) (W2.heap.size+1) (by simp) ?_
   intro gg cap1 w1 hown1 hgrow hat1 hlt1
   obtain ⟨⟨hx1,ht3,hb3⟩,hs3,ht4,hb4⟩:=HS2.out.growN (c:=(n,p.cl)) (by exact (by repeat (first | (with_reducible exact Below.refl _ _) | (with_reducible refine Below.drew ?_) | (with_reducible refine b_allocN ?_ ?_) | (simp;done) | omega))) hgrow (by show World.ownsRow _ _ _ _ _ (s.ns ++ [(n,p.cl)]).length _;rw [List.length_append,List.flatMap_append];show World.ownsRow _ _ _ _ _ _ (_ ++ [.string (bb n),.string ⟨#[]⟩,.int .i64 0,.int .i64 0,.int .i64 p.cl,.slice none 0 0]);rw [HX.out];exact hown1)
   have HS1:w1.cell? ⟨w.heap.size,0,none⟩=some (.int .i64 p.cl):=by rw [blk_cell (ht3.blk HP2.out rfl)];rfl
   have hfz:=hx1.open 2
   have hc2:=hx1.read.1
   have HS3:=Lh hs3
   have HT4:=Lh ht4
   have HB4:=Lh hb4
   clear hs3 ht3 hb3 ht4 hb4 hx1
   refine hK.out _ _ HS1 (fun hHeld=>?_)
   clear hK K
   try simp only [sA,sB,sC]
   refine tk 12 39 (.pointer (some ⟨b,0,none⟩)) ?_ ?_
   ·(intro W hSw;try dsimp only at hSw
     go_simp)
   try simp only [sA,sB,sC]
   refine tk 13 40 (.pointer (some ⟨b,0,none⟩)) ?_ ?_
   ·(intro W hSw;try dsimp only at hSw
     go_simp)
   refine tk 14 41 (.pointer (some ⟨b,2,none⟩)) ?_ ?_
   ·(intro W hSw;try dsimp only at hSw
     go_simp)
   refine wpAnyH_ready (rs:=[15]) (by kernel_rfl) (by simp) ?_
   refine AllReadyH.cons rfl (fun K hK=>?_) AllReadyH.nil
   go_simp
   refine hK.out _ _ (by repeat (first | assumption | (with_reducible refine s_drew ?_) | (with_reducible refine s_alloc ?_) | (with_reducible refine s_set (by simp only;omega) ?_))) (fun hHeld=>?_)
   clear hK K
   try simp only [sA,sB,sC]
   refine wpAnyH_done (by kernel_rfl) ?_ _
   exact ⟨rfl,(HM.out _ _).2 ⟨⟨_,_,_,_,_,_,_,_,_,_,_,_,_,_,_,_,_,_,_,_,_,_,_,_,_,_,_,_,_,_,_,_,_,_,rfl⟩,⟨_,HS3.out⟩,HT4.out,HB4.out⟩⟩
 intro a' W3 hm
 obtain ⟨⟨u8,u9,u10,u11,u12,u13,u14,u15,u16,u17,u18,u19,u20,u21,u22,u23,u24,u25,u26,u27,u28,u29,u30,u31,u32,u33,u34,u35,u36,u37,u38,u39,u40,u41,rfl⟩,⟨nv3,hs3⟩,ht3,hb3⟩:=(HM.out _ _).1 hm
 clear HM hm M
 have HP3:=Lh (ht3.blk HP2.out rfl)
 have HPP3:=Lh (ht3.prs HPP.out)
 have HT3:Hid (TFr w W3):=Lh (HT.out.trans ht3)
 have HB3:Hid (Below B w W3):=Lh (HB.out.trans hb3)
 have HS3:=Lh hs3
 have hal3:avs.length≤100000:=by have h9:avs.length=s.ats.length:=hs3.al;omega
 clear hs3 ht3 hb3 hS0 hbx hblt hbase hi0 hz0 hz1 hz2 i9 HT HB HP2 HPP HS2
 obtain ⟨i9,hi0,hz0,hz1,hz2⟩:=info_of info_at
 have hbase:=HS3.out.base
 have hbx:=HS3.out.box.read.2.2.1
 have hblt:=HS3.out.lt
 have hS0:W3.cell? ⟨w.heap.size,1,none⟩=some (.slice po p.dn.length pc):=by rw [blk_cell HP3.out];rfl
 obtain ⟨M,HM⟩:=box_pred (fun a' w'=>(∃ u8 u9 u10 u11 u12 u13 u14 u15 u16 u17 u18 u19 u20 u21 u22 u23 u24 u25 u26 u27 u28 u29 u30 u31 u32 u33 u34 u35 u36 u37 u38 u39 u40 u41 u42 u43 u44 u45 u46 u47 u48 u49 u50 u51 u52,a'=⟨#[.pointer (some ⟨b,0,none⟩),.string X,.agg #[.int .i64 p.cl,.slice po p.dn.length pc,dv],undef,undef,.pointer (some ⟨w.heap.size,0,none⟩),.int .i64 0,.int .i64 i,u8,u9,u10,u11,u12,u13,u14,u15,u16,u17,u18,u19,u20,u21,u22,u23,u24,u25,u26,u27,u28,u29,u30,u31,u32,u33,u34,u35,u36,u37,u38,u39,u40,u41,u42,u43,u44,u45,u46,u47,u48,u49,u50,u51,u52,undef,undef,undef,undef,undef,undef,undef],[]⟩)∧(∃ x',StB w' B b nm d (mentS s n p) x')∧TFr w w'∧Below B w w')
 refine seq_mid M ?_ ?_
 ·refine wp_region_held_drew (S:=(fun W=>W.cell? ⟨w.heap.size,1,none⟩=some (.slice po p.dn.length pc))) (by kernel_rfl) (s_drew hS0) (fun hHeld=>?_)
  refine tk 0 42 (.pointer (some ⟨b,0,none⟩)) ?_ ?_
  ·(intro W hSw;try dsimp only at hSw
    go_simp)
  try simp only [sA,sB,sC]
  refine tk 1 43 (.pointer (some ⟨b,0,none⟩)) ?_ ?_
  ·(intro W hSw;try dsimp only at hSw
    go_simp)
  try simp only [sA,sB,sC]
  refine tk 2 44 (.pointer (some ⟨b,0,none⟩)) ?_ ?_
  ·(intro W hSw;try dsimp only at hSw
    go_simp)
  try simp only [sA,sB,sC]
  refine tk 3 45 (.pointer (some ⟨b,5,none⟩)) ?_ ?_
  ·(intro W hSw;try dsimp only at hSw
    go_simp)
  try simp only [sA,sB,sC]
  refine tk 5 47 (.pointer (some ⟨w.heap.size,1,none⟩)) ?_ ?_
  ·(intro W hSw;try dsimp only at hSw
    go_simp)
  try simp only [sA,sB,sC]
  refine tk 6 48 (.slice po p.dn.length pc) ?_ ?_
  ·(intro W hSw;try dsimp only at hSw
    go_simp)
  try simp only [sA,sB,sC]
  refine wpAnyH_ready (rs:=[4,7]) (by kernel_rfl) (by simp) ?_
  refine AllReadyH.cons rfl (fun K hK=>?_) (AllReadyH.cons rfl (fun K hK=>?_) AllReadyH.nil)
  ·
   go_simp
   refine hK.out _ _ (by repeat (first | assumption | (with_reducible refine s_drew ?_) | (with_reducible refine s_alloc ?_) | (with_reducible refine s_set (by simp only;omega) ?_))) (fun hHeld=>?_)
   clear hK K
   try simp only [sA,sB,sC]
   refine wpAnyH_ready (rs:=[7]) (by kernel_rfl) (by simp) ?_
   refine AllReadyH.cons rfl (fun K hK=>?_) AllReadyH.nil
   go_simp
   refine hK.out _ _ (by repeat (first | assumption | (with_reducible refine s_drew ?_) | (with_reducible refine s_alloc ?_) | (with_reducible refine s_set (by simp only;omega) ?_))) (fun hHeld=>?_)
   clear hK K
   try simp only [sA,sB,sC]
   refine wpAnyH_ready (rs:=[8]) (by kernel_rfl) (by simp) ?_
   refine AllReadyH.cons rfl (fun K hK=>?_) AllReadyH.nil
   refine step_append_lies _ (by rfl) _ _ _ (by rfl) B 54 i9 _ 1 24 Tryz.underlying64 hi0 hz0 hz1 hz2 rfl (by omega) (.slice ao avs.length ac) avs.length (avs.flatMap vC) (by rfl) (by exact row_below HS3.out.ar (by repeat (first | (with_reducible exact Below.refl _ _) | (with_reducible refine Below.drew ?_) | (with_reducible refine b_allocN ?_ ?_) | (simp;done) | omega))) ⟨W3.heap.size,0,none⟩ 1 1 [.slice po p.dn.length pc] (by rfl) (by rfl) (by exact World.news_of_block (cs:=#[.slice po p.dn.length pc]) (t:=54) (fr:=(0,0)) (heap_alloc_new _ _)) (by simp [Value.oneCell']) (by omega) (by unfold maxLen;omega) (by omega) (by simp;omega) (W3.heap.size+1) (by simp) ?_
   intro gg cap1 w1 hown1 hgrow hat1 hlt1
   obtain ⟨⟨hx1,ht3,hb3⟩,hs3,ht4,hb4⟩:=HS3.out.growA (v:=.slice po p.dn.length pc) (a:=p.dn) (by exact (by repeat (first | (with_reducible exact Below.refl _ _) | (with_reducible refine Below.drew ?_) | (with_reducible refine b_allocN ?_ ?_) | (simp;done) | omega))) hgrow (by show World.ownsRow _ _ _ _ _ (avs ++ [_]).length _;rw [List.length_append,List.flatMap_append];exact hown1) HPP3.out
   have HS1:w1.cell? ⟨w.heap.size,1,none⟩=some (.slice po p.dn.length pc):=by rw [blk_cell (ht3.blk HP3.out rfl)];rfl
   have hfz:=hx1.open 5
   have hc5:=hx1.read.2.2.1
   have HS4:=Lh hs3
   have HT4:=Lh (HT3.out.trans ht4)
   have HB4:=Lh (HB3.out.trans hb4)
   clear hs3 ht3 hb3 ht4 hb4 hx1
   refine hK.out _ _ HS1 (fun hHeld=>?_)
   clear hK K
   try simp only [sA,sB,sC]
   refine tk 9 51 (.pointer (some ⟨b,0,none⟩)) ?_ ?_
   ·(intro W hSw;try dsimp only at hSw
     go_simp)
   try simp only [sA,sB,sC]
   refine tk 10 52 (.pointer (some ⟨b,5,none⟩)) ?_ ?_
   ·(intro W hSw;try dsimp only at hSw
     go_simp)
   refine wpAnyH_ready (rs:=[11]) (by kernel_rfl) (by simp) ?_
   refine AllReadyH.cons rfl (fun K hK=>?_) AllReadyH.nil
   go_simp
   refine hK.out _ _ (by repeat (first | assumption | (with_reducible refine s_drew ?_) | (with_reducible refine s_alloc ?_) | (with_reducible refine s_set (by simp only;omega) ?_))) (fun hHeld=>?_)
   clear hK K
   try simp only [sA,sB,sC]
   refine wpAnyH_done (by kernel_rfl) ?_ _
   exact ⟨rfl,(HM.out _ _).2 ⟨⟨_,_,_,_,_,_,_,_,_,_,_,_,_,_,_,_,_,_,_,_,_,_,_,_,_,_,_,_,_,_,_,_,_,_,_,_,_,_,_,_,_,_,_,_,_,rfl⟩,⟨_,by rw [HE3.out];exact HS4.out⟩,HT4.out,HB4.out⟩⟩
  ·
   go_simp
   refine hK.out _ _ (by repeat (first | assumption | (with_reducible refine s_drew ?_) | (with_reducible refine s_alloc ?_) | (with_reducible refine s_set (by simp only;omega) ?_))) (fun hHeld=>?_)
   clear hK K
   try simp only [sA,sB,sC]
   refine wpAnyH_ready (rs:=[4]) (by kernel_rfl) (by simp) ?_
   refine AllReadyH.cons rfl (fun K hK=>?_) AllReadyH.nil
   go_simp
   refine hK.out _ _ (by repeat (first | assumption | (with_reducible refine s_drew ?_) | (with_reducible refine s_alloc ?_) | (with_reducible refine s_set (by simp only;omega) ?_))) (fun hHeld=>?_)
   clear hK K
   try simp only [sA,sB,sC]
   refine wpAnyH_ready (rs:=[8]) (by kernel_rfl) (by simp) ?_
   refine AllReadyH.cons rfl (fun K hK=>?_) AllReadyH.nil
   refine step_append_lies _ (by rfl) _ _ _ (by rfl) B 54 i9 _ 1 24 Tryz.underlying64 hi0 hz0 hz1 hz2 rfl (by omega) (.slice ao avs.length ac) avs.length (avs.flatMap vC) (by rfl) (by exact row_below HS3.out.ar (by repeat (first | (with_reducible exact Below.refl _ _) | (with_reducible refine Below.drew ?_) | (with_reducible refine b_allocN ?_ ?_) | (simp;done) | omega))) ⟨W3.heap.size,0,none⟩ 1 1 [.slice po p.dn.length pc] (by rfl) (by rfl) (by exact World.news_of_block (cs:=#[.slice po p.dn.length pc]) (t:=54) (fr:=(0,0)) (heap_alloc_new _ _)) (by simp [Value.oneCell']) (by omega) (by unfold maxLen;omega) (by omega) (by simp;omega) (W3.heap.size+1) (by simp) ?_
   intro gg cap1 w1 hown1 hgrow hat1 hlt1
   obtain ⟨⟨hx1,ht3,hb3⟩,hs3,ht4,hb4⟩:=HS3.out.growA (v:=.slice po p.dn.length pc) (a:=p.dn) (by exact (by repeat (first | (with_reducible exact Below.refl _ _) | (with_reducible refine Below.drew ?_) | (with_reducible refine b_allocN ?_ ?_) | (simp;done) | omega))) hgrow (by show World.ownsRow _ _ _ _ _ (avs ++ [_]).length _;rw [List.length_append,List.flatMap_append];exact hown1) HPP3.out
   have HS1:w1.cell? ⟨w.heap.size,1,none⟩=some (.slice po p.dn.length pc):=by rw [blk_cell (ht3.blk HP3.out rfl)];rfl
   have hfz:=hx1.open 5
   have hc5:=hx1.read.2.2.1
   have HS4:=Lh hs3
   have HT4:=Lh (HT3.out.trans ht4)
   have HB4:=Lh (HB3.out.trans hb4)
   clear hs3 ht3 hb3 ht4 hb4 hx1
   refine hK.out _ _ HS1 (fun hHeld=>?_)
   clear hK K
   try simp only [sA,sB,sC]
   refine tk 9 51 (.pointer (some ⟨b,0,none⟩)) ?_ ?_
   ·(intro W hSw;try dsimp only at hSw
     go_simp)
   try simp only [sA,sB,sC]
   refine tk 10 52 (.pointer (some ⟨b,5,none⟩)) ?_ ?_
   ·(intro W hSw;try dsimp only at hSw
     go_simp)
   refine wpAnyH_ready (rs:=[11]) (by kernel_rfl) (by simp) ?_
   refine AllReadyH.cons rfl (fun K hK=>?_) AllReadyH.nil
   go_simp
   refine hK.out _ _ (by repeat (first | assumption | (with_reducible refine s_drew ?_) | (with_reducible refine s_alloc ?_) | (with_reducible refine s_set (by simp only;omega) ?_))) (fun hHeld=>?_)
   clear hK K
   try simp only [sA,sB,sC]
   refine wpAnyH_done (by kernel_rfl) ?_ _
   exact ⟨rfl,(HM.out _ _).2 ⟨⟨_,_,_,_,_,_,_,_,_,_,_,_,_,_,_,_,_,_,_,_,_,_,_,_,_,_,_,_,_,_,_,_,_,_,_,_,_,_,_,_,_,_,_,_,_,rfl⟩,⟨_,by rw [HE3.out];exact HS4.out⟩,HT4.out,HB4.out⟩⟩
 intro a' W4 hm
 obtain ⟨⟨u8,u9,u10,u11,u12,u13,u14,u15,u16,u17,u18,u19,u20,u21,u22,u23,u24,u25,u26,u27,u28,u29,u30,u31,u32,u33,u34,u35,u36,u37,u38,u39,u40,u41,u42,u43,u44,u45,u46,u47,u48,u49,u50,u51,u52,rfl⟩,⟨⟨nv4,cv4,av4,ev4,avs4,evs4⟩,hs4⟩,ht4,hb4⟩:=(HM.out _ _).1 hm
 clear HM hm M
 have hnr:=hs4.nr
 rw [HE3.out] at hnr
 obtain ⟨no4,nc4,hnv,hm1,hm2⟩:=own_form hnr
 simp only [List.length_append,List.length_singleton] at hnv
 subst hnv
 have hc2:=hs4.box.read.1
 have HS4:=Lh hs4
 have HT4:=Lh ht4
 have HB4:=Lh hb4
 clear hs4 hnr ht4 hb4 hm1 hm2 hS0 hbx
 go_wp2
 go_ret
 refine ⟨by rw [HMI.out];go_num,_,HS4.out,HT4.out,HB4.out⟩
end Go.Proofs.YtcdoicgbjoikkaaGreatDoor.nor
