/-
  What settings of the landed export returns (layer 13): the statements of the options that need one. Conditions: valid options, the table of powers.
  What slices.Contains of the library returns over numbers. Condition: the list lies in memory.
  The landed export's writer in memory (layer 13), and what its small functions return: whether the next cluster or node comes next; cut. Conditions: a valid graph, the writer's box in memory.
-/
import Derived.Test.YtgmidodmmlmmeaaGreatDoorXptTre
import Derived.Test.YtgmidodmmlmmeaaGreatDoorMge
namespace Go.Proofs.YtgmidodmmlmmeaaGreatDoor.xpt
open Go.RowKit lex tre att nor
theorem setA_one (P:Prop)[Decidable P](a:Pr):(if P then [] else [a]).map (fun a:Pr=>setS a.1 a.2)=(if P then [] else [setS a.1 a.2]):=by
 by_cases h:P <;> simp [h]
theorem optS_map (o:Op'):(optA o).map (fun a:Pr=>setS a.1 a.2)=optS o:=by
 unfold optA optS
 rw [List.map_append,List.map_append,List.map_append,List.map_append,setA_one,setA_one,setA_one,setA_one,setA_one]
theorem mode_inj {m:Int}(h0:0≤m)(h4:m≤4):modes.getD m.toNat []=modes.getD (0:Int).toNat [] ↔ m=0:=by
 refine ⟨fun h=>?_,fun h=>by rw [h]⟩
 have h1:=mode_ways h0 h4
 have h2:=mode_ways (m:=0) (by omega) (by omega)
 rw [h] at h1;rw [← h1,h2]
theorem optC_eq {o:Op'}(h:OpV o):addT (addT (addT (addT (addT [] wMode (modes.getD o.mode.toNat []) (modes.getD (0:Int).toNat [])) wNodesep (fmtL (o.ns*1)) (fmtL (10000*1))) wRanksep (fmtL (o.rs*1)) (fmtL (20000*1))) wMargin (fmtL (o.mg*1)) (fmtL (5000*1))) wRounds (fmtL (o.rd*1000)) (fmtL (8*1000))=optA o:=by
 have h1:=h.md
 have h2:=h.ns
 have h3:=h.rs
 have h4:=h.mg
 have h5:=h.rd
 have e2:fmtL (o.ns*1)=fmtL (10000*1) ↔ o.ns=10000:=by rw [fmt_inj (by omega) (by omega)];omega
 have e3:fmtL (o.rs*1)=fmtL (20000*1) ↔ o.rs=20000:=by rw [fmt_inj (by omega) (by omega)];omega
 have e4:fmtL (o.mg*1)=fmtL (5000*1) ↔ o.mg=5000:=by rw [fmt_inj (by omega) (by omega)];omega
 have e5:fmtL (o.rd*1000)=fmtL (8*1000) ↔ o.rd=8:=by rw [fmt_inj (by omega) (by omega)];omega
 rw [addT_app (mode_inj h1.1 h1.2),addT_app e2,addT_app e3,addT_app e4,addT_app e5]
 unfold optA
 rw [Int.mul_comm o.rd,Int.mul_one,Int.mul_one,Int.mul_one]
 simp only [List.append_assoc,List.nil_append]
theorem optA_mem {o:Op'}(h:OpV o):∀ r∈optA o,r.1.length≤maxLen∧r.2.length≤maxLen:=by
 have h1:=h.md
 have h2:=h.ns
 have h3:=h.rs
 have h4:=h.mg
 have h5:=h.rd
 have hm:(modes.getD o.mode.toNat []).length≤maxLen:=by
  have:o.mode=0∨o.mode=1∨o.mode=2∨o.mode=3∨o.mode=4:=by omega
  rcases this with e | e | e | e | e <;> rw [e] <;> decide
 have f2:=fmtL_le o.ns (by omega) (by omega)
 have f3:=fmtL_le o.rs (by omega) (by omega)
 have f4:=fmtL_le o.mg (by omega) (by omega)
 have f5:=fmtL_le (1000*o.rd) (by omega) (by omega)
 have hM:100≤maxLen:=by decide
 intro r hr
 unfold optA at hr
 rcases List.mem_append.1 hr with q | q
 ·rw [(mem_one q).1];exact ⟨(show wMode.length≤maxLen by decide),hm⟩
 rcases List.mem_append.1 q with q | q
 ·rw [(mem_one q).1];exact ⟨(show wNodesep.length≤maxLen by decide),by simp only;omega⟩
 rcases List.mem_append.1 q with q | q
 ·rw [(mem_one q).1];exact ⟨(show wRanksep.length≤maxLen by decide),by simp only;omega⟩
 rcases List.mem_append.1 q with q | q
 ·rw [(mem_one q).1];exact ⟨(show wMargin.length≤maxLen by decide),by simp only;omega⟩
 ·rw [(mem_one q).1];exact ⟨(show wRounds.length≤maxLen by decide),by simp only;omega⟩
set_option maxRecDepth 100000 in
set_option maxHeartbeats 16000000 in
theorem csett_of (o:Op')(w:World)(ho:Hid (okO o=true))(htb:Hid (Tab w)) :
    Calls Tryz.prog 30 #[opV o] w fun e w'=>(∃ v D,e=.returned v∧RS w.heap.size w' v D∧D.map Sv.s=optS o)∧Below w.heap.size w w':=by
 have hv:=opv_of ho.out
 have HEQ:=Lh (optC_eq hv)
 have HMX:=Lh (optA_mem hv)
 have HMP:=Lh (optS_map o)
 obtain ⟨md,ns,rs,mg,rd⟩:=o
 obtain ⟨m0,m1⟩:=hv.md
 obtain ⟨n0',n1⟩:=hv.ns
 obtain ⟨r0,r1⟩:=hv.rs
 obtain ⟨g0,g1⟩:=hv.mg
 obtain ⟨d0,d1⟩:=hv.rd
 simp only at m0 m1 n0' n1 r0 r1 g0 g1 d0 d1
 clear hv ho
 unfold opV
 simp only
 have HB1:=Lh (al1 w (.cells #[.int .i64 md,.int .i64 ns,.int .i64 rs,.int .i64 mg,.int .i64 rd] 28))
 have HK1:=Lh (blk_new w #[.int .i64 md,.int .i64 ns,.int .i64 rs,.int .i64 mg,.int .i64 rd] 28)
 have HQ1:Hid ((w.alloc (.cells #[.int .i64 md,.int .i64 ns,.int .i64 rs,.int .i64 mg,.int .i64 rd] 28)).heap.size=w.heap.size+1):=Lh (by simp)
 go_enter Tryz.func30,Tryz.ntmps30
 go_wp2_with fail
 generalize w.alloc (.cells #[.int .i64 md,.int .i64 ns,.int .i64 rs,.int .i64 mg,.int .i64 rd] 28)=w1 at HB1 HK1 HQ1 ⊢
 have hq1:=HQ1.out
 have hlb0:=NB.new (B:=w.heap.size+1) w1 4
 have hbl:=al1 w1 (.cells #[.int .i64 4,.slice none 0 0] 132)
 generalize w1.alloc (.cells #[.int .i64 4,.slice none 0 0] 132)=w2 at hlb0 hbl ⊢
 rw [hq1] at hlb0 hbl
 try simp only [hq1]
 obtain ⟨n0,hn0⟩:∃ n0,w.heap.size=n0:=⟨_,rfl⟩
 have hke2:blk w2 n0 28 #[.int .i64 md,.int .i64 ns,.int .i64 rs,.int .i64 mg,.int .i64 rd]:=blk_keep (show Below w1.heap.size w1 w2 by rw [hq1];exact hbl) (by rw [← hn0];exact HK1.out)
 have hb2:Below w.heap.size w w2:=HB1.out.trans (hbl.mono (by omega))
 rw [hn0] at hlb0
 simp only [hn0]
 have HN0:=Lh hn0
 have HNB2:=Lh hlb0
 have HKE2:=Lh hke2
 have HB2:=Lh hb2
 have hz2:n0+2≤w2.heap.size:=by obtain ⟨_,_,q,-⟩:=hlb0;exact blk_lt q
 clear hlb0 hbl hke2 hb2 HB1 HK1 HQ1 hq1 hn0
 obtain ⟨S1,hS1⟩:∃ S,bb (modes.getD md.toNat [])=S:=⟨_,rfl⟩
 obtain ⟨S0,hS0⟩:∃ S,bb (modes.getD (0:Int).toNat [])=S:=⟨_,rfl⟩
 have HS1:=Lh hS1
 have HS0:=Lh hS0
 clear hS1 hS0
 have c0:w2.cell? ⟨n0,0,none⟩=some (.int .i64 md):=by rw [blk_cell HKE2.out];rfl
 go_wp2_with fail
 refine (cmode_of md S1 w2 m0 m1 HS1).mono ?_
 rintro e x1 ⟨rfl,hx1⟩
 have HX1:=Lh hx1
 clear hx1 c0
 go_wp2_with fail
 refine (cmode_of 0 S0 x1 (by decide) (by decide) HS0).mono ?_
 rintro e x2 ⟨rfl,hx2⟩
 have HX2:=Lh (below_keep hx2 HX1.out)
 clear hx2 HX1
 go_wp2_with fail
 have hzx:n0+2≤x2.heap.size:=by have:=HX2.out.size;omega
 have HNBx:=Lh (HNB2.out.below HX2.out)
 have HKEx:=Lh (blk_keep HX2.out HKE2.out)
 have HBx:=Lh (HB2.out.trans (HX2.out.mono (by have:=HN0.out;omega)))
 clear HX2 HKE2 HNB2
 refine (ctext_of (n0+1) (n0+1) 4 [] ⟨#[109,111,100,101]⟩ S1 S0 wMode (modes.getD md.toNat []) (modes.getD (0:Int).toNat []) x2 HNBx (Lh rfl) HS1 HS0 (Nat.le_refl _) (by decide)).mono ?_
 rintro e w3 ⟨rfl,hnb,hkp⟩
 have HNB3:=Lh hnb
 have HKE3:=Lh (hkp.2 _ _ _ HKEx.out (by decide) (by omega))
 have HB3:=Lh (HBx.out.trans (hkp.1.mono (by have:=HN0.out;omega)))
 have hz3:n0+2≤w3.heap.size:=by obtain ⟨_,_,q,-⟩:=hnb;exact blk_lt q
 clear hnb hkp
 have hl3:(addT [] wMode (modes.getD md.toNat []) (modes.getD (0:Int).toNat [])).length≤1:=by have:=addT_len [] wMode (modes.getD md.toNat []) (modes.getD (0:Int).toNat []);first | omega | (simp only [List.length_nil] at this;omega)
 obtain ⟨l3,hl3'⟩:∃ l,addT [] wMode (modes.getD md.toNat []) (modes.getD (0:Int).toNat [])=l:=⟨_,rfl⟩
 rw [hl3'] at hl3 HNB3
 have HL3:=Lh hl3'
 clear hl3'
 have c1:w3.cell? ⟨n0,1,none⟩=some (.int .i64 ns):=by rw [blk_cell HKE3.out];rfl
 go_wp2_with fail
 refine (cnumb_of (n0+1) (n0+1) 4 l3 ⟨#[110,111,100,101,115,101,112]⟩ wNodesep ns 1 10000 w3 HNB3 (Lh (tab_below htb.out HB3.out)) (Lh rfl) (by decide) (Lh rfl) (Nat.le_refl _) (by omega) (by omega) (by omega)).mono ?_
 rintro e w4 ⟨rfl,hnb,hkp⟩
 have HNB4:=Lh hnb
 have HKE4:=Lh (hkp.2 _ _ _ HKE3.out (by decide) (by omega))
 have HB4:=Lh (HB3.out.trans (hkp.1.mono (by have:=HN0.out;omega)))
 have hz4:n0+2≤w4.heap.size:=by obtain ⟨_,_,q,-⟩:=hnb;exact blk_lt q
 clear hnb hkp
 clear c1
 have hl4:(addT l3 wNodesep (fmtL (ns*1)) (fmtL (10000*1))).length≤2:=by have:=addT_len l3 wNodesep (fmtL (ns*1)) (fmtL (10000*1));first | omega | (simp only [List.length_nil] at this;omega)
 obtain ⟨l4,hl4'⟩:∃ l,addT l3 wNodesep (fmtL (ns*1)) (fmtL (10000*1))=l:=⟨_,rfl⟩
 rw [hl4'] at hl4 HNB4
 have HL4:=Lh hl4'
 clear hl4'
 have c2:w4.cell? ⟨n0,2,none⟩=some (.int .i64 rs):=by rw [blk_cell HKE4.out];rfl
 go_wp2_with fail
 refine (cnumb_of (n0+1) (n0+1) 4 l4 ⟨#[114,97,110,107,115,101,112]⟩ wRanksep rs 1 20000 w4 HNB4 (Lh (tab_below htb.out HB4.out)) (Lh rfl) (by decide) (Lh rfl) (Nat.le_refl _) (by omega) (by omega) (by omega)).mono ?_
 rintro e w5 ⟨rfl,hnb,hkp⟩
 have HNB5:=Lh hnb
 have HKE5:=Lh (hkp.2 _ _ _ HKE4.out (by decide) (by omega))
 have HB5:=Lh (HB4.out.trans (hkp.1.mono (by have:=HN0.out;omega)))
 have hz5:n0+2≤w5.heap.size:=by obtain ⟨_,_,q,-⟩:=hnb;exact blk_lt q
 clear hnb hkp
 clear c2
 have hl5:(addT l4 wRanksep (fmtL (rs*1)) (fmtL (20000*1))).length≤3:=by have:=addT_len l4 wRanksep (fmtL (rs*1)) (fmtL (20000*1));first | omega | (simp only [List.length_nil] at this;omega)
 obtain ⟨l5,hl5'⟩:∃ l,addT l4 wRanksep (fmtL (rs*1)) (fmtL (20000*1))=l:=⟨_,rfl⟩
 rw [hl5'] at hl5 HNB5
 have HL5:=Lh hl5'
 clear hl5'
 have c3:w5.cell? ⟨n0,3,none⟩=some (.int .i64 mg):=by rw [blk_cell HKE5.out];rfl
 go_wp2_with fail
 refine (cnumb_of (n0+1) (n0+1) 4 l5 ⟨#[109,97,114,103,105,110]⟩ wMargin mg 1 5000 w5 HNB5 (Lh (tab_below htb.out HB5.out)) (Lh rfl) (by decide) (Lh rfl) (Nat.le_refl _) (by omega) (by omega) (by omega)).mono ?_
 rintro e w6 ⟨rfl,hnb,hkp⟩
 have HNB6:=Lh hnb
 have HKE6:=Lh (hkp.2 _ _ _ HKE5.out (by decide) (by omega))
 have HB6:=Lh (HB5.out.trans (hkp.1.mono (by have:=HN0.out;omega)))
 have hz6:n0+2≤w6.heap.size:=by obtain ⟨_,_,q,-⟩:=hnb;exact blk_lt q
 clear hnb hkp
 clear c3
 have hl6:(addT l5 wMargin (fmtL (mg*1)) (fmtL (5000*1))).length≤4:=by have:=addT_len l5 wMargin (fmtL (mg*1)) (fmtL (5000*1));first | omega | (simp only [List.length_nil] at this;omega)
 obtain ⟨l6,hl6'⟩:∃ l,addT l5 wMargin (fmtL (mg*1)) (fmtL (5000*1))=l:=⟨_,rfl⟩
 rw [hl6'] at hl6 HNB6
 have HL6:=Lh hl6'
 clear hl6'
 have c4:w6.cell? ⟨n0,4,none⟩=some (.int .i64 rd):=by rw [blk_cell HKE6.out];rfl
 go_wp2_with fail
 refine (cnumb_of (n0+1) (n0+1) 4 l6 ⟨#[114,111,117,110,100,115]⟩ wRounds rd 1000 8 w6 HNB6 (Lh (tab_below htb.out HB6.out)) (Lh rfl) (by decide) (Lh rfl) (Nat.le_refl _) (by omega) (by omega) (by omega)).mono ?_
 rintro e w7 ⟨rfl,hnb,hkp⟩
 have HNB7:=Lh hnb
 have HKE7:=Lh (hkp.2 _ _ _ HKE6.out (by decide) (by omega))
 have HB7:=Lh (HB6.out.trans (hkp.1.mono (by have:=HN0.out;omega)))
 have hz7:n0+2≤w7.heap.size:=by obtain ⟨_,_,q,-⟩:=hnb;exact blk_lt q
 clear hnb hkp
 clear c4
 have hl7:(addT l6 wRounds (fmtL (rd*1000)) (fmtL (8*1000))).length≤5:=by have:=addT_len l6 wRounds (fmtL (rd*1000)) (fmtL (8*1000));first | omega | (simp only [List.length_nil] at this;omega)
 obtain ⟨l7,hl7'⟩:∃ l,addT l6 wRounds (fmtL (rd*1000)) (fmtL (8*1000))=l:=⟨_,rfl⟩
 rw [hl7'] at hl7 HNB7
 have HL7:=Lh hl7'
 clear hl7'
 have hA:l7=optA ⟨md,ns,rs,mg,rd⟩:=by rw [← HL7.out,← HL6.out,← HL5.out,← HL4.out,← HL3.out];exact HEQ.out
 have HA:=Lh hA
 clear hA HL7 HL6 HL5 HL4 HL3 HEQ
 have HBN:Hid (∀ r∈l7,r.1.length≤maxLen∧r.2.length≤maxLen):=Lh (by rw [HA.out];exact HMX.out)
 obtain ⟨ao,ac,hbx,hrx⟩:=HNB7.out
 have u1:w7.cell? ⟨n0+1,1,none⟩=some (.slice ao l7.length ac):=by rw [blk_cell hbx];rfl
 have HPR:=Lh (own_selfP hrx (Nat.le_refl (n0+1)) HBN.out w7 (agree.self _ _ _))
 obtain ⟨b0,hb0⟩:∃ b0,w7.heap.size=b0:=⟨_,rfl⟩
 clear hbx hrx
 go_wp2_with fail
 go_loopw [4,28] (fun lv iv wr=>∃ (k:Nat) (D:List Sv),iv=.int .i64 k∧k≤l7.length∧RS b0 wr lv D∧D.map Sv.s=(l7.take k).map (fun a:Pr=>setS a.1 a.2)∧Below b0 w7 wr) (fun _ iv _=>l7.length - (intOf iv).toNat)
 case atStart=>exact ⟨0,[],rfl,Nat.zero_le _,RS.nil _ _,rfl,Below.refl _ _⟩
 case round =>
  obtain ⟨k,D,rfl,hk,hrs,hD,hbw⟩:=hrel
  rename World=>wr
  obtain ⟨vo,vc,rfl⟩:=hrs.form
  have hDk:D.length≤300:=by rw [← List.length_map (f:=Sv.s),hD,List.length_map,List.length_take];omega
  have HRS:=Lh hrs
  have HD:=Lh hD
  have HBW:=Lh hbw
  have hzr:=hbw.size
  clear hrs hD hbw u1
  by_cases hlt:k < l7.length
  case neg =>
   obtain rfl:k=l7.length:=by omega
   go_wp2
   go_ret
   refine ⟨⟨_,D,rfl,HRS.out.lower (by have:=HN0.out;omega),?_⟩,HB7.out.trans (HBW.out.mono (by have:=HN0.out;omega))⟩
   rw [HD.out,List.take_length,HA.out];exact HMP.out
  have HTK:=Lh (take_one hlt)
  have hb9:=HBN.out _ (List.getElem_mem hlt)
  obtain ⟨A,rfl,q0,q1,-,-⟩:=(HPR.out.keep (show Below w7.heap.size w7 wr by rw [hb0];exact HBW.out)).get hlt
  obtain ⟨x,hx⟩:∃ x,l7[k]=x:=⟨_,rfl⟩
  rw [hx] at q0 q1 hb9 HTK
  obtain ⟨xk,xv⟩:=x
  clear hx
  simp only at q0 q1 hb9
  have HB9:=Lh hb9
  obtain ⟨X,hX⟩:∃ X,bb xk=X:=⟨_,rfl⟩
  obtain ⟨V,hV⟩:∃ X,bb xv=X:=⟨_,rfl⟩
  rw [hX] at q0
  rw [hV] at q1
  have HX:=Lh hX
  have HV:=Lh hV
  clear hX hV hb9
  have z5:(0:Int)≤(k:Int):=by omega
  have z6:(k:Int) < (l7.length:Int):=by omega
  have HB8:Hid (Below wr.heap.size wr ((wr.alloc (.cells #[.string X,.string V] 69)).alloc (.cells #[.string ⟨#[]⟩,.string V] 69))):=Lh (below_keep (al1 (wr.alloc (.cells #[.string X,.string V] 69)) (.cells #[.string ⟨#[]⟩,.string V] 69)) (al1 wr (.cells #[.string X,.string V] 69)))
  have hq7:(wr.alloc (.cells #[.string X,.string V] 69)).heap.size=wr.heap.size+1:=by simp
  have hk8:=blk_new (wr.alloc (.cells #[.string X,.string V] 69)) #[.string ⟨#[]⟩,.string V] 69
  have hq8:((wr.alloc (.cells #[.string X,.string V] 69)).alloc (.cells #[.string ⟨#[]⟩,.string V] 69)).heap.size=wr.heap.size+2:=by simp
  rw [hq7] at hk8
  have HRS8:=Lh (HRS.out.below HB8.out)
  have HXX:Hid (elS b0 ((wr.alloc (.cells #[.string X,.string V] 69)).alloc (.cells #[.string ⟨#[]⟩,.string V] 69)) (Value.slice vo D.length vc).ownBlock ⟨setS xk xv,.slice none 0 0,.slice (some ⟨wr.heap.size+1,0,none⟩) 1 1,.slice none 0 0⟩):=Lh (by
   refine ⟨wr.heap.size,((wr.alloc (.cells #[.string X,.string V] 69)).alloc (.cells #[.string ⟨#[]⟩,.string V] 69)).heap.size,by omega,Nat.le_refl _,fun q hq h2=>?_,fun U hU=>?_⟩
   ·have:=(HRS.out.lt q hq).2;omega
   ·have hq:=prs_one (a:=[]) (b:=xv) (hU.blk (g:=wr.heap.size+1) (by omega) (by omega) (by rw [show bb xv=V from HV.out];exact hk8)) (show 0≤maxLen by decide) HB9.out.2
    exact ⟨HB9.out.1,Prs.nil U,hq,Sts.nil U⟩)
  have HK8:=Lh hk8
  have HQ8:=Lh hq8
  clear hk8 hq8 hq7
  have HXE:Hid (svC ⟨setS xk xv,.slice none 0 0,.slice (some ⟨wr.heap.size+1,0,none⟩) 1 1,.slice none 0 0⟩=[.int .i64 4,.string X,.slice none 0 0,.slice (some ⟨wr.heap.size+1,0,none⟩) 1 1,.slice none 0 0]):=Lh (by show [_,Value.string (bb xk),_,_,_]=_;rw [show bb xk=X from HX.out];rfl)
  go_wp2_with (at_builtin;refine ls_st rfl (.tmp 32) (.tmp 40) rfl b0 _ D ⟨setS xk xv,.slice none 0 0,.slice (some ⟨wr.heap.size+1,0,none⟩) 1 1,.slice none 0 0⟩ 4 X _ _ _ HXE.out (wr.heap.size+1+1) HQ8.out rfl rfl HRS8 HXX (by omega) (by rw [HQ8.out];omega) ⟨rfl,rfl,rfl⟩ ?_;intro gg cap V hrs9 hg9)
  have hB9:=grownB HRS8.out hg9.out (by rw [HQ8.out];omega)
  have HBW9:=Lh (HBW.out.trans ((HB8.out.mono (by omega)).trans hB9))
  clear hB9
  go_wp2
  go_roundw
  case rel=>exact ⟨k+1,D ++ [⟨setS xk xv,.slice none 0 0,.slice (some ⟨wr.heap.size+1,0,none⟩) 1 1,.slice none 0 0⟩],by go_num,by omega,hrs9.out,by rw [List.map_append,HD.out,HTK.out,List.map_append];rfl,HBW9.out⟩
  case measure=>simp [intOf];omega
end Go.Proofs.YtgmidodmmlmmeaaGreatDoor.xpt
namespace Go.Proofs.YtgmidodmmlmmeaaGreatDoor.xpt
open Go.RowKit lex tre att
def ixI:List Int→Int→Int→Int
 | [],_,_=>-1
 | a :: t,x,i=>if x=a then i else ixI t x (i+1)
theorem ix_ge (x:Int):∀ (l:List Int) (i:Int),0≤i→(0≤ixI l x i ↔ x∈l)
 | [],_,_=>by simp [ixI]
 | a :: t,i,hi=>by
  unfold ixI
  by_cases e:x=a
  ·rw [if_pos e];simp [e,hi]
  ·rw [if_neg e,ix_ge x t (i+1) (by omega)];simp [e]
set_option maxRecDepth 100000 in
set_option maxHeartbeats 1000000 in
theorem iix_of (v:Value)(l:List Int)(x n:Int)(w:World)(h:Hid (gra.Ins w v l))(hn:Hid (ixI l x 0=n)) :
    Calls Tryz.prog 240 #[v,.int .i64 x] w fun e w'=>e=.returned (.int .i64 n)∧w=w':=by
 obtain ⟨ao,cap,rfl,hc1,hm1,_⟩:=id h.out
 unfold maxLen at hm1
 have hlm:l.length≤9223372036854775807:=by omega
 clear hc1 hm1
 go_enter Tryz.func240,Tryz.ntmps240
 go_wp2_with fail
 go_loop [5,8] (fun _ iv=>∃ i:Nat,iv=.int .i64 i∧i≤l.length∧ixI (l.drop i) x i=n) (fun _ iv=>l.length - (intOf iv).toNat)
 case atStart=>exact ⟨0,rfl,Nat.zero_le _,hn.out⟩
 case round =>
  obtain ⟨i,rfl,hi,hfe⟩:=hrel
  by_cases hlt:i < l.length
  case neg =>
   obtain rfl:i=l.length:=by omega
   rw [List.drop_length] at hfe
   have he:(-1:Int)=n:=hfe
   subst he
   go_wp2
   go_ret
   exact ⟨rfl,rfl⟩
  obtain ⟨A,rfl,q0⟩:=h.out.get hlt
  have q0':w.cell? (A.add (i*1))=some (.int .i64 l[i]):=q0
  rw [Nat.mul_one] at q0'
  rw [List.drop_eq_getElem_cons hlt,ixI] at hfe
  obtain ⟨u,hu⟩:∃ u,l[i]=u:=⟨_,rfl⟩
  rw [hu] at q0' hfe
  have i0:(0:Int)≤(i:Int):=by omega
  have i1:(i:Int) < (l.length:Int):=by omega
  clear q0 hu
  by_cases e:x=u
  ·have be:(x == u)=true:=by rw [beq_iff_eq];exact e
   rw [if_pos e] at hfe
   have HF:=Lh hfe
   clear e hfe
   go_wp2
   go_ret
   exact ⟨by rw [← HF.out];rfl,rfl⟩
  ·have be:(x == u)=false:=by rw [beq_eq_false_iff_ne];exact e
   rw [if_neg e] at hfe
   have HF:=Lh hfe
   clear e hfe
   go_wp2
   go_round
   case rel=>exact ⟨i+1,by go_num,by omega,by have:=HF.out;rw [show (((i+1:Nat):Int))=(i:Int)+1 by omega];exact this⟩
   case measure=>simp [intOf];omega
set_option maxRecDepth 100000 in
theorem icon_of (v:Value)(l:List Int)(x:Int)(b:Bool)(w:World)(h:Hid (gra.Ins w v l))(hb:Hid (l.contains x=b)) :
    Calls Tryz.prog 189 #[v,.int .i64 x] w fun e w'=>e=.returned (.bool b)∧w=w':=by
 obtain ⟨n,hn⟩:∃ n,ixI l x 0=n:=⟨_,rfl⟩
 have hge:=ix_ge x l 0 (by omega)
 rw [hn] at hge
 have HG:Hid (decide (0≤n)=b):=Lh (by rw [← hb.out,Bool.eq_iff_iff,decide_eq_true_eq,hge,List.contains_iff_mem])
 have HN:=Lh hn
 clear hn hge
 go_enter Tryz.func189,Tryz.ntmps189
 go_wp2_with fail
 refine (iix_of v l x n w h HN).mono ?_
 rintro e w1 ⟨rfl,rfl⟩
 go_wp2
 go_ret
 exact ⟨by rw [← HG.out];rfl,rfl⟩
end Go.Proofs.YtgmidodmmlmmeaaGreatDoor.xpt
namespace Go.Proofs.YtgmidodmmlmmeaaGreatDoor.xpt
open Go.RowKit Go.Sort lex tre att nor
def Mms (B:Nat)(w:World)(mv:Value)(g:gra.Gr):Prop:=∃ vs:List Value,vs.length=g.cs.length∧w.ownsRow B 53 1 mv g.cs.length vs∧∀ i (h:i < vs.length),gra.Irow w B vs[i] (gra.memsK g i g.ns.length)
theorem Mms.pk {R B:Nat}{w w':World}{mv:Value}{g:gra.Gr}(h:Mms B w mv g)(hp:Pk R w w')(hB:R < B):Mms B w' mv g:=by
 obtain ⟨vs,h1,h2,h3⟩:=h
 exact ⟨vs,h1,hp.own hB h2,fun i hi=>hp.own hB (h3 i hi)⟩
theorem Mms.at {B:Nat}{w:World}{mv:Value}{g:gra.Gr}(h:Mms B w mv g){i:Nat}(hi:i < g.cs.length):∃ b cap iv,mv=.slice (some ⟨b,0,none⟩) g.cs.length cap∧w.cell? ⟨b,i,none⟩=some iv∧gra.Ins w iv (gra.memsK g i g.ns.length):=by
 obtain ⟨vs,h1,h2,h3⟩:=h
 obtain ⟨b,cap,arr,e,-,hk,-,-,h4⟩:=own_blk h2 (by omega)
 refine ⟨b,cap,vs[i]'(by omega),e,?_,gra.Irow.ins (h3 i (by omega))⟩
 rw [blk_cell hk,h4 i (by omega),List.getElem?_eq_getElem (by omega)]
structure Wv where
 no:Option Addr
 nc:Nat
 eo:Option Addr
 ec:Nat
 co:Option Addr
 cc:Nat
 mv:Value
def Wc (w0 w:World)(R:Nat)(g:gra.Gr)(V:Wv)(n k:Nat):Prop :=
 gra.GrV w0 (.agg #[.string (gra.bb g.nm),.bool g.dir,.slice V.no g.ns.length V.nc,.slice V.eo g.es.length V.ec,.slice V.co g.cs.length V.cc]) g∧Below w0.heap.size w0 w∧w0.heap.size≤R ∧
  blk w R 128 #[.string (gra.bb g.nm),.bool g.dir,.slice V.no g.ns.length V.nc,.slice V.eo g.es.length V.ec,.slice V.co g.cs.length V.cc,V.mv,.int .i64 n,.int .i64 k]∧Mms (R+1) w V.mv g
theorem Wc.lt {w0 w:World}{R:Nat}{g:gra.Gr}{V:Wv}{n k:Nat}(h:Wc w0 w R g V n k):w0.heap.size≤R∧R < w.heap.size:=by
 obtain ⟨h1,h2,h3,h4,h5⟩:=h
 exact ⟨h3,blk_lt h4⟩
theorem Wc.base {w0 w:World}{R:Nat}{g:gra.Gr}{V:Wv}{n k:Nat}(h:Wc w0 w R g V n k):Below w0.heap.size w0 w:=by
 obtain ⟨h1,h2,h3,h4,h5⟩:=h;exact h2
theorem Wc.pk {w0 w w':World}{R:Nat}{g:gra.Gr}{V:Wv}{n k:Nat}(h:Wc w0 w R g V n k)(hp:Pk R w w')(hk:w'.heap[R]?=w.heap[R]?):Wc w0 w' R g V n k:=by
 obtain ⟨h1,h2,h3,h4,h5⟩:=h
 refine ⟨h1,⟨hp.os.trans h2.os,hp.tape.trans h2.tape,hp.output.trans h2.output,Nat.le_trans h2.size hp.size,fun q hq=>?_⟩,h3,by unfold xpt.blk at h4 ⊢;rw [hk];exact h4,h5.pk hp (by omega)⟩
 rw [hp.block q (by omega) (Nat.lt_of_lt_of_le hq h2.size)];exact h2.block q hq
theorem Wc.below {w0 w w':World}{R:Nat}{g:gra.Gr}{V:Wv}{n k:Nat}(h:Wc w0 w R g V n k)(hb:Below w.heap.size w w'):Wc w0 w' R g V n k:=h.pk (Pk.below hb) (hb.block R h.lt.2)
theorem Wc.setN {w0 w:World}{R:Nat}{g:gra.Gr}{V:Wv}{n k:Nat}(h:Wc w0 w R g V n k):Wc w0 (w.setCell ⟨R,6,none⟩ (.int .i64 ((n:Int)+1))) R g V (n+1) k:=by
 obtain ⟨h1,h2,h3,h4,h5⟩:=h
 exact ⟨h1,h2.setCell h3 _,h3,blk_set h4 _,h5.pk (Pk.set R w 6 _) (by omega)⟩
theorem Wc.setK {w0 w:World}{R:Nat}{g:gra.Gr}{V:Wv}{n k:Nat}(h:Wc w0 w R g V n k):Wc w0 (w.setCell ⟨R,7,none⟩ (.int .i64 ((k:Int)+1))) R g V n (k+1):=by
 obtain ⟨h1,h2,h3,h4,h5⟩:=h
 exact ⟨h1,h2.setCell h3 _,h3,blk_set h4 _,h5.pk (Pk.set R w 7 _) (by omega)⟩
theorem Mms.far {B g' o:Nat}{w:World}{mv u:Value}{g:gra.Gr}{t:TypeId}{arr:Array Value}(h:Mms B w mv g)(hb:blk w g' t arr)(h1:t≠53)(h2:t≠3):Mms B (w.setCell ⟨g',o,none⟩ u) mv g:=by
 obtain ⟨vs,q1,q2,q3⟩:=h
 exact ⟨vs,q1,row_set q2 hb (Ne.symm h1) u,fun i hi=>row_set (q3 i hi) hb (Ne.symm h2) u⟩
theorem Wc.far {w0 w:World}{R b o:Nat}{g:gra.Gr}{V:Wv}{n k:Nat}{u:Value}{t:TypeId}{arr:Array Value}(h:Wc w0 w R g V n k)(hb:blk w b t arr)(h1:t≠53)(h2:t≠3)(hR:R≠b)(h0:w0.heap.size≤b):Wc w0 (w.setCell ⟨b,o,none⟩ u) R g V n k:=by
 obtain ⟨q1,q2,q3,q4,q5⟩:=h
 exact ⟨q1,q2.setCell h0 _,q3,blk_far q4 hR _,q5.far hb h1 h2⟩
theorem Wc.far5 {w0 w:World}{R b:Nat}{g:gra.Gr}{V:Wv}{n k:Nat}{t:TypeId}{a0 a1 a2 a3 a4:Value}(h:Wc w0 w R g V n k)(hb:blk w b t #[a0,a1,a2,a3,a4])(h1:t≠53)(h2:t≠3)(hR:R≠b)(h0:w0.heap.size≤b)(c0 c1 c2 c3 c4:Value):Wc w0 (((((w.setCell ⟨b,0,none⟩ c0).setCell ⟨b,1,none⟩ c1).setCell ⟨b,2,none⟩ c2).setCell ⟨b,3,none⟩ c3).setCell ⟨b,4,none⟩ c4) R g V n k:=by
 have e0:blk (w.setCell ⟨b,0,none⟩ c0) b t #[c0,a1,a2,a3,a4]:=blk_set hb c0
 have e1:blk ((w.setCell ⟨b,0,none⟩ c0).setCell ⟨b,1,none⟩ c1) b t #[c0,c1,a2,a3,a4]:=blk_set e0 c1
 have e2:blk (((w.setCell ⟨b,0,none⟩ c0).setCell ⟨b,1,none⟩ c1).setCell ⟨b,2,none⟩ c2) b t #[c0,c1,c2,a3,a4]:=blk_set e1 c2
 have e3:blk ((((w.setCell ⟨b,0,none⟩ c0).setCell ⟨b,1,none⟩ c1).setCell ⟨b,2,none⟩ c2).setCell ⟨b,3,none⟩ c3) b t #[c0,c1,c2,c3,a4]:=blk_set e2 c3
 exact ((((h.far hb h1 h2 hR h0).far e0 h1 h2 hR h0).far e1 h1 h2 hR h0).far e2 h1 h2 hR h0).far e3 h1 h2 hR h0
theorem row_grown {V V':World}{B B0 c n s m:Nat}{t t0:TypeId}{u v:Value}{xs ys:List Value}(h:V.ownsRow B t c u n xs)(hr:V.ownsRow B0 t0 s v m ys)(hg:V.grownBy V' v.ownBlock)(ht:t≠t0):V'.ownsRow B t c u n xs :=
 ⟨h.1,h.2.imp id fun ⟨g,cap,cur,e,h1,h2,h3⟩=>⟨g,cap,cur,e,h1,grown_blk hr hg h2 ht,h3⟩⟩
theorem Wc.grown {w0 w w':World}{R B:Nat}{g:gra.Gr}{V:Wv}{n k:Nat}{v:Value}{D:List Sv}(h:Wc w0 w R g V n k)(hr:RS B w v D)(hg:w.grownBy w' v.ownBlock)(hB:w0.heap.size≤B)(hz:B≤w.heap.size):Wc w0 w' R g V n k:=by
 obtain ⟨q1,q2,q3,q4,vs,q5,q6,q7⟩:=h
 exact ⟨q1,q2.trans ((grownB hr hg hz).mono hB),q3,grownK hr hg q4 (by decide),vs,q5,row_grown q6 hr.1 hg (by decide),fun i hi=>row_grown (q7 i hi) hr.1 hg (by decide)⟩
theorem wc_cells {w0 W:World}{R:Nat}{g:gra.Gr}{V:Wv}{n k:Nat}(h:Wc w0 W R g V n k):W.cell? ⟨R,2,none⟩=some (.slice V.no g.ns.length V.nc)∧W.cell? ⟨R,4,none⟩=some (.slice V.co g.cs.length V.cc)∧W.cell? ⟨R,5,none⟩=some V.mv∧W.cell? ⟨R,6,none⟩=some (.int .i64 n)∧W.cell? ⟨R,7,none⟩=some (.int .i64 k)∧W.frozen? ⟨R,6,none⟩=false∧W.frozen? ⟨R,7,none⟩=false∧gra.Nds w0 (.slice V.no g.ns.length V.nc) g.ns∧gra.Cls w0 (.slice V.co g.cs.length V.cc) g.cs∧Mms (R+1) W V.mv g:=by
 obtain ⟨h1,h2,h3,h4,h5⟩:=h
 obtain ⟨nv,ev,cv,e,-,q1,-,q3⟩:=h1
 cases e
 exact ⟨by rw [blk_cell h4];rfl,by rw [blk_cell h4];rfl,by rw [blk_cell h4];rfl,by rw [blk_cell h4];rfl,by rw [blk_cell h4];rfl,blk_free h4,blk_free h4,q1,q3,h5⟩
set_option maxRecDepth 100000 in
theorem cnodn_of (w0:World)(R:Nat)(g:gra.Gr)(V:Wv)(n k:Nat)(c:Int)(b:Bool)(w:World)(h:Hid (Wc w0 w R g V n k))(hn:n≤g.ns.length)(hb:Hid (nodN g c n=b)) :
    Calls Tryz.prog 134 #[.pointer (some ⟨R,0,none⟩),.int .i64 c] w fun e w'=>e=.returned (.bool b)∧w=w':=by
 obtain ⟨no,nc,eo,ec,co,cc,mv⟩:=V
 obtain ⟨c2,-,-,c6,-,-,-,hns,-,-⟩:=wc_cells h.out
 simp only at c2 hns
 have hbase:=h.out.base
 by_cases x1:n < g.ns.length
 case neg =>
  have e1:decide ((n:Int) < (g.ns.length:Int))=false:=by rw [decide_eq_false_iff_not];omega
  have e1':decide (n < g.ns.length)=false:=decide_eq_false x1
  have HB:Hid (false=b):=Lh (by rw [← hb.out,nodN_end x1])
  clear hns x1
  go_enter Tryz.func134,Tryz.ntmps134
  go_wp2
  go_ret
  exact ⟨by rw [← HB.out];rfl,rfl⟩
 obtain ⟨A,rfl,po,pc,hC,-,-⟩:=nds_c hns x1
 obtain ⟨-,-,-,-,p4,-⟩:=hC.keep hbase
 have HCL:=Lh (nodN_at (c:=c) x1)
 obtain ⟨y,hy⟩:∃ y,(g.ns[n]).cl=y:=⟨_,rfl⟩
 rw [hy] at p4 HCL
 have HB:Hid ((y == c)=b):=Lh (by rw [← hb.out,HCL.out,Bool.eq_iff_iff,decide_eq_true_eq,beq_iff_eq])
 have e1:decide ((n:Int) < (g.ns.length:Int))=true:=by rw [decide_eq_true_eq];omega
 have e1':decide (n < g.ns.length)=true:=decide_eq_true x1
 have z0:(0:Int)≤(n:Int):=by omega
 have z1:(n:Int) < (g.ns.length:Int):=by omega
 clear hns hy hC hb
 go_enter Tryz.func134,Tryz.ntmps134
 go_wp2
 go_ret
 exact ⟨by rw [← HB.out];rfl,rfl⟩
set_option maxRecDepth 100000 in
set_option maxHeartbeats 2000000 in
theorem cclun_of (w0:World)(R:Nat)(g:gra.Gr)(V:Wv)(n k:Nat)(c:Int)(b:Bool)(w:World)(h:Hid (Wc w0 w R g V n k))(hk:k≤g.cs.length)(hb:Hid (cluN g c n k=b)) :
    Calls Tryz.prog 132 #[.pointer (some ⟨R,0,none⟩),.int .i64 c] w fun e w'=>e=.returned (.bool b)∧Below w.heap.size w w':=by
 have hmx:Tryz.prog.follows .mixedOrders=true:=by kernel_rfl
 obtain ⟨no,nc,eo,ec,co,cc,mv⟩:=V
 obtain ⟨-,c4,c5,c6,c7,-,-,-,hcs,hmm⟩:=wc_cells h.out
 simp only at c4 c5 hcs hmm
 have hbase:=h.out.base
 by_cases x1:k < g.cs.length
 case neg =>
  obtain rfl:k=g.cs.length:=by omega
  have HB:Hid (false=b):=Lh (by rw [← hb.out,cluN_end x1])
  clear hcs hmm x1
  go_enter Tryz.func132,Tryz.ntmps132
  go_wp2
  go_ret
  exact ⟨by rw [← HB.out];rfl,Below.refl _ _⟩
 have e1:((k:Int) == (g.cs.length:Int))=false:=by rw [beq_eq_false_iff_ne];omega
 have e1':(k == g.cs.length)=false:=by rw [beq_eq_false_iff_ne];omega
 have e1'':decide (k=g.cs.length)=false:=by rw [decide_eq_false_iff_not];omega
 have z0:(0:Int)≤(k:Int):=by omega
 have z1:(k:Int) < (g.cs.length:Int):=by omega
 obtain ⟨A,rfl,-,p1,-⟩:=cls_c (hcs.keep hbase) x1
 have HCL:=Lh (cluN_at (c:=c) (n:=n) x1)
 obtain ⟨y,hy⟩:∃ y,(g.cs[k]).2=y:=⟨_,rfl⟩
 rw [hy] at p1 HCL
 by_cases x2:y=c
 case neg =>
  have e2:(y != c)=true:=by rw [bne_iff_ne];exact x2
  have HB:Hid (false=b):=Lh (by rw [← hb.out,HCL.out,decide_eq_false x2];rfl)
  clear hcs hmm hy x1 x2 hb
  go_enter Tryz.func132,Tryz.ntmps132
  go_wp2
  go_ret
  exact ⟨by rw [← HB.out];rfl,Below.refl _ _⟩
 have e2:(y != c)=false:=by rw [x2];simp
 obtain ⟨bm,cm,iv,rfl,q0,q1⟩:=hmm.at x1
 obtain ⟨io,ic,rfl,hm1,hm,-⟩:=id q1
 have HI:=Lh q1
 have HB:Hid (((gra.memsK g k g.ns.length).contains (n:Int) || (gra.memsK g k g.ns.length).isEmpty)=b):=Lh (by rw [← hb.out,HCL.out,decide_eq_true x2,← inC_memsK];rfl)
 obtain ⟨L,hL⟩:∃ L,gra.memsK g k g.ns.length=L:=⟨_,rfl⟩
 rw [hL] at q0 HI HB hm1
 have hlm:L.length≤9223372036854775807:=by unfold maxLen at hm;omega
 clear hcs hmm hy x2 hb q1 hm hm1 hL
 go_enter Tryz.func132,Tryz.ntmps132
 go_wp2_with fail
 have t5:=fun d os=>cell_regrown c5 d os
 have t6:=fun d os=>cell_regrown c6 d os
 have t0:=fun d os=>cell_regrown q0 d os
 obtain ⟨p,hp⟩:∃ p,L.contains (n:Int)=p:=⟨_,rfl⟩
 have HPP:=Lh hp
 have cV:=fun d os=>Calls.regrown_of (w:=w) (d:=d) (os:=os) ((icon_of (.slice io L.length ic) L (n:Int) p (grow (redrawn w d) os) (Lh (HI.out.keep (below_regrown w d os))) HPP).mono fun e w' hh=>(⟨hh.1,by rw [← hh.2];exact Below.refl _ _⟩:e=.returned (.bool p)∧Below _ _ w'))
 rw [hp] at HB
 clear hp
 clear c4 c5 c6 c7 q0 p1
 by_cases x3:L.length=0
 ·have e3:((L.length:Int) == 0)=true:=by rw [x3];rfl
  have e3':(L.length == 0)=true:=by rw [x3];rfl
  have e3'':decide (L.length=0)=true:=decide_eq_true x3
  have HT:Hid (true=b):=Lh (by rw [← HB.out,List.eq_nil_of_length_eq_zero x3];simp)
  clear x3
  refine wp_region_quiet_below hmx (by kernel_rfl) ?_
  repeat (go_big_quiet_step (with_reducible exact cV _ _))
  refine wpQuiet_nil ?_
  intro _ hw'
  obtain ⟨⟨dq,osq⟩,hw''⟩:=hw'
  subst hw''
  go_wp2
  go_ret
  exact ⟨by rw [← HT.out];rfl,below_regrown w dq osq⟩
 ·have e3:((L.length:Int) == 0)=false:=by rw [beq_eq_false_iff_ne];omega
  have e3':(L.length == 0)=false:=by rw [beq_eq_false_iff_ne];exact x3
  have e3'':decide (L.length=0)=false:=decide_eq_false x3
  have HT:Hid (p=b):=Lh (by rw [← HB.out];cases L with | nil=>exact absurd rfl x3 | cons a t=>simp)
  clear x3
  refine wp_region_quiet_below hmx (by kernel_rfl) ?_
  repeat (go_big_quiet_step (with_reducible exact cV _ _))
  refine wpQuiet_nil ?_
  intro _ hw'
  obtain ⟨⟨dq,osq⟩,hw''⟩:=hw'
  subst hw''
  go_wp2
  go_ret
  exact ⟨by rw [← HT.out];rfl,below_regrown w dq osq⟩
set_option maxRecDepth 100000 in
theorem ccutS_of (ao:Option Addr)(n c:Nat)(w:World)(hc:n≤c)(hm:c≤maxLen) :
    Calls Tryz.prog 28 #[.slice ao n c] w fun e w'=>e=.returned (.slice ao n n)∧w=w':=by
 unfold maxLen at hm
 have z0:(0:Int)≤(n:Int):=by omega
 have z1:(n:Int)≤(c:Int):=by omega
 have z2:n≤9223372036854775807:=by omega
 go_enter Tryz.func28,Tryz.ntmps28
 go_wp2
 go_ret
 exact ⟨rfl,rfl⟩
set_option maxRecDepth 100000 in
theorem ccutA_of (ao:Option Addr)(n c:Nat)(w:World)(hc:n≤c)(hm:c≤maxLen) :
    Calls Tryz.prog 72 #[.slice ao n c] w fun e w'=>e=.returned (.slice ao n n)∧w=w':=by
 unfold maxLen at hm
 have z0:(0:Int)≤(n:Int):=by omega
 have z1:(n:Int)≤(c:Int):=by omega
 have z2:n≤9223372036854775807:=by omega
 go_enter Tryz.func72,Tryz.ntmps72
 go_wp2
 go_ret
 exact ⟨rfl,rfl⟩
theorem prs_cut {w:World}{ao:Option Addr}{n c:Nat}{l:List Pr}(h:Prs w (.slice ao n c) l):Prs w (.slice ao n n) l:=by
 obtain ⟨bo,cap,e,h1,h2,h3⟩:=h
 cases e
 exact ⟨ao,l.length,rfl,Nat.le_refl _,Nat.le_trans h1 h2,h3⟩
end Go.Proofs.YtgmidodmmlmmeaaGreatDoor.xpt
