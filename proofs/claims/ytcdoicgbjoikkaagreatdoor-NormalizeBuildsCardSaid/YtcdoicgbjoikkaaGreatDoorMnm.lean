/-
  What block of the reference's machine does (layer 12): it reads a block of statements, and the blocks in it. Conditions: valid statements of few refs in memory, a machine in memory with room.
  What finished of the reference of layer 12 returns: a node with all that its attributes say. Condition: accepted attributes in memory.
-/
import Derived.Test.YtcdoicgbjoikkaaGreatDoorNorEdg
import Derived.Test.YtcdoicgbjoikkaaGreatDoorMni
namespace Go.Proofs.YtcdoicgbjoikkaaGreatDoor.nor
open Go.RowKit lex tre att
theorem TFr.setNew {w w1:World}{b o:Nat}(h:TFr w w1)(hb:w.heap.size≤b)(u:Value):TFr w (w1.setCell ⟨b,o,none⟩ u) :=
 ⟨h.os,h.tape,h.output,by simp [World.setCell];exact h.size,fun k x hk hc=>by
  rw [Below.heap_setCell _ _ _ _ (fun e=>by have:=heap_lt hk;simp only at e;omega)];exact h.block k x hk hc⟩
theorem StB.far {W:World}{B b:Nat}{nm:Nm}{d:Bool}{s:Sta}{x:StV}{g o:Nat}{t:TypeId}{arr:Array Value}(h:StB W B b nm d s x)(hg:blk W g t arr)(h1:t≠45)(h2:t≠47)(h3:t≠54)(h4:t≠126)(h5:t≠74)(h6:t≠82)(u:Value):StB (W.setCell ⟨g,o,none⟩ u) B b nm d s x :=
 ⟨h.low,by
  have hne:b≠g:=fun e=>by
   have q:=h.box
   unfold stb att.blk at q
   unfold att.blk at hg
   rw [e,hg] at q
   cases q
   exact h5 rfl
  unfold stb att.blk
  rw [Below.heap_setCell _ _ _ _ hne];exact h.box,row_set h.nr hg (Ne.symm h1) _,row_set h.cr hg (Ne.symm h2) _,row_set h.ar hg (Ne.symm h3) _,row_set h.er hg (Ne.symm h4) _,h.al,fun i q1 q2=>prsT_set (h.ap i q1 q2) hg h6 _,h.el,fun y hy=>prsT_set (h.ep y hy) hg h6 _⟩
theorem row_one (W:World)(x y:ByteArray):(W.alloc (.cells #[.string x,.string y] 82)).ownsRow W.heap.size 82 2 (.slice (some ⟨W.heap.size,0,none⟩) 1 1) 1 [.string x,.string y] :=
 ⟨by simp,.inr ⟨W.heap.size,1,#[.string x,.string y],rfl,Nat.le_refl _,heap_alloc_new W _,Nat.le_refl _,by unfold maxLen;omega,by simp,by simp⟩⟩
theorem prsT_one (W:World)(r:Pr)(h:r.1.length≤maxLen∧r.2.length≤maxLen):PrsT (W.alloc (.cells #[.string (bb r.1),.string (bb r.2)] 82)) (.slice (some ⟨W.heap.size,0,none⟩) 1 1) [r] :=
 own_prsT (row_one W _ _) (fun q hq=>by rw [List.mem_singleton] at hq;subst hq;exact h)
theorem stE_n1 {k:Int}{n:Nm}{a:List Pr}(h4:k≠4)(h:¬ (k=2∨(k=3∧n=wEdge))):stE k n a=firC 1 a:=by unfold stE;rw [if_neg h4,if_neg h]
theorem stE_n2 {k:Int}{n:Nm}{a:List Pr}(h4:k≠4)(h:k=2∨(k=3∧n=wEdge)):stE k n a=firC 2 a:=by unfold stE;rw [if_neg h4,if_pos h]
theorem stE_n4 {n:Nm}{a:List Pr}:stE 4 n a=firC 4 [keyL n a]:=by unfold stE;rw [if_pos rfl]
theorem sta_eta {s:Sta}(h:s.e=0):(⟨s.ns,s.ats,s.cs,s.en,0⟩:Sta)=s:=by cases s;simp only at h;subst h;rfl
set_option maxRecDepth 100000 in
set_option maxHeartbeats 4000000 in
theorem blkR_step (l:List St)(ih:∀ y∈l,BlkR y.body):BlkR l:=by
 intro w0 b nm d s x bv p dv ev w hS hO h0 hp hq hs ho hz hga hgp
 obtain ⟨RS,hRS⟩:∃ RS,blkS l p s=RS:=⟨_,rfl⟩
 rw [hRS]
 obtain ⟨po,pc,rfl,_,_,_⟩:=id hp.prs
 obtain ⟨eo,ec,rfl,_,_,_⟩:=id hq.prs
 obtain ⟨vo,vc,rfl,hc1,hm1,-⟩:=id hs
 unfold maxLen at hm1
 have hlm:l.length≤9223372036854775807:=by omega
 have hb1:=al1 w (.cells #[.int .i64 p.cl,.slice po p.dn.length pc,.slice eo p.de.length ec] 77)
 have IH:=Lh ih
 have HS:=Lh hs
 have HO:=Lh hO
 have HS1:=Lh (hS.below hb1)
 have HT1:Hid (TFr w (w.alloc (.cells #[.int .i64 p.cl,.slice po p.dn.length pc,.slice eo p.de.length ec] 77))):=Lh (TFr.below hb1)
 have HB1:Hid (Below w0.heap.size w (w.alloc (.cells #[.int .i64 p.cl,.slice po p.dn.length pc,.slice eo p.de.length ec] 77))):=Lh (hb1.mono hS.base)
 have HP1:=Lh (hp.keep hb1)
 have HQ1:=Lh (hq.keep hb1)
 have HX1:=Lh (blk_new w #[.int .i64 p.cl,.slice po p.dn.length pc,.slice eo p.de.length ec] 77)
 have HRS:Hid (blkS (l.drop 0) p s=RS):=Lh hRS
 have HZ:Hid (Room s (42*cnt (l.drop 0))):=Lh hz
 have HOK:Hid (okB (l.drop 0)):=Lh ho
 have HGA:=Lh hga
 have HGP:=Lh hgp
 have hlow:w0.heap.size≤w.heap.size:=hS.base
 clear hc1 hm1 ih hs hS hO hp hq hb1 hRS hz ho hga hgp h0
 go_enter Tryz.func29,Tryz.ntmps29
 go_wp2_with fail
 generalize w.alloc (.cells #[.int .i64 p.cl,.slice po p.dn.length pc,.slice eo p.de.length ec] 77)=w1 at *
 go_loopw [6] (fun iv wr=>∃ (i:Nat) (si:Sta) (xi:StV) (pi:Pl) (di ei:Value),iv=.int .i64 i∧i≤l.length∧StB wr w0.heap.size b nm d si xi∧TFr w wr∧Below w0.heap.size w wr∧PrsT wr di pi.dn∧PrsT wr ei pi.de∧blk wr w.heap.size 77 #[.int .i64 pi.cl,di,ei]∧blkS (l.drop i) pi si=RS∧Room si (42*cnt (l.drop i))∧okB (l.drop i)∧GaR si∧GaP pi) (fun iv _=>l.length - (intOf iv).toNat)
 case atStart=>exact ⟨0,s,x,p,_,_,rfl,Nat.zero_le _,HS1.out,HT1.out,HB1.out,HP1.out,HQ1.out,HX1.out,HRS.out,HZ.out,HOK.out,HGA.out,HGP.out⟩
 case round =>
  obtain ⟨i,si,xi,pi,di,ei,rfl,hi,hsi,hti,hbi,hpi,hqi,hxi,hrs,hzi,hoi,hgai,hgpi⟩:=hrel
  rename World=>wr
  obtain ⟨do',dc,rfl,_,_,_⟩:=id hpi.prs
  obtain ⟨fo,fc,rfl,_,_,_⟩:=id hqi.prs
  have HSI:=Lh hsi
  have HTI:=Lh hti
  have HBI:=Lh hbi
  have HPI:=Lh hpi
  have HQI:=Lh hqi
  have HXI:=Lh hxi
  have HRSI:=Lh hrs
  have HGAI:=Lh hgai
  have HGPI:=Lh hgpi
  have c7:=hsi.box.read.2.2.2.2
  clear hsi hti hbi hpi hqi hxi hrs hgai hgpi HS1 HT1 HB1 HP1 HQ1 HX1 HRS HZ HOK HGA HGP
  by_cases hlt:i < l.length
  case neg =>
   obtain rfl:i=l.length:=by omega
   have HRE:Hid (RS=si):=Lh (by have h:=HRSI.out;rw [List.drop_length,blkS_nil] at h;exact h.symm)
   clear hoi hzi
   go_wp2
   refine end0 rfl rfl ?_
   exact ⟨rfl,xi,by rw [HRE.out];exact HSI.out,HTI.out,HBI.out⟩
  have hdr:=blkS_drop hlt pi si
  rw [HRSI.out] at hdr
  by_cases he:si.e=0
  case neg =>
   have HRE:Hid (RS=si):=Lh (by rw [hdr,if_pos he])
   have de:decide (si.e=0)=false:=decide_eq_false he
   have dl:decide ((i:Int) < (l.length:Int))=true:=decide_eq_true (by omega)
   clear hoi hzi hdr
   go_wp2
   refine end0 rfl rfl ?_
   exact ⟨rfl,xi,by rw [HRE.out];exact HSI.out,HTI.out,HBI.out⟩
  rw [if_neg (by simpa using he)] at hdr
  have HOI:Hid (Below w0.heap.size w0 wr):=Lh (HO.out.trans HBI.out)
  obtain ⟨A,rfl,hstA⟩:=(HS.out.keep HOI.out).get hlt
  obtain ⟨A',eA,hst0⟩:=HS.out.get hlt
  cases eA
  obtain ⟨ho1,ho2,ho3⟩:=okB_at hoi hlt
  have hct:=cnt_at hlt
  have hih:=IH.out l[i] (List.getElem_mem hlt)
  obtain ⟨y,hy⟩:∃ y,l[i]=y:=⟨_,rfl⟩
  rw [hy] at hstA hst0 hdr ho1 ho2 hct hih
  rw [stAt_eq] at hstA hst0
  obtain ⟨c0,c1,hnm,⟨rv,c2,hrv⟩,⟨av,c3,hav⟩,⟨bv,c4,hbv⟩⟩:=hstA
  obtain ⟨-,-,-,⟨rv0,p2,hrv0⟩,⟨av0,p3,hav0⟩,⟨bv0,p4,hbv0⟩⟩:=hst0
  have e2:rv0=rv:=by have:=cell_later' HOI.out p2;rw [c2] at this;exact (Option.some.inj this).symm
  have e3:av0=av:=by have:=cell_later' HOI.out p3;rw [c3] at this;exact (Option.some.inj this).symm
  have e4:bv0=bv:=by have:=cell_later' HOI.out p4;rw [c4] at this;exact (Option.some.inj this).symm
  subst e2 e3 e4
  obtain ⟨ro,rc,rfl,-,-,-⟩:=id hrv
  obtain ⟨aa,ac,rfl,-,-,-⟩:=id hav
  obtain ⟨bo,bc,rfl,-,-,-⟩:=id hbv
  have HO1:=Lh ho1
  have HO2:=Lh ho2
  have HO3:=Lh ho3
  have HR0:=Lh hrv0
  have HA0:=Lh hav0
  have HB0:=Lh hbv0
  obtain ⟨lv,hsta⟩:=ho1.1
  obtain ⟨hv32,h16,hne4,-⟩:=sta_attrs hsta
  have hr40:=ho1.2
  have hk3:=sta_kind3 ho1
  have hks:=(sta_parts hsta).1
  have HRM:Hid (Room (stmS y pi si) (42*cnt (l.drop (i+1)))):=Lh (room_blk.1 y pi si _ ho1 ho2 (hzi.le (by omega)))
  have hgr:=gar_blk.1 y pi si ho1 ho2
  obtain ⟨k,n,r,a,bd⟩:=y
  simp only [St.kind,St.name,St.refs,St.attrs,St.body] at c0 c1 c2 c3 c4 hdr hct hih HO2 HR0 HA0 HB0 hv32 h16 hne4 hr40 hk3 hks hgr hnm
  have HRI:Hid (Room si (42*(1+cnt bd))):=Lh (hzi.le (by omega))
  have HIH:Hid (BlkR bd):=Lh hih
  have HGR:Hid (stE k n a=0→GaR (stmS (.mk k n r a bd) pi si)):=Lh (fun h=>hgr h HGPI.out HGAI.out)
  have HV:Hid (∀ q∈a,q.2.length≤20000):=Lh (fun q hq=>by have:=(hv32 q hq).1;omega)
  have HNE:Hid (k=4→a≠[]):=Lh hne4
  have HK3:Hid (k=3→n=wNode∨n=wEdge):=Lh hk3
  have HGD:Hid (stE k n a=0→GaP (dflt k n a pi)):=Lh (fun h=>HGPI.out.dflt h hk3)
  have HDR:Hid (RS=if stE k n a≠0 then ⟨si.ns,si.ats,si.cs,si.en,stE k n a⟩ else blkS (l.drop (i+1)) (dflt k n a pi) (stmS (.mk k n r a bd) pi si)):=Lh hdr
  have i0:(0:Int)≤(i:Int):=by omega
  have i1:(i:Int) < (l.length:Int):=by omega
  clear hoi hzi hct hih hdr ho1 ho2 ho3 hrv hav hbv hrv0 hav0 hbv0 p2 p3 p4 hsta hv32 hne4 hk3 hgr hy HRSI
  rcases hks with rfl | rfl | rfl | rfl | rfl
  ·have HSE:Hid (stE 1 n a=firC 1 a):=Lh (stE_n1 (by decide) (fun q=>q.elim (fun e=>absurd e (by decide)) (fun e=>absurd e.1 (by decide))))
   have hal2:=al1 wr (.cells #[.int .i64 1,.string (bb n),.slice ro r.length rc,.slice aa a.length ac,.slice bo bd.length bc] 56)
   have HS2:=Lh (HSI.out.below hal2)
   have HT2:Hid (TFr w (wr.alloc (.cells #[.int .i64 1,.string (bb n),.slice ro r.length rc,.slice aa a.length ac,.slice bo bd.length bc] 56))):=Lh (HTI.out.trans (TFr.below hal2))
   have HB2:Hid (Below w0.heap.size w (wr.alloc (.cells #[.int .i64 1,.string (bb n),.slice ro r.length rc,.slice aa a.length ac,.slice bo bd.length bc] 56))):=Lh (HBI.out.trans (hal2.mono HSI.out.base))
   have HP2:=Lh (HPI.out.keep hal2)
   have HQ2:=Lh (HQI.out.keep hal2)
   have HX2:=Lh (blk_below HXI.out hal2)
   have HY2:=Lh (blk_new wr #[.int .i64 1,.string (bb n),.slice ro r.length rc,.slice aa a.length ac,.slice bo bd.length bc] 56)
   have HO2':=Lh (HO.out.trans HB2.out)
   clear hal2 HSI HTI HBI HPI HQI HXI HOI
   go_wp2_with fail
   obtain ⟨G,hG⟩:∃ G,wr.heap.size=G:=⟨_,rfl⟩
   rw [hG] at HY2
   simp only [hG]
   generalize wr.alloc (.cells #[.int .i64 1,.string (bb n),.slice ro r.length rc,.slice aa a.length ac,.slice bo bd.length bc] 56)=w2 at *
   clear c0 c1 c2 c3 c4 hG c7
   refine (checked_of w0.heap.size b nm d si xi 1 _ a w2 HS2 he (Lh (prsS_old HA0.out HO2'.out)) HV).mono ?_
   rintro e w5 ⟨rfl,x5,hs5,ht5,hb5⟩
   obtain ⟨E1,hE1⟩:∃ E1,firC 1 a=E1:=⟨_,rfl⟩
   rw [hE1] at hs5
   have HSE1:Hid (stE 1 n a=E1):=Lh (by rw [HSE.out];exact hE1)
   have c7:w5.cell? ⟨b,7,none⟩=some (.int .i64 E1):=hs5.box.read.2.2.2.2
   have HS5:=Lh hs5
   have HT5:=Lh (HT2.out.trans ht5)
   have HB5:=Lh (HB2.out.trans hb5)
   have HP5:=Lh (ht5.prs HP2.out)
   have HQ5:=Lh (ht5.prs HQ2.out)
   have HX5:=Lh (ht5.blk HX2.out rfl)
   have HY5:=Lh (ht5.blk HY2.out rfl)
   clear hs5 ht5 hb5 hE1 HSE HS2 HT2 HB2 HP2 HQ2 HX2 HY2 HO2' HV
   by_cases hE:E1=0
   case neg =>
    have bE:(E1 != 0)=true:=by rw [bne_iff_ne];exact hE
    have HRE:Hid (RS=⟨si.ns,si.ats,si.cs,si.en,E1⟩):=Lh (by rw [HDR.out,HSE1.out,if_pos hE])
    clear hE
    go_wp2
    refine ret0 rfl rfl ?_
    exact ⟨rfl,x5,by rw [HRE.out];exact HS5.out,HT5.out,HB5.out⟩
   subst hE
   have HNX:Hid (blkS (l.drop (i+1)) (dflt 1 n a pi) (stmS (.mk 1 n r a bd) pi si)=RS):=Lh (by have h:=HDR.out;rw [HSE1.out,if_neg (by simp)] at h;exact h.symm)
   have HGR5:=Lh (HGR.out HSE1.out)
   have HGD5:=Lh (HGD.out HSE1.out)
   rw [sta_eta he] at HS5
   clear HDR HGR HGD HNE HK3
   have y0:w5.cell? ⟨G,0,none⟩=some (.int .i64 1):=by rw [blk_cell HY5.out];rfl
   have y1:w5.cell? ⟨G,1,none⟩=some (.string (bb n)):=by rw [blk_cell HY5.out];rfl
   have p0:w5.cell? ⟨w.heap.size,0,none⟩=some (.int .i64 pi.cl):=by rw [blk_cell HX5.out];rfl
   have p1:w5.cell? ⟨w.heap.size,1,none⟩=some (.slice do' pi.dn.length dc):=by rw [blk_cell HX5.out];rfl
   have p2:w5.cell? ⟨w.heap.size,2,none⟩=some (.slice fo pi.de.length fc):=by rw [blk_cell HX5.out];rfl
   have hl1:si.ns.length≤100000:=by have:=HRI.out.1;omega
   have hl2:si.ats.length≤100000:=by have:=HRI.out.2.1;omega
   rw [stmS_1,dflt_id (by decide)] at HNX
   rw [stmS_1] at HRM HGR5
   rw [dflt_id (by decide)] at HGD5
   go_wp2_with fail
   refine (mention_of w0.heap.size b nm d si x5 n pi _ _ w5 HS5 HP5 hl1 hl2).mono ?_
   rintro e w6 ⟨rfl,x6,hs6,ht6,hb6⟩
   have y3:w6.cell? ⟨G,3,none⟩=some (.slice aa a.length ac):=by rw [blk_cell (ht6.blk HY5.out rfl)];rfl
   have HS6:=Lh hs6
   have HT6:=Lh (HT5.out.trans ht6)
   have HB6:=Lh (HB5.out.trans hb6)
   have HP6:=Lh (ht6.prs HP5.out)
   have HQ6:=Lh (ht6.prs HQ5.out)
   have HX6:=Lh (ht6.blk HX5.out rfl)
   have HGM:Hid (∀ q∈(mentS si n pi).ats,q.length≤20000):=Lh (fun q hq=>Nat.le_trans ((HGAI.out.ment HGPI.out n).1 q hq).len (by decide))
   have hml:(mentS si n pi).ats.length≤100000:=by have:=(Room.ment (HRI.out.le (show 0+1≤_ by omega)) n pi).2.1;omega
   obtain ⟨mi,hmi⟩:∃ mi,mentI si n=mi:=⟨_,rfl⟩
   rw [hmi] at HNX HRM HGR5
   simp only [hmi]
   have ha20:a.length≤20000:=by omega
   clear hs6 ht6 hb6 hmi y0 y1 p0 p1 p2 c7 HS5 HT5 HB5 HP5 HQ5 HX5 HY5
   go_wp2_with fail
   refine (change_of w0.heap.size b nm d (mentS si n pi) x6 mi _ a w6 HS6 (Lh (HA0.out.keep (HO.out.trans HB6.out))) HGM ha20 hml).mono ?_
   rintro e w7 ⟨rfl,x7,hs7,ht7,hb7⟩
   have HS7:=Lh hs7
   have HT7:=Lh (HT6.out.trans ht7)
   have HB7:=Lh (HB6.out.trans hb7)
   have HP7:=Lh (ht7.prs HP6.out)
   have HQ7:=Lh (ht7.prs HQ6.out)
   have HX7:=Lh (ht7.blk HX6.out rfl)
   clear hs7 ht7 hb7 y3 HS6 HT6 HB6 HP6 HQ6 HX6
   go_wp2
   go_roundw
   case rel=>exact ⟨i+1,_,x7,pi,_,_,by go_num,by omega,HS7.out,HT7.out,HB7.out,HP7.out,HQ7.out,HX7.out,HNX.out,HRM.out,HO3.out,HGR5.out,HGD5.out⟩
   case measure=>simp [intOf];omega
  ·have HSE:Hid (stE 2 n a=firC 2 a):=Lh (stE_n2 (by decide) (Or.inl rfl))
   have hal2:=al1 wr (.cells #[.int .i64 2,.string (bb n),.slice ro r.length rc,.slice aa a.length ac,.slice bo bd.length bc] 56)
   have HS2:=Lh (HSI.out.below hal2)
   have HT2:Hid (TFr w (wr.alloc (.cells #[.int .i64 2,.string (bb n),.slice ro r.length rc,.slice aa a.length ac,.slice bo bd.length bc] 56))):=Lh (HTI.out.trans (TFr.below hal2))
   have HB2:Hid (Below w0.heap.size w (wr.alloc (.cells #[.int .i64 2,.string (bb n),.slice ro r.length rc,.slice aa a.length ac,.slice bo bd.length bc] 56))):=Lh (HBI.out.trans (hal2.mono HSI.out.base))
   have HP2:=Lh (HPI.out.keep hal2)
   have HQ2:=Lh (HQI.out.keep hal2)
   have HX2:=Lh (blk_below HXI.out hal2)
   have HY2:=Lh (blk_new wr #[.int .i64 2,.string (bb n),.slice ro r.length rc,.slice aa a.length ac,.slice bo bd.length bc] 56)
   have HO2':=Lh (HO.out.trans HB2.out)
   clear hal2 HSI HTI HBI HPI HQI HXI HOI
   go_wp2_with fail
   obtain ⟨G,hG⟩:∃ G,wr.heap.size=G:=⟨_,rfl⟩
   rw [hG] at HY2
   simp only [hG]
   generalize wr.alloc (.cells #[.int .i64 2,.string (bb n),.slice ro r.length rc,.slice aa a.length ac,.slice bo bd.length bc] 56)=w2 at *
   clear c0 c1 c2 c3 c4 hG c7
   refine (checked_of w0.heap.size b nm d si xi 2 _ a w2 HS2 he (Lh (prsS_old HA0.out HO2'.out)) HV).mono ?_
   rintro e w5 ⟨rfl,x5,hs5,ht5,hb5⟩
   obtain ⟨E1,hE1⟩:∃ E1,firC 2 a=E1:=⟨_,rfl⟩
   rw [hE1] at hs5
   have HSE1:Hid (stE 2 n a=E1):=Lh (by rw [HSE.out];exact hE1)
   have c7:w5.cell? ⟨b,7,none⟩=some (.int .i64 E1):=hs5.box.read.2.2.2.2
   have HS5:=Lh hs5
   have HT5:=Lh (HT2.out.trans ht5)
   have HB5:=Lh (HB2.out.trans hb5)
   have HP5:=Lh (ht5.prs HP2.out)
   have HQ5:=Lh (ht5.prs HQ2.out)
   have HX5:=Lh (ht5.blk HX2.out rfl)
   have HY5:=Lh (ht5.blk HY2.out rfl)
   clear hs5 ht5 hb5 hE1 HSE HS2 HT2 HB2 HP2 HQ2 HX2 HY2 HO2' HV
   by_cases hE:E1=0
   case neg =>
    have bE:(E1 != 0)=true:=by rw [bne_iff_ne];exact hE
    have HRE:Hid (RS=⟨si.ns,si.ats,si.cs,si.en,E1⟩):=Lh (by rw [HDR.out,HSE1.out,if_pos hE])
    clear hE
    go_wp2
    refine ret0 rfl rfl ?_
    exact ⟨rfl,x5,by rw [HRE.out];exact HS5.out,HT5.out,HB5.out⟩
   subst hE
   have HNX:Hid (blkS (l.drop (i+1)) (dflt 2 n a pi) (stmS (.mk 2 n r a bd) pi si)=RS):=Lh (by have h:=HDR.out;rw [HSE1.out,if_neg (by simp)] at h;exact h.symm)
   have HGR5:=Lh (HGR.out HSE1.out)
   have HGD5:=Lh (HGD.out HSE1.out)
   rw [sta_eta he] at HS5
   clear HDR HGR HGD HNE HK3
   have y0:w5.cell? ⟨G,0,none⟩=some (.int .i64 2):=by rw [blk_cell HY5.out];rfl
   have y1:w5.cell? ⟨G,1,none⟩=some (.string (bb n)):=by rw [blk_cell HY5.out];rfl
   have y2:w5.cell? ⟨G,2,none⟩=some (.slice ro r.length rc):=by rw [blk_cell HY5.out];rfl
   have y4:w5.cell? ⟨G,4,none⟩=some (.slice bo bd.length bc):=by rw [blk_cell HY5.out];rfl
   have y3:w5.cell? ⟨G,3,none⟩=some (.slice aa a.length ac):=by rw [blk_cell HY5.out];rfl
   have p0:w5.cell? ⟨w.heap.size,0,none⟩=some (.int .i64 pi.cl):=by rw [blk_cell HX5.out];rfl
   have p1:w5.cell? ⟨w.heap.size,1,none⟩=some (.slice do' pi.dn.length dc):=by rw [blk_cell HX5.out];rfl
   have p2:w5.cell? ⟨w.heap.size,2,none⟩=some (.slice fo pi.de.length fc):=by rw [blk_cell HX5.out];rfl
   have hl1:si.ns.length+r.length≤100000:=by have:=HRI.out.1;omega
   have hl2:si.ats.length+r.length≤100000:=by have:=HRI.out.2.1;omega
   have hl3:si.en.length+r.length≤100000:=by have:=HRI.out.2.2.1;omega
   have ha20:a.length≤20000:=by omega
   have hde:pi.de.length≤20000:=Nat.le_trans HGPI.out.2.len (by decide)
   have hOO:=HO.out.trans HB5.out
   have HRS5:=Lh (prsS_old HR0.out hOO)
   have HAS5:=Lh (prsS_old HA0.out hOO)
   rw [stmS_2,dflt_id (by decide)] at HNX
   rw [stmS_2] at HRM HGR5
   rw [dflt_id (by decide)] at HGD5
   clear hOO
   go_wp2_with fail
   refine (edges_of w0.heap.size b nm d si x5 2 (bb n) r a ro aa bo rc ac bd.length bc pi do' fo dc fc w5 HS5 HRS5 HAS5 HP5 HQ5 hl1 hl2 hl3 ha20 hde).mono ?_
   rintro e w7 ⟨rfl,x7,hs7,ht7,hb7⟩
   have HS7:=Lh hs7
   have HT7:=Lh (HT5.out.trans ht7)
   have HB7:=Lh (HB5.out.trans hb7)
   have HP7:=Lh (ht7.prs HP5.out)
   have HQ7:=Lh (ht7.prs HQ5.out)
   have HX7:=Lh (ht7.blk HX5.out rfl)
   clear hs7 ht7 hb7 y0 y1 y2 y3 y4 p0 p1 p2 c7 HS5 HT5 HB5 HP5 HQ5 HX5 HY5
   go_wp2
   go_roundw
   case rel=>exact ⟨i+1,_,x7,pi,_,_,by go_num,by omega,HS7.out,HT7.out,HB7.out,HP7.out,HQ7.out,HX7.out,HNX.out,HRM.out,HO3.out,HGR5.out,HGD5.out⟩
   case measure=>simp [intOf];omega
  ·rcases HK3.out rfl with hn3 | hn3
   ·obtain ⟨X,hX⟩:∃ X,bb n=X:=⟨_,rfl⟩
    have bE3:(X.toList == ([101,100,103,101]:List UInt8))=false:=str_no (by rw [← hX,bb_back,hn3];decide)
    have bN3:(X.toList == ([110,111,100,101]:List UInt8))=true:=str_yes (by rw [← hX,bb_back,hn3];rfl)
    have HN3:=Lh hn3
    rw [hX] at c1
    clear hn3 hX
    have HSE:Hid (stE 3 n a=firC 1 a):=Lh (stE_n1 (by decide) (fun q=>q.elim (fun e=>absurd e (by decide)) (fun e=>absurd (HN3.out.symm.trans e.2) (by decide))))
    have hal2:=al1 wr (.cells #[.int .i64 3,.string X,.slice ro r.length rc,.slice aa a.length ac,.slice bo bd.length bc] 56)
    have HS2:=Lh (HSI.out.below hal2)
    have HT2:Hid (TFr w (wr.alloc (.cells #[.int .i64 3,.string X,.slice ro r.length rc,.slice aa a.length ac,.slice bo bd.length bc] 56))):=Lh (HTI.out.trans (TFr.below hal2))
    have HB2:Hid (Below w0.heap.size w (wr.alloc (.cells #[.int .i64 3,.string X,.slice ro r.length rc,.slice aa a.length ac,.slice bo bd.length bc] 56))):=Lh (HBI.out.trans (hal2.mono HSI.out.base))
    have HP2:=Lh (HPI.out.keep hal2)
    have HQ2:=Lh (HQI.out.keep hal2)
    have HX2:=Lh (blk_below HXI.out hal2)
    have HY2:=Lh (blk_new wr #[.int .i64 3,.string X,.slice ro r.length rc,.slice aa a.length ac,.slice bo bd.length bc] 56)
    have HO2':=Lh (HO.out.trans HB2.out)
    clear hal2 HSI HTI HBI HPI HQI HXI HOI
    go_wp2_with fail
    obtain ⟨G,hG⟩:∃ G,wr.heap.size=G:=⟨_,rfl⟩
    rw [hG] at HY2
    simp only [hG]
    generalize wr.alloc (.cells #[.int .i64 3,.string X,.slice ro r.length rc,.slice aa a.length ac,.slice bo bd.length bc] 56)=w2 at *
    clear c0 c1 c2 c3 c4 hG c7
    refine (checked_of w0.heap.size b nm d si xi 1 _ a w2 HS2 he (Lh (prsS_old HA0.out HO2'.out)) HV).mono ?_
    rintro e w5 ⟨rfl,x5,hs5,ht5,hb5⟩
    obtain ⟨E1,hE1⟩:∃ E1,firC 1 a=E1:=⟨_,rfl⟩
    rw [hE1] at hs5
    have HSE1:Hid (stE 3 n a=E1):=Lh (by rw [HSE.out];exact hE1)
    have c7:w5.cell? ⟨b,7,none⟩=some (.int .i64 E1):=hs5.box.read.2.2.2.2
    have HS5:=Lh hs5
    have HT5:=Lh (HT2.out.trans ht5)
    have HB5:=Lh (HB2.out.trans hb5)
    have HP5:=Lh (ht5.prs HP2.out)
    have HQ5:=Lh (ht5.prs HQ2.out)
    have HX5:=Lh (ht5.blk HX2.out rfl)
    have HY5:=Lh (ht5.blk HY2.out rfl)
    clear hs5 ht5 hb5 hE1 HSE HS2 HT2 HB2 HP2 HQ2 HX2 HY2 HO2' HV
    by_cases hE:E1=0
    case neg =>
     have bE:(E1 != 0)=true:=by rw [bne_iff_ne];exact hE
     have HRE:Hid (RS=⟨si.ns,si.ats,si.cs,si.en,E1⟩):=Lh (by rw [HDR.out,HSE1.out,if_pos hE])
     clear hE
     go_wp2
     refine ret0 rfl rfl ?_
     exact ⟨rfl,x5,by rw [HRE.out];exact HS5.out,HT5.out,HB5.out⟩
    subst hE
    have HNX:Hid (blkS (l.drop (i+1)) (dflt 3 n a pi) (stmS (.mk 3 n r a bd) pi si)=RS):=Lh (by have h:=HDR.out;rw [HSE1.out,if_neg (by simp)] at h;exact h.symm)
    have HGR5:=Lh (HGR.out HSE1.out)
    have HGD5:=Lh (HGD.out HSE1.out)
    rw [sta_eta he] at HS5
    clear HDR HGR HGD HNE HK3
    have y0:w5.cell? ⟨G,0,none⟩=some (.int .i64 3):=by rw [blk_cell HY5.out];rfl
    have y1:w5.cell? ⟨G,1,none⟩=some (.string X):=by rw [blk_cell HY5.out];rfl
    have y3:w5.cell? ⟨G,3,none⟩=some (.slice aa a.length ac):=by rw [blk_cell HY5.out];rfl
    have p1:w5.cell? ⟨w.heap.size,1,none⟩=some (.slice do' pi.dn.length dc):=by rw [blk_cell HX5.out];rfl
    have hdf:dflt 3 n a pi=(⟨pi.cl,mergeL pi.dn a,pi.de⟩:Pl):=by unfold dflt;rw [if_pos rfl,if_pos HN3.out]
    rw [hdf] at HNX HGD5
    rw [stmS_3] at HNX HRM HGR5
    have hlx:pi.dn.length≤20000:=Nat.le_trans HGPI.out.1.len (by decide)
    have ha20:a.length≤20000:=by omega
    have HA5:=Lh (HA0.out.keep (HO.out.trans HB5.out))
    clear hdf
    go_wp2_with fail
    refine (rmergeT_of _ _ pi.dn a w5 (Lh HP5.out.prs) HA5 hlx ha20 (Lh (prs_bnd HP5.out.prs)) (Lh (prs_bnd HA0.out))).mono ?_
    rintro e w6 ⟨v6,rfl,hp6,hb6⟩
    obtain ⟨mo,mc,rfl,_,_,_⟩:=id hp6.prs
    have hx6:=blk_below HX5.out hb6
    have z1:w6.cell? ⟨w.heap.size,1,none⟩=some (.slice do' pi.dn.length dc):=by rw [blk_cell hx6];rfl
    have zf:=blk_open hx6 1
    have HX7:Hid (blk (w6.setCell ⟨w.heap.size,1,none⟩ (.slice mo (mergeL pi.dn a).length mc)) w.heap.size 77 #[.int .i64 pi.cl,.slice mo (mergeL pi.dn a).length mc,.slice fo pi.de.length fc]):=Lh (blk_set hx6 _)
    have HS7:=Lh ((HS5.out.below hb6).far (o:=1) hx6 (by decide) (by decide) (by decide) (by decide) (by decide) (by decide) (.slice mo (mergeL pi.dn a).length mc))
    have HT7:=Lh ((HT5.out.trans (TFr.below hb6)).setNew (o:=1) (Nat.le_refl _) (.slice mo (mergeL pi.dn a).length mc))
    have HB7:Hid (Below w0.heap.size w (w6.setCell ⟨w.heap.size,1,none⟩ (.slice mo (mergeL pi.dn a).length mc))):=Lh ((HB5.out.trans (hb6.mono HS5.out.base)).setCell hlow _)
    have HM7:=Lh (prsT_set (o:=1) hp6 hx6 (by decide) (.slice mo (mergeL pi.dn a).length mc))
    have HK7:=Lh (prsT_set (o:=1) (HQ5.out.keep hb6) hx6 (by decide) (.slice mo (mergeL pi.dn a).length mc))
    clear hp6 hb6 hx6 y0 y1 y3 p1 c7 HS5 HT5 HB5 HP5 HQ5 HX5 HY5
    go_wp2
    go_roundw
    case rel=>exact ⟨i+1,si,x5,(⟨pi.cl,mergeL pi.dn a,pi.de⟩:Pl),_,_,by go_num,by omega,HS7.out,HT7.out,HB7.out,HM7.out,HK7.out,HX7.out,HNX.out,HRM.out,HO3.out,HGR5.out,HGD5.out⟩
    case measure=>simp [intOf];omega
   ·obtain ⟨X,hX⟩:∃ X,bb n=X:=⟨_,rfl⟩
    have bE3:(X.toList == ([101,100,103,101]:List UInt8))=true:=str_yes (by rw [← hX,bb_back,hn3];rfl)
    have bN3:(X.toList == ([110,111,100,101]:List UInt8))=false:=str_no (by rw [← hX,bb_back,hn3];decide)
    have HN3:=Lh hn3
    rw [hX] at c1
    clear hn3 hX
    have HSE:Hid (stE 3 n a=firC 2 a):=Lh (stE_n2 (by decide) (Or.inr ⟨rfl,HN3.out⟩))
    have hal2:=al1 wr (.cells #[.int .i64 3,.string X,.slice ro r.length rc,.slice aa a.length ac,.slice bo bd.length bc] 56)
    have HS2:=Lh (HSI.out.below hal2)
    have HT2:Hid (TFr w (wr.alloc (.cells #[.int .i64 3,.string X,.slice ro r.length rc,.slice aa a.length ac,.slice bo bd.length bc] 56))):=Lh (HTI.out.trans (TFr.below hal2))
    have HB2:Hid (Below w0.heap.size w (wr.alloc (.cells #[.int .i64 3,.string X,.slice ro r.length rc,.slice aa a.length ac,.slice bo bd.length bc] 56))):=Lh (HBI.out.trans (hal2.mono HSI.out.base))
    have HP2:=Lh (HPI.out.keep hal2)
    have HQ2:=Lh (HQI.out.keep hal2)
    have HX2:=Lh (blk_below HXI.out hal2)
    have HY2:=Lh (blk_new wr #[.int .i64 3,.string X,.slice ro r.length rc,.slice aa a.length ac,.slice bo bd.length bc] 56)
    have HO2':=Lh (HO.out.trans HB2.out)
    clear hal2 HSI HTI HBI HPI HQI HXI HOI
    go_wp2_with fail
    obtain ⟨G,hG⟩:∃ G,wr.heap.size=G:=⟨_,rfl⟩
    rw [hG] at HY2
    simp only [hG]
    generalize wr.alloc (.cells #[.int .i64 3,.string X,.slice ro r.length rc,.slice aa a.length ac,.slice bo bd.length bc] 56)=w2 at *
    clear c0 c1 c2 c3 c4 hG c7
    refine (checked_of w0.heap.size b nm d si xi 2 _ a w2 HS2 he (Lh (prsS_old HA0.out HO2'.out)) HV).mono ?_
    rintro e w5 ⟨rfl,x5,hs5,ht5,hb5⟩
    obtain ⟨E1,hE1⟩:∃ E1,firC 2 a=E1:=⟨_,rfl⟩
    rw [hE1] at hs5
    have HSE1:Hid (stE 3 n a=E1):=Lh (by rw [HSE.out];exact hE1)
    have c7:w5.cell? ⟨b,7,none⟩=some (.int .i64 E1):=hs5.box.read.2.2.2.2
    have HS5:=Lh hs5
    have HT5:=Lh (HT2.out.trans ht5)
    have HB5:=Lh (HB2.out.trans hb5)
    have HP5:=Lh (ht5.prs HP2.out)
    have HQ5:=Lh (ht5.prs HQ2.out)
    have HX5:=Lh (ht5.blk HX2.out rfl)
    have HY5:=Lh (ht5.blk HY2.out rfl)
    clear hs5 ht5 hb5 hE1 HSE HS2 HT2 HB2 HP2 HQ2 HX2 HY2 HO2' HV
    by_cases hE:E1=0
    case neg =>
     have bE:(E1 != 0)=true:=by rw [bne_iff_ne];exact hE
     have HRE:Hid (RS=⟨si.ns,si.ats,si.cs,si.en,E1⟩):=Lh (by rw [HDR.out,HSE1.out,if_pos hE])
     clear hE
     go_wp2
     refine ret0 rfl rfl ?_
     exact ⟨rfl,x5,by rw [HRE.out];exact HS5.out,HT5.out,HB5.out⟩
    subst hE
    have HNX:Hid (blkS (l.drop (i+1)) (dflt 3 n a pi) (stmS (.mk 3 n r a bd) pi si)=RS):=Lh (by have h:=HDR.out;rw [HSE1.out,if_neg (by simp)] at h;exact h.symm)
    have HGR5:=Lh (HGR.out HSE1.out)
    have HGD5:=Lh (HGD.out HSE1.out)
    rw [sta_eta he] at HS5
    clear HDR HGR HGD HNE HK3
    have y0:w5.cell? ⟨G,0,none⟩=some (.int .i64 3):=by rw [blk_cell HY5.out];rfl
    have y1:w5.cell? ⟨G,1,none⟩=some (.string X):=by rw [blk_cell HY5.out];rfl
    have y3:w5.cell? ⟨G,3,none⟩=some (.slice aa a.length ac):=by rw [blk_cell HY5.out];rfl
    have p2:w5.cell? ⟨w.heap.size,2,none⟩=some (.slice fo pi.de.length fc):=by rw [blk_cell HX5.out];rfl
    have hdf:dflt 3 n a pi=(⟨pi.cl,pi.dn,mergeL pi.de a⟩:Pl):=by unfold dflt;rw [if_pos rfl,if_neg (by rw [HN3.out];decide)]
    rw [hdf] at HNX HGD5
    rw [stmS_3] at HNX HRM HGR5
    have hlx:pi.de.length≤20000:=Nat.le_trans HGPI.out.2.len (by decide)
    have ha20:a.length≤20000:=by omega
    have HA5:=Lh (HA0.out.keep (HO.out.trans HB5.out))
    clear hdf
    go_wp2_with fail
    refine (rmergeT_of _ _ pi.de a w5 (Lh HQ5.out.prs) HA5 hlx ha20 (Lh (prs_bnd HQ5.out.prs)) (Lh (prs_bnd HA0.out))).mono ?_
    rintro e w6 ⟨v6,rfl,hp6,hb6⟩
    obtain ⟨mo,mc,rfl,_,_,_⟩:=id hp6.prs
    have hx6:=blk_below HX5.out hb6
    have z1:w6.cell? ⟨w.heap.size,2,none⟩=some (.slice fo pi.de.length fc):=by rw [blk_cell hx6];rfl
    have zf:=blk_open hx6 2
    have HX7:Hid (blk (w6.setCell ⟨w.heap.size,2,none⟩ (.slice mo (mergeL pi.de a).length mc)) w.heap.size 77 #[.int .i64 pi.cl,.slice do' pi.dn.length dc,.slice mo (mergeL pi.de a).length mc]):=Lh (blk_set hx6 _)
    have HS7:=Lh ((HS5.out.below hb6).far (o:=2) hx6 (by decide) (by decide) (by decide) (by decide) (by decide) (by decide) (.slice mo (mergeL pi.de a).length mc))
    have HT7:=Lh ((HT5.out.trans (TFr.below hb6)).setNew (o:=2) (Nat.le_refl _) (.slice mo (mergeL pi.de a).length mc))
    have HB7:Hid (Below w0.heap.size w (w6.setCell ⟨w.heap.size,2,none⟩ (.slice mo (mergeL pi.de a).length mc))):=Lh ((HB5.out.trans (hb6.mono HS5.out.base)).setCell hlow _)
    have HM7:=Lh (prsT_set (o:=2) hp6 hx6 (by decide) (.slice mo (mergeL pi.de a).length mc))
    have HK7:=Lh (prsT_set (o:=2) (HP5.out.keep hb6) hx6 (by decide) (.slice mo (mergeL pi.de a).length mc))
    clear hp6 hb6 hx6 y0 y1 y3 p2 c7 HS5 HT5 HB5 HP5 HQ5 HX5 HY5
    go_wp2
    go_roundw
    case rel=>exact ⟨i+1,si,x5,(⟨pi.cl,pi.dn,mergeL pi.de a⟩:Pl),_,_,by go_num,by omega,HS7.out,HT7.out,HB7.out,HK7.out,HM7.out,HX7.out,HNX.out,HRM.out,HO3.out,HGR5.out,HGD5.out⟩
    case measure=>simp [intOf];omega
  ·have HSE:Hid (stE 4 n a=firC 4 [keyL n a]):=Lh stE_n4
   have hal2:=al1 wr (.cells #[.int .i64 4,.string (bb n),.slice ro r.length rc,.slice aa a.length ac,.slice bo bd.length bc] 56)
   have HS2:=Lh (HSI.out.below hal2)
   have HT2:Hid (TFr w (wr.alloc (.cells #[.int .i64 4,.string (bb n),.slice ro r.length rc,.slice aa a.length ac,.slice bo bd.length bc] 56))):=Lh (HTI.out.trans (TFr.below hal2))
   have HB2:Hid (Below w0.heap.size w (wr.alloc (.cells #[.int .i64 4,.string (bb n),.slice ro r.length rc,.slice aa a.length ac,.slice bo bd.length bc] 56))):=Lh (HBI.out.trans (hal2.mono HSI.out.base))
   have HP2:=Lh (HPI.out.keep hal2)
   have HQ2:=Lh (HQI.out.keep hal2)
   have HX2:=Lh (blk_below HXI.out hal2)
   have HY2:=Lh (blk_new wr #[.int .i64 4,.string (bb n),.slice ro r.length rc,.slice aa a.length ac,.slice bo bd.length bc] 56)
   have HO2':=Lh (HO.out.trans HB2.out)
   clear hal2 HSI HTI HBI HPI HQI HXI HOI
   go_wp2_with fail
   obtain ⟨G,hG⟩:∃ G,wr.heap.size=G:=⟨_,rfl⟩
   rw [hG] at HY2
   simp only [hG]
   generalize wr.alloc (.cells #[.int .i64 4,.string (bb n),.slice ro r.length rc,.slice aa a.length ac,.slice bo bd.length bc] 56)=w2 at *
   clear c0 c1 c2 c3 c4 hG c7
   obtain ⟨a0,at',rfl⟩:∃ a0 at',a=a0 :: at':=by cases a with | nil=>exact absurd rfl (HNE.out (by simp)) | cons q t=>exact ⟨q,t,rfl⟩
   refine (keyed_of 4 (bb n) ro bo r.length rc bd.length bc _ a0 at' w2 (Lh (HA0.out.keep HO2'.out))).mono ?_
   rintro e w3 ⟨rfl,hb3⟩
   have hbnd:=prs_bnd HA0.out a0 (List.mem_cons_self ..)
   have hpt:=prsT_one w3 (n,a0.2) ⟨hnm,hbnd.2⟩
   have hq3:=hb3.trans (show Below w2.heap.size w3 (w3.alloc (.cells #[.string (bb n),.string (bb a0.2)] 82)) from (al1 w3 _).mono hb3.size)
   have HPT:=Lh hpt
   have HS2q:=Lh (HS2.out.below hq3)
   have HT2q:Hid (TFr w (w3.alloc (.cells #[.string (bb n),.string (bb a0.2)] 82))):=Lh (HT2.out.trans (TFr.below hq3))
   have HB2q:Hid (Below w0.heap.size w (w3.alloc (.cells #[.string (bb n),.string (bb a0.2)] 82))):=Lh (HB2.out.trans (hq3.mono HS2.out.base))
   have HP2q:=Lh (HP2.out.keep hq3)
   have HQ2q:=Lh (HQ2.out.keep hq3)
   have HX2q:=Lh (blk_below HX2.out hq3)
   have HY2q:=Lh (blk_below HY2.out hq3)
   have HV4:Hid (∀ q∈[((n,a0.2):Pr)],q.2.length≤20000):=Lh (fun q hq=>by rw [List.mem_singleton] at hq;subst hq;exact HV.out a0 (List.mem_cons_self ..))
   clear hbnd hpt hq3 hb3 HS2 HT2 HB2 HP2 HQ2 HX2 HY2
   go_wp2_with fail
   generalize w3.alloc (.cells #[.string (bb n),.string (bb a0.2)] 82)=w4 at *
   refine (checked_of w0.heap.size b nm d si xi 4 _ [(n,a0.2)] w4 HS2q he (Lh (prsS_typ HPT.out)) HV4).mono ?_
   rintro e w5 ⟨rfl,x5,hs5,ht5,hb5⟩
   obtain ⟨E1,hE1⟩:∃ E1,firC 4 [(n,a0.2)]=E1:=⟨_,rfl⟩
   rw [hE1] at hs5
   have HSE1:Hid (stE 4 n (a0 :: at')=E1):=Lh (by rw [HSE.out];exact hE1)
   have c7:w5.cell? ⟨b,7,none⟩=some (.int .i64 E1):=hs5.box.read.2.2.2.2
   have HS5:=Lh hs5
   have HT5:=Lh (HT2q.out.trans ht5)
   have HB5:=Lh (HB2q.out.trans hb5)
   have HP5:=Lh (ht5.prs HP2q.out)
   have HQ5:=Lh (ht5.prs HQ2q.out)
   have HX5:=Lh (ht5.blk HX2q.out rfl)
   have HY5:=Lh (ht5.blk HY2q.out rfl)
   clear hs5 ht5 hb5 hE1 HSE HS2q HT2q HB2q HP2q HQ2q HX2q HY2q HO2' HV
   by_cases hE:E1=0
   case neg =>
    have bE:(E1 != 0)=true:=by rw [bne_iff_ne];exact hE
    have HRE:Hid (RS=⟨si.ns,si.ats,si.cs,si.en,E1⟩):=Lh (by rw [HDR.out,HSE1.out,if_pos hE])
    clear hE
    go_wp2
    refine ret0 rfl rfl ?_
    exact ⟨rfl,x5,by rw [HRE.out];exact HS5.out,HT5.out,HB5.out⟩
   subst hE
   have HNX:Hid (blkS (l.drop (i+1)) (dflt 4 n (a0 :: at') pi) (stmS (.mk 4 n r (a0 :: at') bd) pi si)=RS):=Lh (by have h:=HDR.out;rw [HSE1.out,if_neg (by simp)] at h;exact h.symm)
   have HGR5:=Lh (HGR.out HSE1.out)
   have HGD5:=Lh (HGD.out HSE1.out)
   rw [sta_eta he] at HS5
   clear HDR HGR HGD HNE HK3
   have y0:w5.cell? ⟨G,0,none⟩=some (.int .i64 4):=by rw [blk_cell HY5.out];rfl
   rw [stmS_4,dflt_id (by decide)] at HNX
   rw [stmS_4] at HRM HGR5
   rw [dflt_id (by decide)] at HGD5
   go_wp2
   go_roundw
   case rel=>exact ⟨i+1,si,x5,pi,_,_,by go_num,by omega,HS5.out,HT5.out,HB5.out,HP5.out,HQ5.out,HX5.out,HNX.out,HRM.out,HO3.out,HGR5.out,HGD5.out⟩
   case measure=>simp [intOf];omega
  ·have HSE:Hid (stE 5 n a=firC 1 a):=Lh (stE_n1 (by decide) (fun q=>q.elim (fun e=>absurd e (by decide)) (fun e=>absurd e.1 (by decide))))
   have hal2:=al1 wr (.cells #[.int .i64 5,.string (bb n),.slice ro r.length rc,.slice aa a.length ac,.slice bo bd.length bc] 56)
   have HS2:=Lh (HSI.out.below hal2)
   have HT2:Hid (TFr w (wr.alloc (.cells #[.int .i64 5,.string (bb n),.slice ro r.length rc,.slice aa a.length ac,.slice bo bd.length bc] 56))):=Lh (HTI.out.trans (TFr.below hal2))
   have HB2:Hid (Below w0.heap.size w (wr.alloc (.cells #[.int .i64 5,.string (bb n),.slice ro r.length rc,.slice aa a.length ac,.slice bo bd.length bc] 56))):=Lh (HBI.out.trans (hal2.mono HSI.out.base))
   have HP2:=Lh (HPI.out.keep hal2)
   have HQ2:=Lh (HQI.out.keep hal2)
   have HX2:=Lh (blk_below HXI.out hal2)
   have HY2:=Lh (blk_new wr #[.int .i64 5,.string (bb n),.slice ro r.length rc,.slice aa a.length ac,.slice bo bd.length bc] 56)
   have HO2':=Lh (HO.out.trans HB2.out)
   clear hal2 HSI HTI HBI HPI HQI HXI HOI
   go_wp2_with fail
   obtain ⟨G,hG⟩:∃ G,wr.heap.size=G:=⟨_,rfl⟩
   rw [hG] at HY2
   simp only [hG]
   generalize wr.alloc (.cells #[.int .i64 5,.string (bb n),.slice ro r.length rc,.slice aa a.length ac,.slice bo bd.length bc] 56)=w2 at *
   clear c0 c1 c2 c3 c4 hG c7
   refine (checked_of w0.heap.size b nm d si xi 1 _ a w2 HS2 he (Lh (prsS_old HA0.out HO2'.out)) HV).mono ?_
   rintro e w5 ⟨rfl,x5,hs5,ht5,hb5⟩
   obtain ⟨E1,hE1⟩:∃ E1,firC 1 a=E1:=⟨_,rfl⟩
   rw [hE1] at hs5
   have HSE1:Hid (stE 5 n a=E1):=Lh (by rw [HSE.out];exact hE1)
   have c7:w5.cell? ⟨b,7,none⟩=some (.int .i64 E1):=hs5.box.read.2.2.2.2
   have HS5:=Lh hs5
   have HT5:=Lh (HT2.out.trans ht5)
   have HB5:=Lh (HB2.out.trans hb5)
   have HP5:=Lh (ht5.prs HP2.out)
   have HQ5:=Lh (ht5.prs HQ2.out)
   have HX5:=Lh (ht5.blk HX2.out rfl)
   have HY5:=Lh (ht5.blk HY2.out rfl)
   clear hs5 ht5 hb5 hE1 HSE HS2 HT2 HB2 HP2 HQ2 HX2 HY2 HO2' HV
   by_cases hE:E1=0
   case neg =>
    have bE:(E1 != 0)=true:=by rw [bne_iff_ne];exact hE
    have HRE:Hid (RS=⟨si.ns,si.ats,si.cs,si.en,E1⟩):=Lh (by rw [HDR.out,HSE1.out,if_pos hE])
    clear hE
    go_wp2
    refine ret0 rfl rfl ?_
    exact ⟨rfl,x5,by rw [HRE.out];exact HS5.out,HT5.out,HB5.out⟩
   subst hE
   have HNX:Hid (blkS (l.drop (i+1)) (dflt 5 n a pi) (stmS (.mk 5 n r a bd) pi si)=RS):=Lh (by have h:=HDR.out;rw [HSE1.out,if_neg (by simp)] at h;exact h.symm)
   have HGR5:=Lh (HGR.out HSE1.out)
   have HGD5:=Lh (HGD.out HSE1.out)
   rw [sta_eta he] at HS5
   clear HDR HGR HGD HNE HK3
   have y0:w5.cell? ⟨G,0,none⟩=some (.int .i64 5):=by rw [blk_cell HY5.out];rfl
   have y1:w5.cell? ⟨G,1,none⟩=some (.string (bb n)):=by rw [blk_cell HY5.out];rfl
   have y2:w5.cell? ⟨G,2,none⟩=some (.slice ro r.length rc):=by rw [blk_cell HY5.out];rfl
   have y4:w5.cell? ⟨G,4,none⟩=some (.slice bo bd.length bc):=by rw [blk_cell HY5.out];rfl
   have y3:w5.cell? ⟨G,3,none⟩=some (.slice aa a.length ac):=by rw [blk_cell HY5.out];rfl
   have p0:w5.cell? ⟨w.heap.size,0,none⟩=some (.int .i64 pi.cl):=by rw [blk_cell HX5.out];rfl
   have p1:w5.cell? ⟨w.heap.size,1,none⟩=some (.slice do' pi.dn.length dc):=by rw [blk_cell HX5.out];rfl
   have p2:w5.cell? ⟨w.heap.size,2,none⟩=some (.slice fo pi.de.length fc):=by rw [blk_cell HX5.out];rfl
   have HE5:Hid ((if clusd si.cs n=true∨0≤nodeI si.ns n 0 then ⟨si.ns,si.ats,si.cs,si.en,6⟩ else blkS bd ⟨si.cs.length,pi.dn,pi.de⟩ ⟨si.ns,si.ats,si.cs ++ [(n,pi.cl)],si.en,si.e⟩)=stmS (.mk 5 n r a bd) pi si):=Lh (by rw [stmS_5])
   obtain ⟨S7,hS7⟩:∃ S7,stmS (.mk 5 n r a bd) pi si=S7:=⟨_,rfl⟩
   rw [hS7] at HE5 HNX HRM HGR5
   rw [dflt_id (by decide)] at HNX HGD5
   clear hS7
   go_wp2_with fail
   refine (cluster_of w0 b nm d si x5 5 n ro aa r.length rc a.length ac _ bd pi _ _ S7 w5 HIH HS5 (Lh (HO.out.trans HB5.out)) (Lh he) HP5 HQ5 HB0 HO2 HRI HGAI HGPI HE5).mono ?_
   rintro e w7 ⟨rfl,x7,hs7,ht7,hb7⟩
   have HS7:=Lh hs7
   have HT7:=Lh (HT5.out.trans ht7)
   have HB7:=Lh (HB5.out.trans hb7)
   have HP7:=Lh (ht7.prs HP5.out)
   have HQ7:=Lh (ht7.prs HQ5.out)
   have HX7:=Lh (ht7.blk HX5.out rfl)
   clear hs7 ht7 hb7 y0 y1 y2 y3 y4 p0 p1 p2 c7 HS5 HT5 HB5 HP5 HQ5 HX5 HY5
   go_wp2
   go_roundw
   case rel=>exact ⟨i+1,_,x7,pi,_,_,by go_num,by omega,HS7.out,HT7.out,HB7.out,HP7.out,HQ7.out,HX7.out,HNX.out,HRM.out,HO3.out,HGR5.out,HGD5.out⟩
   case measure=>simp [intOf];omega
theorem blkR_ok (l:List St):BlkR l:=lst_ind blkR_step l
theorem blk_far {W:World}{g k o:Nat}{t:TypeId}{arr:Array Value}(h:blk W g t arr)(hne:g≠k)(u:Value):blk (W.setCell ⟨k,o,none⟩ u) g t arr:=by
 unfold att.blk
 rw [Below.heap_setCell _ _ _ _ hne];exact h
theorem nbx_set {W:World}{g:Nat}{a0 a1 a2 a3 a4 a5:Value}(h:blk W g 45 #[a0,a1,a2,a3,a4,a5])(c0 c1 c2 c3 c4 c5:Value):blk ((((((W.setCell ⟨g,0,none⟩ c0).setCell ⟨g,1,none⟩ c1).setCell ⟨g,2,none⟩ c2).setCell ⟨g,3,none⟩ c3).setCell ⟨g,4,none⟩ c4).setCell ⟨g,5,none⟩ c5) g 45 #[c0,c1,c2,c3,c4,c5] :=
 blk_set (blk_set (blk_set (blk_set (blk_set (blk_set h c0) c1) c2) c3) c4) c5
theorem ncl {W:World}{g:Nat}{t:TypeId}{a0 a1 a2 a3 a4 a5:Value}(h:att.blk W g t #[a0,a1,a2,a3,a4,a5]):W.cell? ⟨g,0,none⟩=some a0∧W.cell? ⟨g,1,none⟩=some a1∧W.cell? ⟨g,2,none⟩=some a2∧W.cell? ⟨g,3,none⟩=some a3∧W.cell? ⟨g,4,none⟩=some a4∧W.cell? ⟨g,5,none⟩=some a5 :=
 ⟨blk_cell h,blk_cell h,blk_cell h,blk_cell h,blk_cell h,blk_cell h⟩
theorem below_set6 {B:Nat}{a W:World}{g:Nat}(h:Below B a W)(hg:B≤g)(c0 c1 c2 c3 c4 c5:Value):Below B a ((((((W.setCell ⟨g,0,none⟩ c0).setCell ⟨g,1,none⟩ c1).setCell ⟨g,2,none⟩ c2).setCell ⟨g,3,none⟩ c3).setCell ⟨g,4,none⟩ c4).setCell ⟨g,5,none⟩ c5):=(((((h.setCell hg _).setCell hg _).setCell hg _).setCell hg _).setCell hg _).setCell hg _
theorem posT_set6 {v:Value}{l:List att.Pt}{W:World}{g:Nat}{arr:Array Value}(h:PosT W v l)(hg:blk W g 45 arr)(c0 c1 c2 c3 c4 c5:Value):PosT ((((((W.setCell ⟨g,0,none⟩ c0).setCell ⟨g,1,none⟩ c1).setCell ⟨g,2,none⟩ c2).setCell ⟨g,3,none⟩ c3).setCell ⟨g,4,none⟩ c4).setCell ⟨g,5,none⟩ c5) v l :=
 posT_set (posT_set (posT_set (posT_set (posT_set (posT_set h hg (by decide) c0) (blk_set hg c0) (by decide) c1) (blk_set (blk_set hg c0) c1) (by decide) c2) (blk_set (blk_set (blk_set hg c0) c1) c2) (by decide) c3) (blk_set (blk_set (blk_set (blk_set hg c0) c1) c2) c3) (by decide) c4) (blk_set (blk_set (blk_set (blk_set (blk_set hg c0) c1) c2) c3) c4) (by decide) c5
def FinOut (y:gra.Nd)(w:World)(e:Ending)(w':World):Prop:=∃ pv,e=.returned (.agg #[.string (bb y.nm),.string (bb y.lb),.int .i64 y.w,.int .i64 y.h,.int .i64 y.cl,pv])∧PosT w' pv y.ps∧Below w.heap.size w w'
set_option maxRecDepth 100000 in
set_option maxHeartbeats 2000000 in
theorem finished_of (x:Cl)(l:List Pr)(v:Value)(w:World)(h:Hid (Prs w v l))(hga:Hid (Ga 1 l))(hb:Hid (∀ r∈l,r.2.length≤20000)) :
    Calls Tryz.prog 71 #[.agg #[.string (bb x.1),.string ⟨#[]⟩,.int .i64 0,.int .i64 0,.int .i64 x.2,.slice none 0 0],v] w (FinOut (finN x l) w):=by
 obtain ⟨uo,uc,rfl,_,_,_⟩:=id h.out
 obtain ⟨gl,hgl⟩:∃ q,getL l wLabel=q:=⟨_,rfl⟩
 obtain ⟨gl,gb⟩:=gl
 obtain ⟨gp,hgp⟩:∃ q,getL l wPorts=q:=⟨_,rfl⟩
 obtain ⟨gp,gpb⟩:=gp
 obtain ⟨nw,hnw⟩:∃ q,numL 1 l wWidth=q:=⟨_,rfl⟩
 obtain ⟨nh,hnh⟩:∃ q,numL 1 l wHeight=q:=⟨_,rfl⟩
 obtain ⟨pl,hpl⟩:∃ q,portsL gp=q:=⟨_,rfl⟩
 obtain ⟨pl,pe⟩:=pl
 have HGL:Hid (getL l (⟨#[108,97,98,101,108]⟩:ByteArray).data.toList=(gl,gb)):=Lh hgl
 have HGP:Hid (getL l (⟨#[112,111,114,116,115]⟩:ByteArray).data.toList=(gp,gpb)):=Lh hgp
 have HNW:Hid (numL 1 l (⟨#[119,105,100,116,104]⟩:ByteArray).data.toList=nw):=Lh hnw
 have HNH:Hid (numL 1 l (⟨#[104,101,105,103,104,116]⟩:ByteArray).data.toList=nh):=Lh hnh
 have HPL:Hid (portsL (bb gp).data.toList=(pl,pe)):=Lh hpl
 have hgps:(bb gp).size≤20000:=by
  have:=ports_short hga.out
  rw [hgp] at this
  rw [bb_size];exact Nat.le_trans this (by decide)
 have HFN:Hid (finN x l=⟨x.1,if gb then gl else x.1,nw,nh,x.2,if gpb then pl else []⟩):=Lh (by
  unfold finN;rw [hgl,hgp,hnw,hnh,hpl])
 obtain ⟨Y,hY⟩:∃ Y,finN x l=Y:=⟨_,rfl⟩
 have HFY:Hid (Y=⟨x.1,if gb then gl else x.1,nw,nh,x.2,if gpb then pl else []⟩):=Lh (hY.symm.trans HFN.out)
 rw [hY]
 have hbd:=al2 w (.cells #[.string (bb x.1),.string (bb x.1),.int .i64 0,.int .i64 0,.int .i64 x.2,.slice none 0 0] 45) (.cells #[.string ⟨#[]⟩,.string ⟨#[]⟩,.int .i64 0,.int .i64 0,.int .i64 0,.slice none 0 0] 45)
 have hn0:blk ((w.alloc (.cells #[.string (bb x.1),.string (bb x.1),.int .i64 0,.int .i64 0,.int .i64 x.2,.slice none 0 0] 45)).alloc (.cells #[.string ⟨#[]⟩,.string ⟨#[]⟩,.int .i64 0,.int .i64 0,.int .i64 0,.slice none 0 0] 45)) w.heap.size 45 #[.string (bb x.1),.string (bb x.1),.int .i64 0,.int .i64 0,.int .i64 x.2,.slice none 0 0]:=blk_below (blk_new w #[.string (bb x.1),.string (bb x.1),.int .i64 0,.int .i64 0,.int .i64 x.2,.slice none 0 0] 45) (al1 ..)
 have hr0:blk ((w.alloc (.cells #[.string (bb x.1),.string (bb x.1),.int .i64 0,.int .i64 0,.int .i64 x.2,.slice none 0 0] 45)).alloc (.cells #[.string ⟨#[]⟩,.string ⟨#[]⟩,.int .i64 0,.int .i64 0,.int .i64 0,.slice none 0 0] 45)) (w.heap.size+1) 45 #[.string ⟨#[]⟩,.string ⟨#[]⟩,.int .i64 0,.int .i64 0,.int .i64 0,.slice none 0 0]:=by have:=blk_new (w.alloc (.cells #[.string (bb x.1),.string (bb x.1),.int .i64 0,.int .i64 0,.int .i64 x.2,.slice none 0 0] 45)) #[.string ⟨#[]⟩,.string ⟨#[]⟩,.int .i64 0,.int .i64 0,.int .i64 0,.slice none 0 0] 45;rwa [World.size_alloc] at this
 obtain ⟨X,hX⟩:∃ X,bb x.1=X:=⟨_,rfl⟩
 have HX:=Lh hX
 have HN1:=Lh hn0
 have HR1:=Lh hr0
 have HB1:=Lh hbd
 rw [hX] at HN1 HR1 HB1 ⊢
 clear hgl hgp hnw hnh hpl HFN hY hbd hn0 hr0 hX hga
 go_enter Tryz.func71,Tryz.ntmps71
 go_wp2_with fail
 generalize (w.alloc (.cells #[.string X,.string X,.int .i64 0,.int .i64 0,.int .i64 x.2,.slice none 0 0] 45)).alloc (.cells #[.string ⟨#[]⟩,.string ⟨#[]⟩,.int .i64 0,.int .i64 0,.int .i64 0,.slice none 0 0] 45)=w1 at *
 refine (rget_of _ l ⟨#[108,97,98,101,108]⟩ gl gb w1 (Lh (h.out.keep HB1.out)) HGL).mono ?_
 rintro e w2 ⟨rfl,hw2⟩
 subst w2
 cases gb
 case true =>
  have p1:w1.cell? ⟨w.heap.size,1,none⟩=some (.string X):=by rw [blk_cell HN1.out];rfl
  have f1:=blk_open HN1.out 1
  have HN2:Hid (blk (w1.setCell ⟨w.heap.size,1,none⟩ (.string (bb gl))) w.heap.size 45 #[.string X,.string (bb gl),.int .i64 0,.int .i64 0,.int .i64 x.2,.slice none 0 0]):=Lh (blk_set HN1.out _)
  have HR2:=Lh (blk_far (o:=1) HR1.out (show w.heap.size+1≠w.heap.size by omega) (.string (bb gl)))
  have HB2:Hid (Below w.heap.size w (w1.setCell ⟨w.heap.size,1,none⟩ (.string (bb gl)))):=Lh (HB1.out.setCell (Nat.le_refl _) _)
  clear HN1 HR1 HB1
  go_wp2_with fail
  generalize w1.setCell ⟨w.heap.size,1,none⟩ (.string (bb gl))=w2 at *
  clear p1 f1
  refine (rnum_of 1 _ l ⟨#[119,105,100,116,104]⟩ nw w2 (Lh (h.out.keep HB2.out)) hb HNW).mono ?_
  rintro e w3 ⟨rfl,hb3⟩
  have HN3:=Lh (blk_below HN2.out hb3)
  have HR3:=Lh (blk_below HR2.out hb3)
  have HB3:=Lh (below_keep hb3 HB2.out)
  clear hb3 HN2 HR2 HB2
  go_wp2_with fail
  refine (rnum_of 1 _ l ⟨#[104,101,105,103,104,116]⟩ nh w3 (Lh (h.out.keep HB3.out)) hb HNH).mono ?_
  rintro e w4 ⟨rfl,hb4⟩
  have HN4:=Lh (blk_below HN3.out hb4)
  have HR4:=Lh (blk_below HR3.out hb4)
  have HB4:=Lh (below_keep hb4 HB3.out)
  clear hb4 HN3 HR3 HB3
  have p2:w4.cell? ⟨w.heap.size,2,none⟩=some (.int .i64 0):=by rw [blk_cell HN4.out];rfl
  have p3:w4.cell? ⟨w.heap.size,3,none⟩=some (.int .i64 0):=by rw [blk_cell HN4.out];rfl
  have f2:=blk_open HN4.out 2
  have f3:=blk_open HN4.out 3
  have HN5:Hid (blk ((w4.setCell ⟨w.heap.size,2,none⟩ (.int .i64 nw)).setCell ⟨w.heap.size,3,none⟩ (.int .i64 nh)) w.heap.size 45 #[.string X,.string (bb gl),.int .i64 nw,.int .i64 nh,.int .i64 x.2,.slice none 0 0]):=Lh (blk_set (blk_set HN4.out _) _)
  have HR5:Hid (blk ((w4.setCell ⟨w.heap.size,2,none⟩ (.int .i64 nw)).setCell ⟨w.heap.size,3,none⟩ (.int .i64 nh)) (w.heap.size+1) 45 #[.string ⟨#[]⟩,.string ⟨#[]⟩,.int .i64 0,.int .i64 0,.int .i64 0,.slice none 0 0]):=Lh (blk_far (blk_far HR4.out (show w.heap.size+1≠w.heap.size by omega) _) (show w.heap.size+1≠w.heap.size by omega) _)
  have HB5:Hid (Below w.heap.size w ((w4.setCell ⟨w.heap.size,2,none⟩ (.int .i64 nw)).setCell ⟨w.heap.size,3,none⟩ (.int .i64 nh))):=Lh ((HB4.out.setCell (Nat.le_refl _) _).setCell (Nat.le_refl _) _)
  clear HN4 HR4 HB4
  go_wp2_with fail
  generalize (w4.setCell ⟨w.heap.size,2,none⟩ (.int .i64 nw)).setCell ⟨w.heap.size,3,none⟩ (.int .i64 nh)=w5 at *
  clear p2 p3 f2 f3
  refine (rget_of _ l ⟨#[112,111,114,116,115]⟩ gp gpb w5 (Lh (h.out.keep HB5.out)) HGP).mono ?_
  rintro e w6 ⟨rfl,hw6⟩
  subst w6
  cases gpb
  case true =>
   go_wp2_with fail
   refine (rportsT_of (bb gp) pl pe w5 hgps HPL).mono ?_
   rintro e w6 ⟨pv,rfl,hpt,hb6⟩
   obtain ⟨qo,qc,rfl,_,_,_⟩:=id hpt.pos
   have HN6:=Lh (blk_below HN5.out hb6)
   have HR6:=Lh (blk_below HR5.out hb6)
   have HB6:=Lh (below_keep hb6 HB5.out)
   have HPT7:=Lh (posT_set (o:=5) hpt HN6.out (by decide) (.slice qo pl.length qc))
   clear hb6 hpt HN5 HR5 HB5
   have p5:w6.cell? ⟨w.heap.size,5,none⟩=some (.slice none 0 0):=by rw [blk_cell HN6.out];rfl
   have f5:=blk_open HN6.out 5
   have HN7:Hid (blk (w6.setCell ⟨w.heap.size,5,none⟩ (.slice qo pl.length qc)) w.heap.size 45 #[.string X,.string (bb gl),.int .i64 nw,.int .i64 nh,.int .i64 x.2,.slice qo pl.length qc]):=Lh (blk_set HN6.out _)
   have HR7:Hid (blk (w6.setCell ⟨w.heap.size,5,none⟩ (.slice qo pl.length qc)) (w.heap.size+1) 45 #[.string ⟨#[]⟩,.string ⟨#[]⟩,.int .i64 0,.int .i64 0,.int .i64 0,.slice none 0 0]):=Lh (blk_far HR6.out (show w.heap.size+1≠w.heap.size by omega) _)
   have HB7:Hid (Below w.heap.size w (w6.setCell ⟨w.heap.size,5,none⟩ (.slice qo pl.length qc))):=Lh (HB6.out.setCell (Nat.le_refl _) _)
   clear HN6 HR6 HB6
   have s0:(w6.setCell ⟨w.heap.size,5,none⟩ (.slice qo pl.length qc)).cell? ⟨w.heap.size,0,none⟩=some (.string X):=by rw [blk_cell HN7.out];rfl
   have s1:(w6.setCell ⟨w.heap.size,5,none⟩ (.slice qo pl.length qc)).cell? ⟨w.heap.size,1,none⟩=some (.string (bb gl)):=by rw [blk_cell HN7.out];rfl
   have s2:(w6.setCell ⟨w.heap.size,5,none⟩ (.slice qo pl.length qc)).cell? ⟨w.heap.size,2,none⟩=some (.int .i64 nw):=by rw [blk_cell HN7.out];rfl
   have s3:(w6.setCell ⟨w.heap.size,5,none⟩ (.slice qo pl.length qc)).cell? ⟨w.heap.size,3,none⟩=some (.int .i64 nh):=by rw [blk_cell HN7.out];rfl
   have s4:(w6.setCell ⟨w.heap.size,5,none⟩ (.slice qo pl.length qc)).cell? ⟨w.heap.size,4,none⟩=some (.int .i64 x.2):=by rw [blk_cell HN7.out];rfl
   have s5:(w6.setCell ⟨w.heap.size,5,none⟩ (.slice qo pl.length qc)).cell? ⟨w.heap.size,5,none⟩=some (.slice qo pl.length qc):=by rw [blk_cell HN7.out];rfl
   have z0:(w6.setCell ⟨w.heap.size,5,none⟩ (.slice qo pl.length qc)).cell? ⟨w.heap.size+1,0,none⟩=some (.string ⟨#[]⟩):=by rw [blk_cell HR7.out];rfl
   have z1:(w6.setCell ⟨w.heap.size,5,none⟩ (.slice qo pl.length qc)).cell? ⟨w.heap.size+1,1,none⟩=some (.string ⟨#[]⟩):=by rw [blk_cell HR7.out];rfl
   have z2:(w6.setCell ⟨w.heap.size,5,none⟩ (.slice qo pl.length qc)).cell? ⟨w.heap.size+1,2,none⟩=some (.int .i64 0):=by rw [blk_cell HR7.out];rfl
   have z3:(w6.setCell ⟨w.heap.size,5,none⟩ (.slice qo pl.length qc)).cell? ⟨w.heap.size+1,3,none⟩=some (.int .i64 0):=by rw [blk_cell HR7.out];rfl
   have z4:(w6.setCell ⟨w.heap.size,5,none⟩ (.slice qo pl.length qc)).cell? ⟨w.heap.size+1,4,none⟩=some (.int .i64 0):=by rw [blk_cell HR7.out];rfl
   have z5:(w6.setCell ⟨w.heap.size,5,none⟩ (.slice qo pl.length qc)).cell? ⟨w.heap.size+1,5,none⟩=some (.slice none 0 0):=by rw [blk_cell HR7.out];rfl
   have y0:=blk_open HR7.out 0
   have y1:=blk_open HR7.out 1
   have y2:=blk_open HR7.out 2
   have y3:=blk_open HR7.out 3
   have y4:=blk_open HR7.out 4
   have y5:=blk_open HR7.out 5
   go_wp2
   have hgx:=nbx_set HR7.out (.string X) (.string (bb gl)) (.int .i64 nw) (.int .i64 nh) (.int .i64 x.2) (.slice qo pl.length qc)
   obtain ⟨r0,r1,r2,r3,r4,r5⟩:=ncl hgx
   refine bodyPost_ret (v:=.agg #[.string X,.string (bb gl),.int .i64 nw,.int .i64 nh,.int .i64 x.2,.slice qo pl.length qc]) (by simp [results,Tryz.results71,go_sem,r0,r1,r2,r3,r4,r5]) rfl ?_
   have hY2:Y=⟨x.1,gl,nw,nh,x.2,pl⟩:=HFY.out
   subst hY2
   exact ⟨_,by simp only [HX.out],posT_set6 HPT7.out HR7.out _ _ _ _ _ _,below_set6 HB7.out (Nat.le_succ _) _ _ _ _ _ _⟩
  case false =>
   have HN7:=HN5
   have HR7:=HR5
   have HB7:=HB5
   have HPT7:=Lh (PosT.nil w5)
   clear HN5 HR5 HB5
   have s0:w5.cell? ⟨w.heap.size,0,none⟩=some (.string X):=by rw [blk_cell HN7.out];rfl
   have s1:w5.cell? ⟨w.heap.size,1,none⟩=some (.string (bb gl)):=by rw [blk_cell HN7.out];rfl
   have s2:w5.cell? ⟨w.heap.size,2,none⟩=some (.int .i64 nw):=by rw [blk_cell HN7.out];rfl
   have s3:w5.cell? ⟨w.heap.size,3,none⟩=some (.int .i64 nh):=by rw [blk_cell HN7.out];rfl
   have s4:w5.cell? ⟨w.heap.size,4,none⟩=some (.int .i64 x.2):=by rw [blk_cell HN7.out];rfl
   have s5:w5.cell? ⟨w.heap.size,5,none⟩=some (.slice none 0 0):=by rw [blk_cell HN7.out];rfl
   have z0:w5.cell? ⟨w.heap.size+1,0,none⟩=some (.string ⟨#[]⟩):=by rw [blk_cell HR7.out];rfl
   have z1:w5.cell? ⟨w.heap.size+1,1,none⟩=some (.string ⟨#[]⟩):=by rw [blk_cell HR7.out];rfl
   have z2:w5.cell? ⟨w.heap.size+1,2,none⟩=some (.int .i64 0):=by rw [blk_cell HR7.out];rfl
   have z3:w5.cell? ⟨w.heap.size+1,3,none⟩=some (.int .i64 0):=by rw [blk_cell HR7.out];rfl
   have z4:w5.cell? ⟨w.heap.size+1,4,none⟩=some (.int .i64 0):=by rw [blk_cell HR7.out];rfl
   have z5:w5.cell? ⟨w.heap.size+1,5,none⟩=some (.slice none 0 0):=by rw [blk_cell HR7.out];rfl
   have y0:=blk_open HR7.out 0
   have y1:=blk_open HR7.out 1
   have y2:=blk_open HR7.out 2
   have y3:=blk_open HR7.out 3
   have y4:=blk_open HR7.out 4
   have y5:=blk_open HR7.out 5
   go_wp2
   have hgx:=nbx_set HR7.out (.string X) (.string (bb gl)) (.int .i64 nw) (.int .i64 nh) (.int .i64 x.2) (.slice none 0 0)
   obtain ⟨r0,r1,r2,r3,r4,r5⟩:=ncl hgx
   refine bodyPost_ret (v:=.agg #[.string X,.string (bb gl),.int .i64 nw,.int .i64 nh,.int .i64 x.2,.slice none 0 0]) (by simp [results,Tryz.results71,go_sem,r0,r1,r2,r3,r4,r5]) rfl ?_
   have hY2:Y=⟨x.1,gl,nw,nh,x.2,[]⟩:=HFY.out
   subst hY2
   exact ⟨_,by simp only [HX.out],posT_set6 HPT7.out HR7.out _ _ _ _ _ _,below_set6 HB7.out (Nat.le_succ _) _ _ _ _ _ _⟩
 case false =>
  go_wp2_with fail
  refine (rnum_of 1 _ l ⟨#[119,105,100,116,104]⟩ nw w1 (Lh (h.out.keep HB1.out)) hb HNW).mono ?_
  rintro e w3 ⟨rfl,hb3⟩
  have HN3:=Lh (blk_below HN1.out hb3)
  have HR3:=Lh (blk_below HR1.out hb3)
  have HB3:=Lh (below_keep hb3 HB1.out)
  clear hb3 HN1 HR1 HB1
  go_wp2_with fail
  refine (rnum_of 1 _ l ⟨#[104,101,105,103,104,116]⟩ nh w3 (Lh (h.out.keep HB3.out)) hb HNH).mono ?_
  rintro e w4 ⟨rfl,hb4⟩
  have HN4:=Lh (blk_below HN3.out hb4)
  have HR4:=Lh (blk_below HR3.out hb4)
  have HB4:=Lh (below_keep hb4 HB3.out)
  clear hb4 HN3 HR3 HB3
  have p2:w4.cell? ⟨w.heap.size,2,none⟩=some (.int .i64 0):=by rw [blk_cell HN4.out];rfl
  have p3:w4.cell? ⟨w.heap.size,3,none⟩=some (.int .i64 0):=by rw [blk_cell HN4.out];rfl
  have f2:=blk_open HN4.out 2
  have f3:=blk_open HN4.out 3
  have HN5:Hid (blk ((w4.setCell ⟨w.heap.size,2,none⟩ (.int .i64 nw)).setCell ⟨w.heap.size,3,none⟩ (.int .i64 nh)) w.heap.size 45 #[.string X,.string X,.int .i64 nw,.int .i64 nh,.int .i64 x.2,.slice none 0 0]):=Lh (blk_set (blk_set HN4.out _) _)
  have HR5:Hid (blk ((w4.setCell ⟨w.heap.size,2,none⟩ (.int .i64 nw)).setCell ⟨w.heap.size,3,none⟩ (.int .i64 nh)) (w.heap.size+1) 45 #[.string ⟨#[]⟩,.string ⟨#[]⟩,.int .i64 0,.int .i64 0,.int .i64 0,.slice none 0 0]):=Lh (blk_far (blk_far HR4.out (show w.heap.size+1≠w.heap.size by omega) _) (show w.heap.size+1≠w.heap.size by omega) _)
  have HB5:Hid (Below w.heap.size w ((w4.setCell ⟨w.heap.size,2,none⟩ (.int .i64 nw)).setCell ⟨w.heap.size,3,none⟩ (.int .i64 nh))):=Lh ((HB4.out.setCell (Nat.le_refl _) _).setCell (Nat.le_refl _) _)
  clear HN4 HR4 HB4
  go_wp2_with fail
  generalize (w4.setCell ⟨w.heap.size,2,none⟩ (.int .i64 nw)).setCell ⟨w.heap.size,3,none⟩ (.int .i64 nh)=w5 at *
  clear p2 p3 f2 f3
  refine (rget_of _ l ⟨#[112,111,114,116,115]⟩ gp gpb w5 (Lh (h.out.keep HB5.out)) HGP).mono ?_
  rintro e w6 ⟨rfl,hw6⟩
  subst w6
  cases gpb
  case true =>
   go_wp2_with fail
   refine (rportsT_of (bb gp) pl pe w5 hgps HPL).mono ?_
   rintro e w6 ⟨pv,rfl,hpt,hb6⟩
   obtain ⟨qo,qc,rfl,_,_,_⟩:=id hpt.pos
   have HN6:=Lh (blk_below HN5.out hb6)
   have HR6:=Lh (blk_below HR5.out hb6)
   have HB6:=Lh (below_keep hb6 HB5.out)
   have HPT7:=Lh (posT_set (o:=5) hpt HN6.out (by decide) (.slice qo pl.length qc))
   clear hb6 hpt HN5 HR5 HB5
   have p5:w6.cell? ⟨w.heap.size,5,none⟩=some (.slice none 0 0):=by rw [blk_cell HN6.out];rfl
   have f5:=blk_open HN6.out 5
   have HN7:Hid (blk (w6.setCell ⟨w.heap.size,5,none⟩ (.slice qo pl.length qc)) w.heap.size 45 #[.string X,.string X,.int .i64 nw,.int .i64 nh,.int .i64 x.2,.slice qo pl.length qc]):=Lh (blk_set HN6.out _)
   have HR7:Hid (blk (w6.setCell ⟨w.heap.size,5,none⟩ (.slice qo pl.length qc)) (w.heap.size+1) 45 #[.string ⟨#[]⟩,.string ⟨#[]⟩,.int .i64 0,.int .i64 0,.int .i64 0,.slice none 0 0]):=Lh (blk_far HR6.out (show w.heap.size+1≠w.heap.size by omega) _)
   have HB7:Hid (Below w.heap.size w (w6.setCell ⟨w.heap.size,5,none⟩ (.slice qo pl.length qc))):=Lh (HB6.out.setCell (Nat.le_refl _) _)
   clear HN6 HR6 HB6
   have s0:(w6.setCell ⟨w.heap.size,5,none⟩ (.slice qo pl.length qc)).cell? ⟨w.heap.size,0,none⟩=some (.string X):=by rw [blk_cell HN7.out];rfl
   have s1:(w6.setCell ⟨w.heap.size,5,none⟩ (.slice qo pl.length qc)).cell? ⟨w.heap.size,1,none⟩=some (.string X):=by rw [blk_cell HN7.out];rfl
   have s2:(w6.setCell ⟨w.heap.size,5,none⟩ (.slice qo pl.length qc)).cell? ⟨w.heap.size,2,none⟩=some (.int .i64 nw):=by rw [blk_cell HN7.out];rfl
   have s3:(w6.setCell ⟨w.heap.size,5,none⟩ (.slice qo pl.length qc)).cell? ⟨w.heap.size,3,none⟩=some (.int .i64 nh):=by rw [blk_cell HN7.out];rfl
   have s4:(w6.setCell ⟨w.heap.size,5,none⟩ (.slice qo pl.length qc)).cell? ⟨w.heap.size,4,none⟩=some (.int .i64 x.2):=by rw [blk_cell HN7.out];rfl
   have s5:(w6.setCell ⟨w.heap.size,5,none⟩ (.slice qo pl.length qc)).cell? ⟨w.heap.size,5,none⟩=some (.slice qo pl.length qc):=by rw [blk_cell HN7.out];rfl
   have z0:(w6.setCell ⟨w.heap.size,5,none⟩ (.slice qo pl.length qc)).cell? ⟨w.heap.size+1,0,none⟩=some (.string ⟨#[]⟩):=by rw [blk_cell HR7.out];rfl
   have z1:(w6.setCell ⟨w.heap.size,5,none⟩ (.slice qo pl.length qc)).cell? ⟨w.heap.size+1,1,none⟩=some (.string ⟨#[]⟩):=by rw [blk_cell HR7.out];rfl
   have z2:(w6.setCell ⟨w.heap.size,5,none⟩ (.slice qo pl.length qc)).cell? ⟨w.heap.size+1,2,none⟩=some (.int .i64 0):=by rw [blk_cell HR7.out];rfl
   have z3:(w6.setCell ⟨w.heap.size,5,none⟩ (.slice qo pl.length qc)).cell? ⟨w.heap.size+1,3,none⟩=some (.int .i64 0):=by rw [blk_cell HR7.out];rfl
   have z4:(w6.setCell ⟨w.heap.size,5,none⟩ (.slice qo pl.length qc)).cell? ⟨w.heap.size+1,4,none⟩=some (.int .i64 0):=by rw [blk_cell HR7.out];rfl
   have z5:(w6.setCell ⟨w.heap.size,5,none⟩ (.slice qo pl.length qc)).cell? ⟨w.heap.size+1,5,none⟩=some (.slice none 0 0):=by rw [blk_cell HR7.out];rfl
   have y0:=blk_open HR7.out 0
   have y1:=blk_open HR7.out 1
   have y2:=blk_open HR7.out 2
   have y3:=blk_open HR7.out 3
   have y4:=blk_open HR7.out 4
   have y5:=blk_open HR7.out 5
   go_wp2
   have hgx:=nbx_set HR7.out (.string X) (.string X) (.int .i64 nw) (.int .i64 nh) (.int .i64 x.2) (.slice qo pl.length qc)
   obtain ⟨r0,r1,r2,r3,r4,r5⟩:=ncl hgx
   refine bodyPost_ret (v:=.agg #[.string X,.string X,.int .i64 nw,.int .i64 nh,.int .i64 x.2,.slice qo pl.length qc]) (by simp [results,Tryz.results71,go_sem,r0,r1,r2,r3,r4,r5]) rfl ?_
   have hY2:Y=⟨x.1,x.1,nw,nh,x.2,pl⟩:=HFY.out
   subst hY2
   exact ⟨_,by simp only [HX.out],posT_set6 HPT7.out HR7.out _ _ _ _ _ _,below_set6 HB7.out (Nat.le_succ _) _ _ _ _ _ _⟩
  case false =>
   have HN7:=HN5
   have HR7:=HR5
   have HB7:=HB5
   have HPT7:=Lh (PosT.nil w5)
   clear HN5 HR5 HB5
   have s0:w5.cell? ⟨w.heap.size,0,none⟩=some (.string X):=by rw [blk_cell HN7.out];rfl
   have s1:w5.cell? ⟨w.heap.size,1,none⟩=some (.string X):=by rw [blk_cell HN7.out];rfl
   have s2:w5.cell? ⟨w.heap.size,2,none⟩=some (.int .i64 nw):=by rw [blk_cell HN7.out];rfl
   have s3:w5.cell? ⟨w.heap.size,3,none⟩=some (.int .i64 nh):=by rw [blk_cell HN7.out];rfl
   have s4:w5.cell? ⟨w.heap.size,4,none⟩=some (.int .i64 x.2):=by rw [blk_cell HN7.out];rfl
   have s5:w5.cell? ⟨w.heap.size,5,none⟩=some (.slice none 0 0):=by rw [blk_cell HN7.out];rfl
   have z0:w5.cell? ⟨w.heap.size+1,0,none⟩=some (.string ⟨#[]⟩):=by rw [blk_cell HR7.out];rfl
   have z1:w5.cell? ⟨w.heap.size+1,1,none⟩=some (.string ⟨#[]⟩):=by rw [blk_cell HR7.out];rfl
   have z2:w5.cell? ⟨w.heap.size+1,2,none⟩=some (.int .i64 0):=by rw [blk_cell HR7.out];rfl
   have z3:w5.cell? ⟨w.heap.size+1,3,none⟩=some (.int .i64 0):=by rw [blk_cell HR7.out];rfl
   have z4:w5.cell? ⟨w.heap.size+1,4,none⟩=some (.int .i64 0):=by rw [blk_cell HR7.out];rfl
   have z5:w5.cell? ⟨w.heap.size+1,5,none⟩=some (.slice none 0 0):=by rw [blk_cell HR7.out];rfl
   have y0:=blk_open HR7.out 0
   have y1:=blk_open HR7.out 1
   have y2:=blk_open HR7.out 2
   have y3:=blk_open HR7.out 3
   have y4:=blk_open HR7.out 4
   have y5:=blk_open HR7.out 5
   go_wp2
   have hgx:=nbx_set HR7.out (.string X) (.string X) (.int .i64 nw) (.int .i64 nh) (.int .i64 x.2) (.slice none 0 0)
   obtain ⟨r0,r1,r2,r3,r4,r5⟩:=ncl hgx
   refine bodyPost_ret (v:=.agg #[.string X,.string X,.int .i64 nw,.int .i64 nh,.int .i64 x.2,.slice none 0 0]) (by simp [results,Tryz.results71,go_sem,r0,r1,r2,r3,r4,r5]) rfl ?_
   have hY2:Y=⟨x.1,x.1,nw,nh,x.2,[]⟩:=HFY.out
   subst hY2
   exact ⟨_,by simp only [HX.out],posT_set6 HPT7.out HR7.out _ _ _ _ _ _,below_set6 HB7.out (Nat.le_succ _) _ _ _ _ _ _⟩
end Go.Proofs.YtcdoicgbjoikkaaGreatDoor.nor
