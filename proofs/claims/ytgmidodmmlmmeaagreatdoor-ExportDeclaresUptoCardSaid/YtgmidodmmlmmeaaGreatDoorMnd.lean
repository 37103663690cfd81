/-
  Contracts and plain facts of the layers below; conditions as each theorem states them.
-/
import Derived.Test.YtgmidodmmlmmeaaGreatDoorMnc
namespace Go.Proofs.YtgmidodmmlmmeaaGreatDoor.nor
open Go.RowKit lex tre att
theorem ynq (k:Int):∀ (l done:List Pr),yc6 k done l=0->∀ a∈l,a.2.length<=32/\(k≠4->yK a.1=true)
 | [],_,_,a,ha=>by cases ha
 | x::t,done,h,a,ha=>by
  unfold yc6 at h
  split at h
  ·exact absurd h (by decide)
  rename_i h1
  split at h
  ·exact absurd h (by decide)
  split at h
  ·exact absurd h (by decide)
  rename_i h3
  split at h
  ·exact absurd h (by decide)
  rcases List.mem_cons.1 ha with rfl | ha
  ·refine⟨by omega,fun hk=>?_⟩
   cases hq:yK a.1
   ·exact absurd ⟨hk,hq⟩ h1
   ·rfl
  ·exact ynq k t _ h a ha
theorem yiA {s:St}{lv:Int}(h:ybs s lv=0):(∀ a∈s.attrs,a.2.length<=32/\(s.kind≠4->yK a.1=true))/\s.attrs.length<=16/\(s.kind=4->s.attrs≠[])/\((s.kind≠2/\s.kind≠3)->yK s.name=true):=by
 unfold ybs at h
 split at h
 ·rename_i hne;exact absurd h hne
 rename_i hf
 have hf0:ydL s=0:=by simpa using hf
 split at h
 ·exact absurd h (by decide)
 split at h
 ·exact absurd h (by decide)
 rename_i hnm
 split at h
 ·exact absurd h (by decide)
 unfold yjh at h
 split at h
 ·exact absurd h (by decide)
 rename_i h16
 refine⟨ynq s.kind s.attrs [] h,by omega,fun h4=>?_,fun hk=>?_⟩
 ·intro e
  unfold ydL at hf0;rw[e] at hf0;simp[h4] at hf0
 ·cases hq:yK s.name
  ·exact absurd ⟨hk.1,hk.2,hq⟩ hnm
  ·rfl
theorem yhw (l:List UInt8):(bb l).data.toList=l:=rfl
theorem yp5 {w w':World}{v:Value}{l:List Pr}(h:PrsT w v l)(hf:∀ (k:Nat) (arr:Array Value) (fr:Nat × Nat),w.heap[k]?=some (.cells arr 69 fr)->w'.heap[k]?=w.heap[k]?):PrsT w' v l:=by
 obtain⟨⟨ao,cap,rfl,hc,hm,hA⟩,hT⟩:=h;refine⟨⟨ao,cap,rfl,hc,hm,fun hn=>?_⟩,fun g hg=>?_⟩
 ·obtain⟨A,rfl,h2⟩:=hA hn
  obtain⟨arr,fr,hk⟩:=hT A.block rfl;have e:=hf _ _ _ hk;refine⟨A,rfl,fun i hi=>?_⟩;obtain⟨a1,a2,a3⟩:=h2 i hi;have eb:(A.add (i*2)).block=A.block:=by unfold Addr.add;split <;> rfl
  have e1:w'.heap[(A.add (i*2)).block]?=w.heap[(A.add (i*2)).block]?:=by rw[eb];exact e
  exact⟨(World.cell?_of_block (a:=A.add (i*2)) e1).trans a1,(World.cell?_of_block (a:=⟨(A.add (i*2)).block,(A.add (i*2)).off+1,none⟩) e1).trans a2,a3⟩
 ·obtain⟨arr,fr,hk⟩:=hT g hg
  exact⟨arr,fr,(hf _ _ _ hk).trans hk⟩
theorem ycZ {w:World}{v:Value}{l:List Pr}{b o:Nat}{t:TypeId}{arr:Array Value}(h:PrsT w v l)(hb:blk w b t arr)(ht:t≠69)(u:Value):PrsT (w.setCell ⟨b,o,none⟩ u) v l :=
 yp5 h fun k arr' fr hk=>Below.heap_setCell _ _ _ _ fun e=>by
  subst e;unfold att.blk at hb;rw[hb] at hk;cases hk
  exact ht rfl
theorem yi {w:World}{b:Nat}{t:TypeId}{arr:Array Value}(h:blk w b t arr)(o:Nat):w.frozen? ⟨b,o,none⟩=false:=by unfold att.blk at h;simp[World.frozen?,h]
theorem ym {w w':World}{b:Nat}{t:TypeId}{arr:Array Value}(h:blk w b t arr)(hb:Below w.heap.size w w'):blk w' b t arr:=by unfold att.blk;rw[hb.block b (yax h)];exact h
end Go.Proofs.YtgmidodmmlmmeaaGreatDoor.nor
namespace Go.Proofs.YtgmidodmmlmmeaaGreatDoor.nor
open Go.RowKit lex tre att _root_.Go.Proofs.Tryz
theorem TFr.setNew {w w1:World}{b o:Nat}(h:TFr w w1)(hb:w.heap.size<=b)(u:Value):TFr w (w1.setCell ⟨b,o,none⟩ u) :=
 ⟨h.os,h.tape,h.output,by simp[World.setCell];exact h.size,fun k x hk hc=>by
  rw[Below.heap_setCell _ _ _ _ (fun e=>by have:=yax hk;simp only at e;omega)];exact h.block k x hk hc⟩
theorem StB.far {W:World}{B b:Nat}{nm:Nm}{d:Bool}{s:Sta}{x:StV}{g o:Nat}{t:TypeId}{arr:Array Value}(h:StB W B b nm d s x)(hg:blk W g t arr)(h1:t≠59)(h2:t≠63)(h3:t≠65)(h4:t≠189)(h5:t≠101)(h6:t≠69)(u:Value):StB (W.setCell ⟨g,o,none⟩ u) B b nm d s x :=
 ⟨h.low,by
  have hne:b≠g:=fun e=>by
   have q:=h.box;unfold stb att.blk at q;unfold att.blk at hg;rw[e,hg] at q;cases q
   exact h5 rfl
  unfold stb att.blk
  rw[Below.heap_setCell _ _ _ _ hne];exact h.box,yw h.nr hg (Ne.symm h1) _,yw h.cr hg (Ne.symm h2) _,yw h.ar hg (Ne.symm h3) _,yw h.er hg (Ne.symm h4) _,h.al,fun i q1 q2=>ycZ (h.ap i q1 q2) hg h6 _,h.el,fun y hy=>ycZ (h.ep y hy) hg h6 _⟩
theorem yst (W:World)(x y:ByteArray):(W.alloc (.cells #[.string x,.string y] 69)).ownsRow W.heap.size 69 2 (.slice (some ⟨W.heap.size,0,none⟩) 1 1) 1 [.string x,.string y] :=
 ⟨by simp,.inr ⟨W.heap.size,1,#[.string x,.string y],rfl,Nat.le_refl _,heap_alloc_new W _,Nat.le_refl _,by unfold maxLen;omega,by simp,by simp⟩⟩
theorem yp6 (W:World)(r:Pr)(h:r.1.length<=maxLen/\r.2.length<=maxLen):PrsT (W.alloc (.cells #[.string (bb r.1),.string (bb r.2)] 69)) (.slice (some ⟨W.heap.size,0,none⟩) 1 1) [r] :=
 ygO (yst W _ _) (fun q hq=>by rw[List.mem_singleton] at hq;subst hq;exact h)
theorem ynr {k:Int}{n:Nm}{a:List Pr}(h4:k≠4)(h:¬ (k=2\/(k=3/\n=ybR))):stE k n a=yb1 1 a:=by unfold stE;rw[if_neg h4,if_neg h]
theorem yqL {k:Int}{n:Nm}{a:List Pr}(h4:k≠4)(h:k=2\/(k=3/\n=ybR)):stE k n a=yb1 2 a:=by unfold stE;rw[if_neg h4,if_pos h]
theorem ytP {n:Nm}{a:List Pr}:stE 4 n a=yb1 4 [keyL n a]:=by unfold stE;rw[if_pos rfl]
theorem yd2 {s:Sta}(h:s.e=0):(⟨s.ns,s.ats,s.cs,s.en,0⟩:Sta)=s:=by cases s;simp only at h;subst h;rfl
set_option maxRecDepth 100000 in
set_option maxHeartbeats 4000000 in
theorem yns (l:List St)(ih:∀ y∈l,BlkR y.body):BlkR l:=by
 intro w0 b nm d s x bv p dv ev w hS hO h0 hp hq hs ho hz hga hgp;obtain⟨RS,hRS⟩:∃ RS,yX l p s=RS:=⟨_,rfl⟩
 rw[hRS];obtain⟨po,pc,rfl,_,_,_⟩:=id hp.prs;obtain⟨eo,ec,rfl,_,_,_⟩:=id hq.prs;obtain⟨vo,vc,rfl,hc1,hm1,-⟩:=id hs;unfold maxLen at hm1;have hlm:l.length<=9223372036854775807:=by omega
 have hb1:=al1 w (.cells #[.int .i64 p.cl,.slice po p.dn.length pc,.slice eo p.de.length ec] 104);have IH:=Lh ih;have HS:=Lh hs;have HO:=Lh hO;have HS1:=Lh (hS.below hb1);have HT1:Hid (TFr w (w.alloc (.cells #[.int .i64 p.cl,.slice po p.dn.length pc,.slice eo p.de.length ec] 104))):=Lh (TFr.below hb1);have HB1:Hid (Below w0.heap.size w (w.alloc (.cells #[.int .i64 p.cl,.slice po p.dn.length pc,.slice eo p.de.length ec] 104))):=Lh (hb1.mono hS.base);have HP1:=Lh (hp.keep hb1);have HQ1:=Lh (hq.keep hb1);have HX1:=Lh (yl w #[.int .i64 p.cl,.slice po p.dn.length pc,.slice eo p.de.length ec] 104);have HRS:Hid (yX (l.drop 0) p s=RS):=Lh hRS;have HZ:Hid (Room s (wl (l.drop 0))):=Lh hz;have HOK:Hid (okB (l.drop 0)):=Lh ho;have HGA:=Lh hga;have HGP:=Lh hgp;have hlow:w0.heap.size<=w.heap.size:=hS.base;clear hc1 hm1 ih hs hS hO hp hq hb1 hRS hz ho hga hgp h0;go_enter func48,ntmps48;go_wp2_with fail
 generalize w.alloc (.cells #[.int .i64 p.cl,.slice po p.dn.length pc,.slice eo p.de.length ec] 104)=w1 at *
 go_loopw [6] (fun iv wr=>∃ (i:Nat) (si:Sta) (xi:StV) (pi:Pl) (di ei:Value),iv=.int .i64 i/\i<=l.length/\StB wr w0.heap.size b nm d si xi/\TFr w wr/\Below w0.heap.size w wr/\PrsT wr di pi.dn/\PrsT wr ei pi.de/\blk wr w.heap.size 104 #[.int .i64 pi.cl,di,ei]/\yX (l.drop i) pi si=RS/\Room si (wl (l.drop i))/\okB (l.drop i)/\GaR si/\GaP pi) (fun iv _=>l.length-(intOf iv).toNat)
 case atStart=>exact⟨0,s,x,p,_,_,rfl,Nat.zero_le _,HS1.out,HT1.out,HB1.out,HP1.out,HQ1.out,HX1.out,HRS.out,HZ.out,HOK.out,HGA.out,HGP.out⟩
 case round =>
  obtain⟨i,si,xi,pi,di,ei,rfl,hi,hsi,hti,hbi,hpi,hqi,hxi,hrs,hzi,hoi,hgai,hgpi⟩:=hrel
  rename World=>wr
  obtain⟨do',dc,rfl,_,_,_⟩:=id hpi.prs;obtain⟨fo,fc,rfl,_,_,_⟩:=id hqi.prs;have HSI:=Lh hsi;have HTI:=Lh hti;have HBI:=Lh hbi;have HPI:=Lh hpi;have HQI:=Lh hqi;have HXI:=Lh hxi;have HRSI:=Lh hrs;have HGAI:=Lh hgai;have HGPI:=Lh hgpi;have c7:=hsi.box.read.2.2.2.2;clear hsi hti hbi hpi hqi hxi hrs hgai hgpi HS1 HT1 HB1 HP1 HQ1 HX1 HRS HZ HOK HGA HGP
  by_cases hlt:i<l.length
  case neg =>
   obtain rfl:i=l.length:=by omega
   have HRE:Hid (RS=si):=Lh (by have h:=HRSI.out;rw[List.drop_length,ybc] at h;exact h.symm);clear hoi hzi;go_wp2;refine ypX rfl rfl ?_;exact⟨rfl,xi,by rw[HRE.out];exact HSI.out,HTI.out,HBI.out⟩
  have hdr:=ynl hlt pi si;rw[HRSI.out] at hdr
  by_cases he:si.e=0
  case neg =>
   have HRE:Hid (RS=si):=Lh (by rw[hdr,if_pos he]);have de:decide (si.e=0)=false:=decide_eq_false he;have dl:decide ((i:Int)<(l.length:Int))=true:=decide_eq_true (by omega);clear hoi hzi hdr;go_wp2;refine ypX rfl rfl ?_;exact⟨rfl,xi,by rw[HRE.out];exact HSI.out,HTI.out,HBI.out⟩
  rw[if_neg (by simpa using he)] at hdr;have HOI:Hid (Below w0.heap.size w0 wr):=Lh (HO.out.trans HBI.out);obtain⟨A,rfl,hstA⟩:=(HS.out.keep HOI.out).get hlt;obtain⟨A',eA,hst0⟩:=HS.out.get hlt;cases eA
  obtain⟨ho1,ho2,ho3⟩:=ysS hoi hlt;have hct:=wl_at hlt;have hih:=IH.out l[i] (List.getElem_mem hlt);obtain⟨y,hy⟩:∃ y,l[i]=y:=⟨_,rfl⟩
  rw[hy] at hstA hst0 hdr ho1 ho2 hct hih;rw[yap] at hstA hst0;obtain⟨c0,c1,hnm,⟨rv,c2,hrv⟩,⟨av,c3,hav⟩,⟨bv,c4,hbv⟩⟩:=hstA;obtain⟨-,-,-,⟨rv0,p2,hrv0⟩,⟨av0,p3,hav0⟩,⟨bv0,p4,hbv0⟩⟩:=hst0;have e2:rv0=rv:=by have:=yb HOI.out p2;rw[c2] at this;exact(Option.some.inj this).symm
  have e3:av0=av:=by have:=yb HOI.out p3;rw[c3] at this;exact(Option.some.inj this).symm
  have e4:bv0=bv:=by have:=yb HOI.out p4;rw[c4] at this;exact(Option.some.inj this).symm
  subst e2 e3 e4;obtain⟨ro,rc,rfl,-,-,-⟩:=id hrv;obtain⟨aa,ac,rfl,-,-,-⟩:=id hav;obtain⟨bo,bq,rfl,-,-,-⟩:=id hbv;have HO1:=Lh ho1;have HO2:=Lh ho2;have HO3:=Lh ho3;have HR0:=Lh hrv0;have HA0:=Lh hav0;have HB0:=Lh hbv0;obtain⟨lv,hsta⟩:=ho1.1;obtain⟨hv32,h16,hne4,-⟩:=yiA hsta;have hr40:y.refs.length<=3000000:=by have:=hzi.1;omega
  have hk3:=ye6 ho1;have hks:=(yhJ hsta).1;have HRM:Hid (Room (ya9 y pi si) (wl (l.drop (i+1)))):=Lh (yku.1 y pi si _ ho1 ho2 (hzi.le (by omega)));have hgr:=ynk.1 y pi si ho1 ho2;obtain⟨k,n,r,a,bd⟩:=y;simp only[St.kind,St.name,St.refs,St.attrs,St.body] at c0 c1 c2 c3 c4 hdr hct hih HO2 HR0 HA0 HB0 hv32 h16 hne4 hr40 hk3 hks hgr hnm;have HRI:Hid (Room si (2+r.length+wl bd)):=Lh (hzi.le (by omega));have HIH:Hid (BlkR bd):=Lh hih;have HGR:Hid (stE k n a=0->GaR (ya9 (.mk k n r a bd) pi si)):=Lh (fun h=>hgr h HGPI.out HGAI.out);have HV:Hid (∀ q∈a,q.2.length<=20000):=Lh (fun q hq=>by have:=(hv32 q hq).1;omega);have HNE:Hid (k=4->a≠[]):=Lh hne4;have HK3:Hid (k=3->n=yc0\/n=ybR):=Lh hk3;have HGD:Hid (stE k n a=0->GaP (dflt k n a pi)):=Lh (fun h=>HGPI.out.dflt h hk3);have HDR:Hid (RS=if stE k n a≠0 then ⟨si.ns,si.ats,si.cs,si.en,stE k n a⟩ else yX (l.drop (i+1)) (dflt k n a pi) (ya9 (.mk k n r a bd) pi si)):=Lh hdr;have i0:(0:Int)<=(i:Int):=by omega
  have i1:(i:Int)<(l.length:Int):=by omega
  clear hoi hzi hct hih hdr ho1 ho2 ho3 hrv hav hbv hrv0 hav0 hbv0 p2 p3 p4 hsta hv32 hne4 hk3 hgr hy HRSI
  rcases hks with rfl | rfl | rfl | rfl | rfl
  ·have HSE:Hid (stE 1 n a=yb1 1 a):=Lh (ynr (by decide) (fun q=>q.elim (fun e=>absurd e (by decide)) (fun e=>absurd e.1 (by decide))))
   have hal2:=al1 wr (.cells #[.int .i64 1,.string (bb n),.slice ro r.length rc,.slice aa a.length ac,.slice bo bd.length bq] 67);have HS2:=Lh (HSI.out.below hal2);have HT2:Hid (TFr w (wr.alloc (.cells #[.int .i64 1,.string (bb n),.slice ro r.length rc,.slice aa a.length ac,.slice bo bd.length bq] 67))):=Lh (HTI.out.trans (TFr.below hal2));have HB2:Hid (Below w0.heap.size w (wr.alloc (.cells #[.int .i64 1,.string (bb n),.slice ro r.length rc,.slice aa a.length ac,.slice bo bd.length bq] 67))):=Lh (HBI.out.trans (hal2.mono HSI.out.base));have HP2:=Lh (HPI.out.keep hal2);have HQ2:=Lh (HQI.out.keep hal2);have HX2:=Lh (ym HXI.out hal2);have HY2:=Lh (yl wr #[.int .i64 1,.string (bb n),.slice ro r.length rc,.slice aa a.length ac,.slice bo bd.length bq] 67);have HO2':=Lh (HO.out.trans HB2.out);clear hal2 HSI HTI HBI HPI HQI HXI HOI;go_wp2_with fail
   obtain⟨G,hG⟩:∃ G,wr.heap.size=G:=⟨_,rfl⟩
   rw[hG] at HY2;simp only[hG];generalize wr.alloc (.cells #[.int .i64 1,.string (bb n),.slice ro r.length rc,.slice aa a.length ac,.slice bo bd.length bq] 67)=w2 at *;clear c0 c1 c2 c3 c4 hG c7;refine(ybz w0.heap.size b nm d si xi 1 _ a w2 HS2 he (Lh (ycq HA0.out HO2'.out)) HV).mono ?_;rintro e w5 ⟨rfl,x5,hs5,ht5,hb5⟩;obtain⟨E1,hE1⟩:∃ E1,yb1 1 a=E1:=⟨_,rfl⟩
   rw[hE1] at hs5;have HSE1:Hid (stE 1 n a=E1):=Lh (by rw[HSE.out];exact hE1);have c7:w5.cell? ⟨b,7,none⟩=some (.int .i64 E1):=hs5.box.read.2.2.2.2;have HS5:=Lh hs5;have HT5:=Lh (HT2.out.trans ht5);have HB5:=Lh (HB2.out.trans hb5);have HP5:=Lh (ht5.prs HP2.out);have HQ5:=Lh (ht5.prs HQ2.out);have HX5:=Lh (ht5.blk HX2.out rfl);have HY5:=Lh (ht5.blk HY2.out rfl);clear hs5 ht5 hb5 hE1 HSE HS2 HT2 HB2 HP2 HQ2 HX2 HY2 HO2' HV
   by_cases hE:E1=0
   case neg =>
    have bE:(E1 != 0)=true:=by rw[bne_iff_ne];exact hE
    have HRE:Hid (RS=⟨si.ns,si.ats,si.cs,si.en,E1⟩):=Lh (by rw[HDR.out,HSE1.out,if_pos hE]);clear hE;go_wp2;refine yqJ rfl rfl ?_;exact⟨rfl,x5,by rw[HRE.out];exact HS5.out,HT5.out,HB5.out⟩
   subst hE;have HNX:Hid (yX (l.drop (i+1)) (dflt 1 n a pi) (ya9 (.mk 1 n r a bd) pi si)=RS):=Lh (by have h:=HDR.out;rw[HSE1.out,if_neg (by simp)] at h;exact h.symm);have HGR5:=Lh (HGR.out HSE1.out);have HGD5:=Lh (HGD.out HSE1.out);rw[yd2 he] at HS5;clear HDR HGR HGD HNE HK3;obtain⟨y0,y1⟩:=b2c HY5.out;obtain⟨p0,p1,p2⟩:=b3c HX5.out;have hl1:si.ns.length<=3000000:=by have:=HRI.out.1;omega
   have hl2:si.ats.length<=3000000:=by have:=HRI.out.2.1;omega
   rw[yhH,ybD (by decide)] at HNX;rw[yhH] at HRM HGR5;rw[ybD (by decide)] at HGD5;go_wp2_with fail
   refine(ygt w0.heap.size b nm d si x5 n pi _ _ w5 HS5 HP5 hl1 hl2).mono ?_;rintro e w6 ⟨rfl,x6,hs6,ht6,hb6⟩;have y3:=bc 3 (ht6.blk HY5.out rfl);have HS6:=Lh hs6;have HT6:=Lh (HT5.out.trans ht6);have HB6:=Lh (HB5.out.trans hb6);have HP6:=Lh (ht6.prs HP5.out);have HQ6:=Lh (ht6.prs HQ5.out);have HX6:=Lh (ht6.blk HX5.out rfl);have HGM:Hid (∀ q∈(yN si n pi).ats,q.length<=20000):=Lh (fun q hq=>Nat.le_trans ((HGAI.out.ment HGPI.out n).1 q hq).len (by decide));have hml:(yN si n pi).ats.length<=3000000:=by have:=(Room.ment (HRI.out.le (show 0+1<=_ by omega)) n pi).2.1;omega
   obtain⟨mi,hmi⟩:∃ mi,ybS si n=mi:=⟨_,rfl⟩
   rw[hmi] at HNX HRM HGR5;simp only[hmi];have ha20:a.length<=20000:=by omega
   clear hs6 ht6 hb6 hmi y0 y1 p0 p1 p2 c7 HS5 HT5 HB5 HP5 HQ5 HX5 HY5;go_wp2_with fail
   refine(yni w0.heap.size b nm d (yN si n pi) x6 mi _ a w6 HS6 (Lh (HA0.out.keep (HO.out.trans HB6.out))) HGM ha20 hml).mono ?_;rintro e w7 ⟨rfl,x7,hs7,ht7,hb7⟩;have HS7:=Lh hs7;have HT7:=Lh (HT6.out.trans ht7);have HB7:=Lh (HB6.out.trans hb7);have HP7:=Lh (ht7.prs HP6.out);have HQ7:=Lh (ht7.prs HQ6.out);have HX7:=Lh (ht7.blk HX6.out rfl);clear hs7 ht7 hb7 y3 HS6 HT6 HB6 HP6 HQ6 HX6;go_wp2
   go_roundw
   case rel=>exact⟨i+1,_,x7,pi,_,_,by go_num,by omega,HS7.out,HT7.out,HB7.out,HP7.out,HQ7.out,HX7.out,HNX.out,HRM.out,HO3.out,HGR5.out,HGD5.out⟩
   case measure=>simp[intOf];omega
  ·have HSE:Hid (stE 2 n a=yb1 2 a):=Lh (yqL (by decide) (Or.inl rfl))
   have hal2:=al1 wr (.cells #[.int .i64 2,.string (bb n),.slice ro r.length rc,.slice aa a.length ac,.slice bo bd.length bq] 67);have HS2:=Lh (HSI.out.below hal2);have HT2:Hid (TFr w (wr.alloc (.cells #[.int .i64 2,.string (bb n),.slice ro r.length rc,.slice aa a.length ac,.slice bo bd.length bq] 67))):=Lh (HTI.out.trans (TFr.below hal2));have HB2:Hid (Below w0.heap.size w (wr.alloc (.cells #[.int .i64 2,.string (bb n),.slice ro r.length rc,.slice aa a.length ac,.slice bo bd.length bq] 67))):=Lh (HBI.out.trans (hal2.mono HSI.out.base));have HP2:=Lh (HPI.out.keep hal2);have HQ2:=Lh (HQI.out.keep hal2);have HX2:=Lh (ym HXI.out hal2);have HY2:=Lh (yl wr #[.int .i64 2,.string (bb n),.slice ro r.length rc,.slice aa a.length ac,.slice bo bd.length bq] 67);have HO2':=Lh (HO.out.trans HB2.out);clear hal2 HSI HTI HBI HPI HQI HXI HOI;go_wp2_with fail
   obtain⟨G,hG⟩:∃ G,wr.heap.size=G:=⟨_,rfl⟩
   rw[hG] at HY2;simp only[hG];generalize wr.alloc (.cells #[.int .i64 2,.string (bb n),.slice ro r.length rc,.slice aa a.length ac,.slice bo bd.length bq] 67)=w2 at *;clear c0 c1 c2 c3 c4 hG c7;refine(ybz w0.heap.size b nm d si xi 2 _ a w2 HS2 he (Lh (ycq HA0.out HO2'.out)) HV).mono ?_;rintro e w5 ⟨rfl,x5,hs5,ht5,hb5⟩;obtain⟨E1,hE1⟩:∃ E1,yb1 2 a=E1:=⟨_,rfl⟩
   rw[hE1] at hs5;have HSE1:Hid (stE 2 n a=E1):=Lh (by rw[HSE.out];exact hE1);have c7:w5.cell? ⟨b,7,none⟩=some (.int .i64 E1):=hs5.box.read.2.2.2.2;have HS5:=Lh hs5;have HT5:=Lh (HT2.out.trans ht5);have HB5:=Lh (HB2.out.trans hb5);have HP5:=Lh (ht5.prs HP2.out);have HQ5:=Lh (ht5.prs HQ2.out);have HX5:=Lh (ht5.blk HX2.out rfl);have HY5:=Lh (ht5.blk HY2.out rfl);clear hs5 ht5 hb5 hE1 HSE HS2 HT2 HB2 HP2 HQ2 HX2 HY2 HO2' HV
   by_cases hE:E1=0
   case neg =>
    have bE:(E1 != 0)=true:=by rw[bne_iff_ne];exact hE
    have HRE:Hid (RS=⟨si.ns,si.ats,si.cs,si.en,E1⟩):=Lh (by rw[HDR.out,HSE1.out,if_pos hE]);clear hE;go_wp2;refine yqJ rfl rfl ?_;exact⟨rfl,x5,by rw[HRE.out];exact HS5.out,HT5.out,HB5.out⟩
   subst hE;have HNX:Hid (yX (l.drop (i+1)) (dflt 2 n a pi) (ya9 (.mk 2 n r a bd) pi si)=RS):=Lh (by have h:=HDR.out;rw[HSE1.out,if_neg (by simp)] at h;exact h.symm);have HGR5:=Lh (HGR.out HSE1.out);have HGD5:=Lh (HGD.out HSE1.out);rw[yd2 he] at HS5;clear HDR HGR HGD HNE HK3;obtain⟨y0,y1,y2⟩:=b3c HY5.out;have y4:=bc 4 HY5.out;have y3:=bc 3 HY5.out;obtain⟨p0,p1,p2⟩:=b3c HX5.out;have hl1:si.ns.length+r.length<=3000000:=by have:=HRI.out.1;omega
   have hl2:si.ats.length+r.length<=3000000:=by have:=HRI.out.2.1;omega
   have hl3:si.en.length+r.length<=3000000:=by have:=HRI.out.2.2.1;omega
   have ha20:a.length<=20000:=by omega
   have hde:pi.de.length<=20000:=Nat.le_trans HGPI.out.2.len (by decide);have hOO:=HO.out.trans HB5.out;have HRS5:=Lh (ycq HR0.out hOO);have HAS5:=Lh (ycq HA0.out hOO);rw[yhI,ybD (by decide)] at HNX;rw[yhI] at HRM HGR5;rw[ybD (by decide)] at HGD5;clear hOO;go_wp2_with fail
   refine(yp4 w0.heap.size b nm d si x5 2 (bb n) r a ro aa bo rc ac bd.length bq pi do' fo dc fc w5 HS5 HRS5 HAS5 HP5 HQ5 hl1 hl2 hl3 ha20 hde).mono ?_;rintro e w7 ⟨rfl,x7,hs7,ht7,hb7⟩;have HS7:=Lh hs7;have HT7:=Lh (HT5.out.trans ht7);have HB7:=Lh (HB5.out.trans hb7);have HP7:=Lh (ht7.prs HP5.out);have HQ7:=Lh (ht7.prs HQ5.out);have HX7:=Lh (ht7.blk HX5.out rfl);clear hs7 ht7 hb7 y0 y1 y2 y3 y4 p0 p1 p2 c7 HS5 HT5 HB5 HP5 HQ5 HX5 HY5;go_wp2
   go_roundw
   case rel=>exact⟨i+1,_,x7,pi,_,_,by go_num,by omega,HS7.out,HT7.out,HB7.out,HP7.out,HQ7.out,HX7.out,HNX.out,HRM.out,HO3.out,HGR5.out,HGD5.out⟩
   case measure=>simp[intOf];omega
  ·rcases HK3.out rfl with hn3 | hn3
   ·obtain⟨X,hX⟩:∃ X,bb n=X:=⟨_,rfl⟩
    have bE3:(X.toList==([101,100,103,101]:List UInt8))=false:=yU (by rw[<- hX,yhw,hn3];decide);have bN3:(X.toList==([110,111,100,101]:List UInt8))=true:=yaZ (by rw[<- hX,yhw,hn3];rfl);have HN3:=Lh hn3;rw[hX] at c1;clear hn3 hX;have HSE:Hid (stE 3 n a=yb1 1 a):=Lh (ynr (by decide) (fun q=>q.elim (fun e=>absurd e (by decide)) (fun e=>absurd (HN3.out.symm.trans e.2) (by decide))));have hal2:=al1 wr (.cells #[.int .i64 3,.string X,.slice ro r.length rc,.slice aa a.length ac,.slice bo bd.length bq] 67);have HS2:=Lh (HSI.out.below hal2);have HT2:Hid (TFr w (wr.alloc (.cells #[.int .i64 3,.string X,.slice ro r.length rc,.slice aa a.length ac,.slice bo bd.length bq] 67))):=Lh (HTI.out.trans (TFr.below hal2));have HB2:Hid (Below w0.heap.size w (wr.alloc (.cells #[.int .i64 3,.string X,.slice ro r.length rc,.slice aa a.length ac,.slice bo bd.length bq] 67))):=Lh (HBI.out.trans (hal2.mono HSI.out.base));have HP2:=Lh (HPI.out.keep hal2);have HQ2:=Lh (HQI.out.keep hal2);have HX2:=Lh (ym HXI.out hal2);have HY2:=Lh (yl wr #[.int .i64 3,.string X,.slice ro r.length rc,.slice aa a.length ac,.slice bo bd.length bq] 67);have HO2':=Lh (HO.out.trans HB2.out);clear hal2 HSI HTI HBI HPI HQI HXI HOI;go_wp2_with fail
    obtain⟨G,hG⟩:∃ G,wr.heap.size=G:=⟨_,rfl⟩
    rw[hG] at HY2;simp only[hG];generalize wr.alloc (.cells #[.int .i64 3,.string X,.slice ro r.length rc,.slice aa a.length ac,.slice bo bd.length bq] 67)=w2 at *;clear c0 c1 c2 c3 c4 hG c7;refine(ybz w0.heap.size b nm d si xi 1 _ a w2 HS2 he (Lh (ycq HA0.out HO2'.out)) HV).mono ?_;rintro e w5 ⟨rfl,x5,hs5,ht5,hb5⟩;obtain⟨E1,hE1⟩:∃ E1,yb1 1 a=E1:=⟨_,rfl⟩
    rw[hE1] at hs5;have HSE1:Hid (stE 3 n a=E1):=Lh (by rw[HSE.out];exact hE1);have c7:w5.cell? ⟨b,7,none⟩=some (.int .i64 E1):=hs5.box.read.2.2.2.2;have HS5:=Lh hs5;have HT5:=Lh (HT2.out.trans ht5);have HB5:=Lh (HB2.out.trans hb5);have HP5:=Lh (ht5.prs HP2.out);have HQ5:=Lh (ht5.prs HQ2.out);have HX5:=Lh (ht5.blk HX2.out rfl);have HY5:=Lh (ht5.blk HY2.out rfl);clear hs5 ht5 hb5 hE1 HSE HS2 HT2 HB2 HP2 HQ2 HX2 HY2 HO2' HV
    by_cases hE:E1=0
    case neg =>
     have bE:(E1 != 0)=true:=by rw[bne_iff_ne];exact hE
     have HRE:Hid (RS=⟨si.ns,si.ats,si.cs,si.en,E1⟩):=Lh (by rw[HDR.out,HSE1.out,if_pos hE]);clear hE;go_wp2;refine yqJ rfl rfl ?_;exact⟨rfl,x5,by rw[HRE.out];exact HS5.out,HT5.out,HB5.out⟩
    subst hE;have HNX:Hid (yX (l.drop (i+1)) (dflt 3 n a pi) (ya9 (.mk 3 n r a bd) pi si)=RS):=Lh (by have h:=HDR.out;rw[HSE1.out,if_neg (by simp)] at h;exact h.symm);have HGR5:=Lh (HGR.out HSE1.out);have HGD5:=Lh (HGD.out HSE1.out);rw[yd2 he] at HS5;clear HDR HGR HGD HNE HK3;obtain⟨y0,y1⟩:=b2c HY5.out;have y3:=bc 3 HY5.out;have p1:=bc 1 HX5.out;have hdf:dflt 3 n a pi=(⟨pi.cl,yB pi.dn a,pi.de⟩:Pl):=by unfold dflt;rw[if_pos rfl,if_pos HN3.out]
    rw[hdf] at HNX HGD5;rw[ylr] at HNX HRM HGR5;have hlx:pi.dn.length<=20000:=Nat.le_trans HGPI.out.1.len (by decide);have ha20:a.length<=20000:=by omega
    have HA5:=Lh (HA0.out.keep (HO.out.trans HB5.out));clear hdf;go_wp2_with fail
    refine(yb9 _ _ pi.dn a w5 (Lh HP5.out.prs) HA5 hlx ha20 (Lh (ybG HP5.out.prs)) (Lh (ybG HA0.out))).mono ?_;rintro e w6 ⟨v6,rfl,hp6,hb6⟩;obtain⟨mo,mc,rfl,_,_,_⟩:=id hp6.prs;have hx6:=ym HX5.out hb6;have z1:=bc 1 hx6;have zf:=yi hx6 1;have HX7:Hid (blk (w6.setCell ⟨w.heap.size,1,none⟩ (.slice mo (yB pi.dn a).length mc)) w.heap.size 104 #[.int .i64 pi.cl,.slice mo (yB pi.dn a).length mc,.slice fo pi.de.length fc]):=Lh (yg hx6 _);have HS7:=Lh ((HS5.out.below hb6).far (o:=1) hx6 (by decide) (by decide) (by decide) (by decide) (by decide) (by decide) (.slice mo (yB pi.dn a).length mc));have HT7:=Lh ((HT5.out.trans (TFr.below hb6)).setNew (o:=1) (Nat.le_refl _) (.slice mo (yB pi.dn a).length mc));have HB7:Hid (Below w0.heap.size w (w6.setCell ⟨w.heap.size,1,none⟩ (.slice mo (yB pi.dn a).length mc))):=Lh ((HB5.out.trans (hb6.mono HS5.out.base)).setCell hlow _);have HM7:=Lh (ycZ (o:=1) hp6 hx6 (by decide) (.slice mo (yB pi.dn a).length mc));have HK7:=Lh (ycZ (o:=1) (HQ5.out.keep hb6) hx6 (by decide) (.slice mo (yB pi.dn a).length mc));clear hp6 hb6 hx6 y0 y1 y3 p1 c7 HS5 HT5 HB5 HP5 HQ5 HX5 HY5;go_wp2
    go_roundw
    case rel=>exact⟨i+1,si,x5,(⟨pi.cl,yB pi.dn a,pi.de⟩:Pl),_,_,by go_num,by omega,HS7.out,HT7.out,HB7.out,HM7.out,HK7.out,HX7.out,HNX.out,HRM.out,HO3.out,HGR5.out,HGD5.out⟩
    case measure=>simp[intOf];omega
   ·obtain⟨X,hX⟩:∃ X,bb n=X:=⟨_,rfl⟩
    have bE3:(X.toList==([101,100,103,101]:List UInt8))=true:=yaZ (by rw[<- hX,yhw,hn3];rfl);have bN3:(X.toList==([110,111,100,101]:List UInt8))=false:=yU (by rw[<- hX,yhw,hn3];decide);have HN3:=Lh hn3;rw[hX] at c1;clear hn3 hX;have HSE:Hid (stE 3 n a=yb1 2 a):=Lh (yqL (by decide) (Or.inr ⟨rfl,HN3.out⟩));have hal2:=al1 wr (.cells #[.int .i64 3,.string X,.slice ro r.length rc,.slice aa a.length ac,.slice bo bd.length bq] 67);have HS2:=Lh (HSI.out.below hal2);have HT2:Hid (TFr w (wr.alloc (.cells #[.int .i64 3,.string X,.slice ro r.length rc,.slice aa a.length ac,.slice bo bd.length bq] 67))):=Lh (HTI.out.trans (TFr.below hal2));have HB2:Hid (Below w0.heap.size w (wr.alloc (.cells #[.int .i64 3,.string X,.slice ro r.length rc,.slice aa a.length ac,.slice bo bd.length bq] 67))):=Lh (HBI.out.trans (hal2.mono HSI.out.base));have HP2:=Lh (HPI.out.keep hal2);have HQ2:=Lh (HQI.out.keep hal2);have HX2:=Lh (ym HXI.out hal2);have HY2:=Lh (yl wr #[.int .i64 3,.string X,.slice ro r.length rc,.slice aa a.length ac,.slice bo bd.length bq] 67);have HO2':=Lh (HO.out.trans HB2.out);clear hal2 HSI HTI HBI HPI HQI HXI HOI;go_wp2_with fail
    obtain⟨G,hG⟩:∃ G,wr.heap.size=G:=⟨_,rfl⟩
    rw[hG] at HY2;simp only[hG];generalize wr.alloc (.cells #[.int .i64 3,.string X,.slice ro r.length rc,.slice aa a.length ac,.slice bo bd.length bq] 67)=w2 at *;clear c0 c1 c2 c3 c4 hG c7;refine(ybz w0.heap.size b nm d si xi 2 _ a w2 HS2 he (Lh (ycq HA0.out HO2'.out)) HV).mono ?_;rintro e w5 ⟨rfl,x5,hs5,ht5,hb5⟩;obtain⟨E1,hE1⟩:∃ E1,yb1 2 a=E1:=⟨_,rfl⟩
    rw[hE1] at hs5;have HSE1:Hid (stE 3 n a=E1):=Lh (by rw[HSE.out];exact hE1);have c7:w5.cell? ⟨b,7,none⟩=some (.int .i64 E1):=hs5.box.read.2.2.2.2;have HS5:=Lh hs5;have HT5:=Lh (HT2.out.trans ht5);have HB5:=Lh (HB2.out.trans hb5);have HP5:=Lh (ht5.prs HP2.out);have HQ5:=Lh (ht5.prs HQ2.out);have HX5:=Lh (ht5.blk HX2.out rfl);have HY5:=Lh (ht5.blk HY2.out rfl);clear hs5 ht5 hb5 hE1 HSE HS2 HT2 HB2 HP2 HQ2 HX2 HY2 HO2' HV
    by_cases hE:E1=0
    case neg =>
     have bE:(E1 != 0)=true:=by rw[bne_iff_ne];exact hE
     have HRE:Hid (RS=⟨si.ns,si.ats,si.cs,si.en,E1⟩):=Lh (by rw[HDR.out,HSE1.out,if_pos hE]);clear hE;go_wp2;refine yqJ rfl rfl ?_;exact⟨rfl,x5,by rw[HRE.out];exact HS5.out,HT5.out,HB5.out⟩
    subst hE;have HNX:Hid (yX (l.drop (i+1)) (dflt 3 n a pi) (ya9 (.mk 3 n r a bd) pi si)=RS):=Lh (by have h:=HDR.out;rw[HSE1.out,if_neg (by simp)] at h;exact h.symm);have HGR5:=Lh (HGR.out HSE1.out);have HGD5:=Lh (HGD.out HSE1.out);rw[yd2 he] at HS5;clear HDR HGR HGD HNE HK3;obtain⟨y0,y1⟩:=b2c HY5.out;have y3:=bc 3 HY5.out;have p2:=bc 2 HX5.out;have hdf:dflt 3 n a pi=(⟨pi.cl,pi.dn,yB pi.de a⟩:Pl):=by unfold dflt;rw[if_pos rfl,if_neg (by rw[HN3.out];decide)]
    rw[hdf] at HNX HGD5;rw[ylr] at HNX HRM HGR5;have hlx:pi.de.length<=20000:=Nat.le_trans HGPI.out.2.len (by decide);have ha20:a.length<=20000:=by omega
    have HA5:=Lh (HA0.out.keep (HO.out.trans HB5.out));clear hdf;go_wp2_with fail
    refine(yb9 _ _ pi.de a w5 (Lh HQ5.out.prs) HA5 hlx ha20 (Lh (ybG HQ5.out.prs)) (Lh (ybG HA0.out))).mono ?_;rintro e w6 ⟨v6,rfl,hp6,hb6⟩;obtain⟨mo,mc,rfl,_,_,_⟩:=id hp6.prs;have hx6:=ym HX5.out hb6;have z1:=bc 2 hx6;have zf:=yi hx6 2;have HX7:Hid (blk (w6.setCell ⟨w.heap.size,2,none⟩ (.slice mo (yB pi.de a).length mc)) w.heap.size 104 #[.int .i64 pi.cl,.slice do' pi.dn.length dc,.slice mo (yB pi.de a).length mc]):=Lh (yg hx6 _);have HS7:=Lh ((HS5.out.below hb6).far (o:=2) hx6 (by decide) (by decide) (by decide) (by decide) (by decide) (by decide) (.slice mo (yB pi.de a).length mc));have HT7:=Lh ((HT5.out.trans (TFr.below hb6)).setNew (o:=2) (Nat.le_refl _) (.slice mo (yB pi.de a).length mc));have HB7:Hid (Below w0.heap.size w (w6.setCell ⟨w.heap.size,2,none⟩ (.slice mo (yB pi.de a).length mc))):=Lh ((HB5.out.trans (hb6.mono HS5.out.base)).setCell hlow _);have HM7:=Lh (ycZ (o:=2) hp6 hx6 (by decide) (.slice mo (yB pi.de a).length mc));have HK7:=Lh (ycZ (o:=2) (HP5.out.keep hb6) hx6 (by decide) (.slice mo (yB pi.de a).length mc));clear hp6 hb6 hx6 y0 y1 y3 p2 c7 HS5 HT5 HB5 HP5 HQ5 HX5 HY5;go_wp2
    go_roundw
    case rel=>exact⟨i+1,si,x5,(⟨pi.cl,pi.dn,yB pi.de a⟩:Pl),_,_,by go_num,by omega,HS7.out,HT7.out,HB7.out,HK7.out,HM7.out,HX7.out,HNX.out,HRM.out,HO3.out,HGR5.out,HGD5.out⟩
    case measure=>simp[intOf];omega
  ·have HSE:Hid (stE 4 n a=yb1 4 [keyL n a]):=Lh ytP
   have hal2:=al1 wr (.cells #[.int .i64 4,.string (bb n),.slice ro r.length rc,.slice aa a.length ac,.slice bo bd.length bq] 67);have HS2:=Lh (HSI.out.below hal2);have HT2:Hid (TFr w (wr.alloc (.cells #[.int .i64 4,.string (bb n),.slice ro r.length rc,.slice aa a.length ac,.slice bo bd.length bq] 67))):=Lh (HTI.out.trans (TFr.below hal2));have HB2:Hid (Below w0.heap.size w (wr.alloc (.cells #[.int .i64 4,.string (bb n),.slice ro r.length rc,.slice aa a.length ac,.slice bo bd.length bq] 67))):=Lh (HBI.out.trans (hal2.mono HSI.out.base));have HP2:=Lh (HPI.out.keep hal2);have HQ2:=Lh (HQI.out.keep hal2);have HX2:=Lh (ym HXI.out hal2);have HY2:=Lh (yl wr #[.int .i64 4,.string (bb n),.slice ro r.length rc,.slice aa a.length ac,.slice bo bd.length bq] 67);have HO2':=Lh (HO.out.trans HB2.out);clear hal2 HSI HTI HBI HPI HQI HXI HOI;go_wp2_with fail
   obtain⟨G,hG⟩:∃ G,wr.heap.size=G:=⟨_,rfl⟩
   rw[hG] at HY2;simp only[hG];generalize wr.alloc (.cells #[.int .i64 4,.string (bb n),.slice ro r.length rc,.slice aa a.length ac,.slice bo bd.length bq] 67)=w2 at *;clear c0 c1 c2 c3 c4 hG c7;obtain⟨a0,at',rfl⟩:∃ a0 at',a=a0::at':=by cases a with | nil=>exact absurd rfl (HNE.out (by simp)) | cons q t=>exact⟨q,t,rfl⟩
   refine(ypT 4 (bb n) ro bo r.length rc bd.length bq _ a0 at' w2 (Lh (HA0.out.keep HO2'.out))).mono ?_;rintro e w3 ⟨rfl,hb3⟩;have hbnd:=ybG HA0.out a0 (List.mem_cons_self ..);have hpt:=yp6 w3 (n,a0.2) ⟨hnm,hbnd.2⟩;have hq3:=hb3.trans (show Below w2.heap.size w3 (w3.alloc (.cells #[.string (bb n),.string (bb a0.2)] 69)) from (al1 w3 _).mono hb3.size);have HPT:=Lh hpt;have HS2q:=Lh (HS2.out.below hq3);have HT2q:Hid (TFr w (w3.alloc (.cells #[.string (bb n),.string (bb a0.2)] 69))):=Lh (HT2.out.trans (TFr.below hq3));have HB2q:Hid (Below w0.heap.size w (w3.alloc (.cells #[.string (bb n),.string (bb a0.2)] 69))):=Lh (HB2.out.trans (hq3.mono HS2.out.base));have HP2q:=Lh (HP2.out.keep hq3);have HQ2q:=Lh (HQ2.out.keep hq3);have HX2q:=Lh (ym HX2.out hq3);have HY2q:=Lh (ym HY2.out hq3);have HV4:Hid (∀ q∈[((n,a0.2):Pr)],q.2.length<=20000):=Lh (fun q hq=>by rw[List.mem_singleton] at hq;subst hq;exact HV.out a0 (List.mem_cons_self ..));clear hbnd hpt hq3 hb3 HS2 HT2 HB2 HP2 HQ2 HX2 HY2;go_wp2_with fail
   generalize w3.alloc (.cells #[.string (bb n),.string (bb a0.2)] 69)=w4 at *;refine(ybz w0.heap.size b nm d si xi 4 _ [(n,a0.2)] w4 HS2q he (Lh (ypW HPT.out)) HV4).mono ?_;rintro e w5 ⟨rfl,x5,hs5,ht5,hb5⟩;obtain⟨E1,hE1⟩:∃ E1,yb1 4 [(n,a0.2)]=E1:=⟨_,rfl⟩
   rw[hE1] at hs5;have HSE1:Hid (stE 4 n (a0::at')=E1):=Lh (by rw[HSE.out];exact hE1);have c7:w5.cell? ⟨b,7,none⟩=some (.int .i64 E1):=hs5.box.read.2.2.2.2;have HS5:=Lh hs5;have HT5:=Lh (HT2q.out.trans ht5);have HB5:=Lh (HB2q.out.trans hb5);have HP5:=Lh (ht5.prs HP2q.out);have HQ5:=Lh (ht5.prs HQ2q.out);have HX5:=Lh (ht5.blk HX2q.out rfl);have HY5:=Lh (ht5.blk HY2q.out rfl);clear hs5 ht5 hb5 hE1 HSE HS2q HT2q HB2q HP2q HQ2q HX2q HY2q HO2' HV
   by_cases hE:E1=0
   case neg =>
    have bE:(E1 != 0)=true:=by rw[bne_iff_ne];exact hE
    have HRE:Hid (RS=⟨si.ns,si.ats,si.cs,si.en,E1⟩):=Lh (by rw[HDR.out,HSE1.out,if_pos hE]);clear hE;go_wp2;refine yqJ rfl rfl ?_;exact⟨rfl,x5,by rw[HRE.out];exact HS5.out,HT5.out,HB5.out⟩
   subst hE;have HNX:Hid (yX (l.drop (i+1)) (dflt 4 n (a0::at') pi) (ya9 (.mk 4 n r (a0::at') bd) pi si)=RS):=Lh (by have h:=HDR.out;rw[HSE1.out,if_neg (by simp)] at h;exact h.symm);have HGR5:=Lh (HGR.out HSE1.out);have HGD5:=Lh (HGD.out HSE1.out);rw[yd2 he] at HS5;clear HDR HGR HGD HNE HK3;have y0:=bc 0 HY5.out;rw[yjs,ybD (by decide)] at HNX;rw[yjs] at HRM HGR5;rw[ybD (by decide)] at HGD5;go_wp2
   go_roundw
   case rel=>exact⟨i+1,si,x5,pi,_,_,by go_num,by omega,HS5.out,HT5.out,HB5.out,HP5.out,HQ5.out,HX5.out,HNX.out,HRM.out,HO3.out,HGR5.out,HGD5.out⟩
   case measure=>simp[intOf];omega
  ·have HSE:Hid (stE 5 n a=yb1 1 a):=Lh (ynr (by decide) (fun q=>q.elim (fun e=>absurd e (by decide)) (fun e=>absurd e.1 (by decide))))
   have hal2:=al1 wr (.cells #[.int .i64 5,.string (bb n),.slice ro r.length rc,.slice aa a.length ac,.slice bo bd.length bq] 67);have HS2:=Lh (HSI.out.below hal2);have HT2:Hid (TFr w (wr.alloc (.cells #[.int .i64 5,.string (bb n),.slice ro r.length rc,.slice aa a.length ac,.slice bo bd.length bq] 67))):=Lh (HTI.out.trans (TFr.below hal2));have HB2:Hid (Below w0.heap.size w (wr.alloc (.cells #[.int .i64 5,.string (bb n),.slice ro r.length rc,.slice aa a.length ac,.slice bo bd.length bq] 67))):=Lh (HBI.out.trans (hal2.mono HSI.out.base));have HP2:=Lh (HPI.out.keep hal2);have HQ2:=Lh (HQI.out.keep hal2);have HX2:=Lh (ym HXI.out hal2);have HY2:=Lh (yl wr #[.int .i64 5,.string (bb n),.slice ro r.length rc,.slice aa a.length ac,.slice bo bd.length bq] 67);have HO2':=Lh (HO.out.trans HB2.out);clear hal2 HSI HTI HBI HPI HQI HXI HOI;go_wp2_with fail
   obtain⟨G,hG⟩:∃ G,wr.heap.size=G:=⟨_,rfl⟩
   rw[hG] at HY2;simp only[hG];generalize wr.alloc (.cells #[.int .i64 5,.string (bb n),.slice ro r.length rc,.slice aa a.length ac,.slice bo bd.length bq] 67)=w2 at *;clear c0 c1 c2 c3 c4 hG c7;refine(ybz w0.heap.size b nm d si xi 1 _ a w2 HS2 he (Lh (ycq HA0.out HO2'.out)) HV).mono ?_;rintro e w5 ⟨rfl,x5,hs5,ht5,hb5⟩;obtain⟨E1,hE1⟩:∃ E1,yb1 1 a=E1:=⟨_,rfl⟩
   rw[hE1] at hs5;have HSE1:Hid (stE 5 n a=E1):=Lh (by rw[HSE.out];exact hE1);have c7:w5.cell? ⟨b,7,none⟩=some (.int .i64 E1):=hs5.box.read.2.2.2.2;have HS5:=Lh hs5;have HT5:=Lh (HT2.out.trans ht5);have HB5:=Lh (HB2.out.trans hb5);have HP5:=Lh (ht5.prs HP2.out);have HQ5:=Lh (ht5.prs HQ2.out);have HX5:=Lh (ht5.blk HX2.out rfl);have HY5:=Lh (ht5.blk HY2.out rfl);clear hs5 ht5 hb5 hE1 HSE HS2 HT2 HB2 HP2 HQ2 HX2 HY2 HO2' HV
   by_cases hE:E1=0
   case neg =>
    have bE:(E1 != 0)=true:=by rw[bne_iff_ne];exact hE
    have HRE:Hid (RS=⟨si.ns,si.ats,si.cs,si.en,E1⟩):=Lh (by rw[HDR.out,HSE1.out,if_pos hE]);clear hE;go_wp2;refine yqJ rfl rfl ?_;exact⟨rfl,x5,by rw[HRE.out];exact HS5.out,HT5.out,HB5.out⟩
   subst hE;have HNX:Hid (yX (l.drop (i+1)) (dflt 5 n a pi) (ya9 (.mk 5 n r a bd) pi si)=RS):=Lh (by have h:=HDR.out;rw[HSE1.out,if_neg (by simp)] at h;exact h.symm);have HGR5:=Lh (HGR.out HSE1.out);have HGD5:=Lh (HGD.out HSE1.out);rw[yd2 he] at HS5;clear HDR HGR HGD HNE HK3;obtain⟨y0,y1,y2⟩:=b3c HY5.out;have y4:=bc 4 HY5.out;have y3:=bc 3 HY5.out;obtain⟨p0,p1,p2⟩:=b3c HX5.out;have HE5:Hid ((if yaw si.cs n=true\/0<=yG si.ns n 0 then ⟨si.ns,si.ats,si.cs,si.en,6⟩ else yX bd ⟨si.cs.length,pi.dn,pi.de⟩ ⟨si.ns,si.ats,si.cs++[(n,pi.cl)],si.en,si.e⟩)=ya9 (.mk 5 n r a bd) pi si):=Lh (by rw[yjt]);obtain⟨S7,hS7⟩:∃ S7,ya9 (.mk 5 n r a bd) pi si=S7:=⟨_,rfl⟩
   rw[hS7] at HE5 HNX HRM HGR5;rw[ybD (by decide)] at HNX HGD5;clear hS7;go_wp2_with fail
   refine(ydY w0 b nm d si x5 5 n ro aa r.length rc a.length ac _ bd pi _ _ S7 w5 HIH HS5 (Lh (HO.out.trans HB5.out)) (Lh he) HP5 HQ5 HB0 HO2 (Lh (HRI.out.le (by omega))) HGAI HGPI HE5).mono ?_;rintro e w7 ⟨rfl,x7,hs7,ht7,hb7⟩;have HS7:=Lh hs7;have HT7:=Lh (HT5.out.trans ht7);have HB7:=Lh (HB5.out.trans hb7);have HP7:=Lh (ht7.prs HP5.out);have HQ7:=Lh (ht7.prs HQ5.out);have HX7:=Lh (ht7.blk HX5.out rfl);clear hs7 ht7 hb7 y0 y1 y2 y3 y4 p0 p1 p2 c7 HS5 HT5 HB5 HP5 HQ5 HX5 HY5;go_wp2
   go_roundw
   case rel=>exact⟨i+1,_,x7,pi,_,_,by go_num,by omega,HS7.out,HT7.out,HB7.out,HP7.out,HQ7.out,HX7.out,HNX.out,HRM.out,HO3.out,HGR5.out,HGD5.out⟩
   case measure=>simp[intOf];omega
theorem ysu (l:List St):BlkR l:=ydR yns l
end Go.Proofs.YtgmidodmmlmmeaaGreatDoor.nor
