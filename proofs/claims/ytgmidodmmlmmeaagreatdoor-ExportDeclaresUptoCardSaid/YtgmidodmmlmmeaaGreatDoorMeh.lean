/-
  Contracts and plain facts of the layers below; conditions as each theorem states them.
-/
import Derived.Test.YtgmidodmmlmmeaaGreatDoorMeg
import Derived.Test.YtgmidodmmlmmeaaGreatDoorMng
import Derived.Test.YtgmidodmmlmmeaaGreatDoorCards
import Derived.Test.YtgmidodmmlmmeaaGreatDoorTie
import Derived.Deep.DeepHandedRow
import Derived.LaidMore
import Derived.Lay
set_option maxHeartbeats 32000000
set_option maxRecDepth 100000
namespace Go.Proofs.YtgmidodmmlmmeaaGreatDoor.xpt
open Go.RowKit lex tre att nor prt _root_.Go.Proofs.Tryz
theorem yje {T:Tr}{g:gra.Gr}(hb:yb2 T=(g,0)):yab T=0/\gra.validE g=0:=by
 unfold yb2 at hb
 split at hb
 ·rename_i h;exact absurd (Prod.mk.inj hb).2 h
 rename_i h0
 refine⟨by simpa using h0,?_⟩
 split at hb
 ·rename_i h;exact absurd (Prod.mk.inj hb).2 h
 split at hb
 ·exact absurd (Prod.mk.inj hb).2 (by decide)
 split at hb
 ·rename_i h;exact absurd (Prod.mk.inj hb).2 h
 rename_i h
 rw[<- (Prod.mk.inj hb).1]
 simpa using h
theorem yqd {g:gra.Gr}{k:Nat}(hv:gra.validE g=0)(hk:k<g.cs.length):gra.memV g (k:Int)=[]↔gra.mems g k=[]:=by
 unfold gra.memV;rw[if_neg (by rw[hv];omega)]
 show (gra.mems g k).map (fun v:Nat=>(v:Int))=[]↔_
 exact List.map_eq_nil_iff
def DcA (a:Act)(gb tb:Nat)(F:Int):Prop:=a=⟨#[a.tmps.getD 0 undef,a.tmps.getD 1 undef,a.tmps.getD 2 undef,a.tmps.getD 3 undef,a.tmps.getD 4 undef,.pointer (some ⟨gb,0,none⟩),a.tmps.getD 6 undef,a.tmps.getD 7 undef,.pointer (some ⟨tb,0,none⟩),.int .i64 F,a.tmps.getD 10 undef,a.tmps.getD 11 undef,a.tmps.getD 12 undef,a.tmps.getD 13 undef,a.tmps.getD 14 undef,a.tmps.getD 15 undef,a.tmps.getD 16 undef,a.tmps.getD 17 undef,a.tmps.getD 18 undef,a.tmps.getD 19 undef,a.tmps.getD 20 undef,a.tmps.getD 21 undef,a.tmps.getD 22 undef,a.tmps.getD 23 undef,a.tmps.getD 24 undef,a.tmps.getD 25 undef,a.tmps.getD 26 undef,a.tmps.getD 27 undef,a.tmps.getD 28 undef,a.tmps.getD 29 undef,a.tmps.getD 30 undef,a.tmps.getD 31 undef,a.tmps.getD 32 undef,a.tmps.getD 33 undef,a.tmps.getD 34 undef,a.tmps.getD 35 undef,a.tmps.getD 36 undef,a.tmps.getD 37 undef,a.tmps.getD 38 undef,a.tmps.getD 39 undef,a.tmps.getD 40 undef,a.tmps.getD 41 undef,a.tmps.getD 42 undef,a.tmps.getD 43 undef,a.tmps.getD 44 undef,a.tmps.getD 45 undef,a.tmps.getD 46 undef,a.tmps.getD 47 undef,a.tmps.getD 48 undef,a.tmps.getD 49 undef,a.tmps.getD 50 undef,a.tmps.getD 51 undef,a.tmps.getD 52 undef,a.tmps.getD 53 undef,a.tmps.getD 54 undef,a.tmps.getD 55 undef,a.tmps.getD 56 undef,a.tmps.getD 57 undef,a.tmps.getD 58 undef,a.tmps.getD 59 undef,a.tmps.getD 60 undef,a.tmps.getD 61 undef,a.tmps.getD 62 undef,a.tmps.getD 63 undef,a.tmps.getD 64 undef,a.tmps.getD 65 undef,a.tmps.getD 66 undef,a.tmps.getD 67 undef,a.tmps.getD 68 undef,a.tmps.getD 69 undef,a.tmps.getD 70 undef,a.tmps.getD 71 undef,a.tmps.getD 72 undef,a.tmps.getD 73 undef,a.tmps.getD 74 undef,a.tmps.getD 75 undef,a.tmps.getD 76 undef,a.tmps.getD 77 undef,a.tmps.getD 78 undef,a.tmps.getD 79 undef],[]⟩
theorem DcA.use {a:Act}{gb tb:Nat}{F:Int}(h:DcA a gb tb F):∃ f:Nat->Value,a=⟨#[f 0,f 1,f 2,f 3,f 4,.pointer (some ⟨gb,0,none⟩),f 6,f 7,.pointer (some ⟨tb,0,none⟩),.int .i64 F,f 10,f 11,f 12,f 13,f 14,f 15,f 16,f 17,f 18,f 19,f 20,f 21,f 22,f 23,f 24,f 25,f 26,f 27,f 28,f 29,f 30,f 31,f 32,f 33,f 34,f 35,f 36,f 37,f 38,f 39,f 40,f 41,f 42,f 43,f 44,f 45,f 46,f 47,f 48,f 49,f 50,f 51,f 52,f 53,f 54,f 55,f 56,f 57,f 58,f 59,f 60,f 61,f 62,f 63,f 64,f 65,f 66,f 67,f 68,f 69,f 70,f 71,f 72,f 73,f 74,f 75,f 76,f 77,f 78,f 79],[]⟩:=⟨fun i=>a.tmps.getD i undef,h⟩
structure DcI (w:World)(n0 gb tb:Nat)(gv:Value)(arr:Array Value)(G:gra.Gr)(U:Tr)(W:World):Prop where
 bw:Below n0 w W
 lt:n0<=tb
 gx:blk W gb 26 arr
 gr:gra.GrV W gv G
 tx:∃ UN UD un ao ac,UN=bb U.name/\UD=U.dir/\un=U.body.length/\blk W tb 33 #[.string UN,.bool UD,.slice ao un ac]/\TrV W (.agg #[.string UN,.bool UD,.slice ao un ac]) U
def DcM (w:World)(n0 gb:Nat)(gv:Value)(arr:Array Value)(G:gra.Gr)(U:Tr)(F:Int)(a:Act)(W:World):Prop:=∃ tb,DcA a gb tb F/\DcI w n0 gb tb gv arr G U W
theorem DcM.box (w:World)(n0 gb:Nat)(gv:Value)(arr:Array Value)(G:gra.Gr)(U:Tr)(F:Int):∃ M:Act->World->Prop,Hid (∀ a W,M a W↔DcM w n0 gb gv arr G U F a W):=⟨DcM w n0 gb gv arr G U F,Lh fun _ _=>Iff.rfl⟩
theorem ynC (T:Tr)(v:Value)(w:World)(h:Hid (TrV w v T))(hc:cnt T.body<=2000000)(hrf:Hid (yab T=0->wl T.body<=2900000))(htb:Hid (Tab w)) :
    Calls Tryz.prog 7 #[v] w fun e w'=>e=.returned (.bool true)/\Below w.heap.size w w':=by
 have hmx:Tryz.prog.follows .mixedOrders=true:=by kernel_rfl
 obtain⟨bv,rfl,hnm,hs⟩:=id h.out;obtain⟨bo,bq,rfl,-,-,-⟩:=id hs;obtain⟨TN,hTN⟩:∃ X,bb T.name=X:=⟨_,rfl⟩
 obtain⟨TD,hTD⟩:∃ X,T.dir=X:=⟨_,rfl⟩
 obtain⟨n,hn⟩:∃ X,T.body.length=X:=⟨_,rfl⟩
 have ht0:=h.out;rw[hTN,hTD,hn] at ht0;rw[hn] at hs;rw[hTN,hTD,hn];have HT0:=Lh ht0;have HS0:=Lh hs;clear h hnm hs ht0 hTN hTD hn;have HB1:=Lh (al1 w (.cells #[.string TN,.bool TD,.slice bo n bq] 33));have HX1:=Lh (yl w #[.string TN,.bool TD,.slice bo n bq] 33);go_enter func7,ntmps7;obtain⟨R,hR⟩:∃ R,yab T=R:=⟨_,rfl⟩
 have HR:=Lh hR;clear hR;obtain⟨n0,hn0⟩:∃ n0,w.heap.size=n0:=⟨_,rfl⟩
 rw[hn0] at HX1;have HN0:=Lh hn0;have BW:∀ {W:World},Below n0 w W->Below w.heap.size w W:=fun h=>by rw[HN0.out];exact h
 obtain⟨x0,x1,x2⟩:=b3c HX1.out;go_wp2_with fail
 try simp only[hn0]
 generalize w.alloc (.cells #[.string TN,.bool TD,.slice bo n bq] 33)=w1 at HB1 HX1 x0 x1 x2 |-;rw[hn0] at HB1;clear hn0 x0 x1 x2;have HT1:Hid (TrV w1 (.agg #[.string TN,.bool TD,.slice bo n bq]) T):=Lh (HT0.out.keep (BW HB1.out));refine(yfo _ T R w1 HT1 (by omega) HR).mono ?_;rintro e w2 ⟨rfl,hb2⟩;have HB2:=Lh (HB1.out.trans (hb2.mono (by have:=HB1.out.size;have:=HN0.out;omega)));have HX2:=Lh (yj hb2 HX1.out);have HT2:=Lh (HT1.out.keep hb2);clear hb2 HB1 HX1 HT1
 by_cases hz:R=0
 case neg =>
  have z0:(R != 0)=true:=by rw[bne_iff_ne];exact hz
  clear hz;go_wp2_with fail
  refine(ycp w2 (Lh (yt htb.out (BW HB2.out)))).mono ?_;rintro e wZ ⟨rfl,hbz⟩;have HBZ:=Lh (HB2.out.trans (hbz.mono (by have:=HB2.out.size;have:=HN0.out;omega)));clear hbz;go_wp2;go_ret;exact⟨rfl,BW HBZ.out⟩
 subst hz;have hv:=(yaO T).1 HR.out;have hc6:cnt T.body<=600:=by have:=hv.2.1;omega
 obtain⟨cT,hcT⟩:∃ c,cnt T.body=c:=⟨_,rfl⟩
 clear hv;obtain⟨x0,x1,x2⟩:=b3c HX2.out;go_wp2_with fail
 clear x0 x1 x2;refine(ymc _ T w2 HT2 hc6).mono ?_;rintro e w3 ⟨rfl,hb3⟩;rw[hcT];have HB3:=Lh (HB2.out.trans (hb3.mono (by have:=HB2.out.size;have:=HN0.out;omega)));have HX3:=Lh (yj hb3 HX2.out);have HT3:=Lh (HT2.out.keep hb3);clear hb3 HB2 HX2 HT2
 by_cases hbig:(80:Int)<(cT:Int)
 case pos =>
  have z0:decide ((80:Int)<(cT:Int))=true:=decide_eq_true hbig;clear hbig;go_wp2_with fail
  refine(ycp w3 (Lh (yt htb.out (BW HB3.out)))).mono ?_;rintro e wZ ⟨rfl,hbz⟩;have HBZ:=Lh (HB3.out.trans (hbz.mono (by have:=HB3.out.size;have:=HN0.out;omega)));clear hbz;go_wp2;go_ret;exact⟨rfl,BW HBZ.out⟩
 have z0:decide ((80:Int)<(cT:Int))=false:=decide_eq_false hbig;have hcl:([]:List Nm).length+cnt T.body<=900000:=by rw[List.length_nil];omega
 clear hbig;obtain⟨D,b,hD⟩:∃ D b,ycs T.body []=(D,b):=⟨_,_,rfl⟩
 have HS3:Hid (Sts w3 (.slice bo n bq) T.body):=Lh (HS0.out.keep (BW HB3.out));obtain⟨x0,x1,x2⟩:=b3c HX3.out;go_wp2_with fail
 clear x0 x1 x2 z0;refine(dc_ok T.body w3 w3 _ _ [] D b (Below.refl _ _) HS3.out (World.ownsRow_nil _ _ _ _) hcl hD).mono ?_;rintro e w4 ⟨nv4,rfl,-,hb4⟩;have HD:=Lh hD;have HB4:=Lh (HB3.out.trans (hb4.mono (by have:=HB3.out.size;have:=HN0.out;omega)));have HX4:=Lh (yj hb4 HX3.out);have HT4:=Lh (HT3.out.keep hb4);clear hb4 HB3 HX3 HT3 HS3 hD hcl;obtain⟨G,E,hGE⟩:∃ G E,yb2 T=(G,E):=⟨_,_,rfl⟩
 have HG:=Lh hGE;clear hGE;obtain⟨x0,x1,x2⟩:=b3c HX4.out;go_wp2_with fail
 clear x0 x1 x2;refine(ygy _ T G E w4 HT4 (by omega) hrf HG).mono ?_;rintro e w5 ⟨gv,rfl,hgv,hb5⟩;obtain⟨nv,ev,cv,rfl,-,hns,hes,hcs⟩:=id hgv;obtain⟨no,nc,rfl,-,-,-⟩:=id hns;obtain⟨eo,ec,rfl,-,-,-⟩:=id hes;obtain⟨co,cc,rfl,-,-,-⟩:=id hcs;clear hns hes hcs;obtain⟨Gn,hGn⟩:∃ X,gra.bb G.nm=X:=⟨_,rfl⟩
 rw[hGn] at hgv |-;have HGn:=Lh hGn;have b5:=al1 w5 (.cells #[.string Gn,.bool G.dir,.slice no G.ns.length nc,.slice eo G.es.length ec,.slice co G.cs.length cc] 26);have q5:=ya b5 hb5;have HB5:=Lh (HB4.out.trans (q5.mono (by have:=HB4.out.size;have:=HN0.out;omega)));have HV5:=Lh (hgv.keep b5);have HY5:=Lh (yl w5 #[.string Gn,.bool G.dir,.slice no G.ns.length nc,.slice eo G.es.length ec,.slice co G.cs.length cc] 26);have HLT:Hid (n0<=w5.heap.size):=Lh (by have:=HB4.out.size;have:=hb5.size;have:=HN0.out;omega);clear hgv hb5 b5 q5 HT4 HX4 hGn HB4;cases b
 case false =>
  go_wp2_with fail
  generalize w5.alloc (.cells #[.string Gn,.bool G.dir,.slice no G.ns.length nc,.slice eo G.es.length ec,.slice co G.cs.length cc] 26)=w6 at HB5 HV5 HY5 |-;refine(ycp w6 (Lh (yt htb.out (BW HB5.out)))).mono ?_;rintro e wZ ⟨rfl,hbz⟩;have HBZ:=Lh (HB5.out.trans (hbz.mono (by have:=HB5.out.size;have:=HN0.out;omega)));clear hbz;go_wp2;go_ret;exact⟨rfl,BW HBZ.out⟩
 by_cases hz:E=0
 case neg =>
  have z0:(E != 0)=true:=by rw[bne_iff_ne];exact hz
  clear hz;go_wp2_with fail
  generalize w5.alloc (.cells #[.string Gn,.bool G.dir,.slice no G.ns.length nc,.slice eo G.es.length ec,.slice co G.cs.length cc] 26)=w6 at HB5 HV5 HY5 |-;refine(ycp w6 (Lh (yt htb.out (BW HB5.out)))).mono ?_;rintro e wZ ⟨rfl,hbz⟩;have HBZ:=Lh (HB5.out.trans (hbz.mono (by have:=HB5.out.size;have:=HN0.out;omega)));clear hbz;go_wp2;go_ret;exact⟨rfl,BW HBZ.out⟩
 subst hz;have HV:=yje HG.out;have hcsl:G.cs.length<=16:=(ykK HV.2).cl;obtain⟨gb,hgb⟩:∃ t,w5.heap.size=t:=⟨_,rfl⟩
 rw[hgb] at HY5 HLT;go_wp2_with fail
 try simp only[hgb]
 generalize w5.alloc (.cells #[.string Gn,.bool G.dir,.slice no G.ns.length nc,.slice eo G.es.length ec,.slice co G.cs.length cc] 26)=w6 at HB5 HV5 HY5 |-;clear hgb
 go_loopw [7] (fun iv wr=>∃ i:Nat,iv=.int .i64 i/\i<=G.cs.length/\(∀ k,k<i->gra.mems G k≠[])/\Below w6.heap.size w6 wr) (fun iv _=>G.cs.length-(intOf iv).toNat)
 case atStart=>exact⟨0,rfl,Nat.zero_le _,fun k hk=>absurd hk (by omega),Below.refl _ _⟩
 case round =>
 obtain⟨i,rfl,hi,hmem,hbr⟩:=hrel
 rename World=>wr
 have HMEM:=Lh hmem;have HBr:=Lh (HB5.out.trans (hbr.mono (by have:=HB5.out.size;have:=HN0.out;omega)));have HVr:=Lh (HV5.out.keep hbr);have HYr:=Lh (yj hbr HY5.out);have HBs:=Lh hbr;clear hmem hbr;obtain⟨c0,c1,c2,c3,c4⟩:=b5c HYr.out
 by_cases hlt:i<G.cs.length
 case pos =>
  have HMV:=yqd HV.2 hlt;obtain⟨M,hM⟩:∃ M,gra.memV G (i:Int)=M:=⟨_,rfl⟩
  rw[hM] at HMV;have i0:(i:Int)<(G.cs.length:Int):=by omega
  have i1:decide ((i:Int)<(G.cs.length:Int))=true:=decide_eq_true i0;go_wp2_with fail
  clear c0 c1 c2 c3 c4 i0 i1;refine(gra.gMembers_of _ G i M wr HVr (Lh hM)).mono ?_;rintro e w7 ⟨mv,rfl,hmv,hb7⟩;obtain⟨mo,mc,rfl,-⟩:=id hmv;obtain⟨ml,hml⟩:∃ m,M.length=m:=⟨_,rfl⟩
  rw[hml];have HB7:=Lh (HBr.out.trans (hb7.mono (by have:=HBr.out.size;have:=HN0.out;omega)));have HBt:=Lh (ya hb7 HBs.out);clear hmv hb7
  by_cases hz:ml=0
  case pos =>
   subst hz;clear hml HMV hM;go_wp2_with fail
   refine(ycp w7 (Lh (yt htb.out (BW HB7.out)))).mono ?_;rintro e wZ ⟨rfl,hbz⟩;have HBZ:=Lh (HB7.out.trans (hbz.mono (by have:=HB7.out.size;have:=HN0.out;omega)));clear hbz;go_wp2;go_ret;exact⟨rfl,BW HBZ.out⟩
  have z0:((ml:Int)==0)=false:=by rw[beq_eq_false_iff_ne];omega
  have HN:Hid (∀ k,k<i+1->gra.mems G k≠[]):=Lh (fun k hk=>by
   by_cases e:k=i
   ·subst e;exact fun q=>hz (by rw[<- hml,HMV.2 q];rfl)
   ·exact HMEM.out k (by omega))
  clear hml HMV hM hz;go_wp2
  go_roundw
  case rel=>exact⟨i+1,by go_num,by omega,HN.out,HBt.out⟩
  case measure=>simp[intOf];omega
 obtain rfl:i=G.cs.length:=by omega
 have i1:decide ((G.cs.length:Int)<(G.cs.length:Int))=false:=decide_eq_false (by omega);have HDW:=yee (o:=yfP) HG.out (by rw[HD.out]) HMEM.out (by decide);obtain⟨U,F,hUF⟩:∃ U F,ybK G yfP=(U,F):=⟨_,_,rfl⟩
 have HF:Hid (F=2\/F=0):=Lh (by rw[hUF] at HDW;rcases HDW with q | q <;> simp[(Prod.mk.inj q).2]);have HUF:=Lh hUF;obtain⟨UN,hUN⟩:∃ X,bb U.name=X:=⟨_,rfl⟩
 obtain⟨UD,hUD⟩:∃ X,U.dir=X:=⟨_,rfl⟩
 obtain⟨un,hun⟩:∃ X,U.body.length=X:=⟨_,rfl⟩
 have HUE:Hid (UN=bb U.name/\UD=U.dir/\un=U.body.length):=Lh ⟨hUN.symm,hUD.symm,hun.symm⟩;clear HDW hUF hUN hUD hun hcsl;go_wp2_with fail
 obtain⟨Mq,HMq⟩:=DcM.box w n0 gb (.agg #[.string Gn,.bool G.dir,.slice no G.ns.length nc,.slice eo G.es.length ec,.slice co G.cs.length cc]) #[.string Gn,.bool G.dir,.slice no G.ns.length nc,.slice eo G.es.length ec,.slice co G.cs.length cc] G U F;refine yem Mq ?_ ?_
 ·
  refine ycH (fun W:World=>W.cell? ⟨gb,0,none⟩=some (.string Gn)/\W.cell? ⟨gb,1,none⟩=some (.bool G.dir)/\W.cell? ⟨gb,2,none⟩=some (.slice no G.ns.length nc)/\W.cell? ⟨gb,3,none⟩=some (.slice eo G.es.length ec)/\W.cell? ⟨gb,4,none⟩=some (.slice co G.cs.length cc)) 8 (by kernel_rfl) ⟨yf (c0),yf (c1),yf (c2),yf (c3),yf (c4)⟩ (fun hHeld=>?_);have hb:=yat wr;replace hHeld:((fun W:World=>W.cell? ⟨gb,0,none⟩=some (.string Gn)/\W.cell? ⟨gb,1,none⟩=some (.bool G.dir)/\W.cell? ⟨gb,2,none⟩=some (.slice no G.ns.length nc)/\W.cell? ⟨gb,3,none⟩=some (.slice eo G.es.length ec)/\W.cell? ⟨gb,4,none⟩=some (.slice co G.cs.length cc))) wr.drew:=hHeld;generalize wr.drew=y0 at hHeld hb |-;refine ton 0 53 (.agg #[.string Gn,.bool G.dir,.slice no G.ns.length nc,.slice eo G.es.length ec,.slice co G.cs.length cc]) ?_
  try simp only[sA,sB,sC]
  clear c0 c1 c2 c3 c4;have hz4:=yP HYr.out;refine ynZ (i:=1) (j:=6) (by kernel_rfl) rfl rfl (fun K hK=>?_) (fun K hK=>?_)
  ·
   have hlc:wr.heap.size<=y0.heap.size:=hb.size;go_simp;refine(ycb y0).mono ?_;rintro e v1 ⟨rfl,hb'⟩;refine hK.out _ _ (fun _=>(by have k:=hHeld;repeat first | exact yb hb' k | (refine⟨yb hb' k.1,?_⟩;replace k:=k.2))) (fun hHeld=>?_);replace hHeld:=hHeld (by decide);clear hK K
   try simp only[sA,sB,sC]
   replace hb:=ya hb' hb;clear hb' hlc;refine ynZ (i:=2) (j:=6) (by kernel_rfl) rfl rfl (fun K hK=>?_) (fun K hK=>?_)
   ·
    have hlc:wr.heap.size<=v1.heap.size:=hb.size;go_simp;refine(ybQ G yfP (.agg #[.string Gn,.bool G.dir,.slice no G.ns.length nc,.slice eo G.es.length ec,.slice co G.cs.length cc]) U F v1 (Lh (HVr.out.keep hb)) (Lh (yt htb.out (BW (HBr.out.trans (hb.mono (by have:=HBr.out.size;have:=HN0.out;omega)))))) HUF).mono ?_;rintro e v2 ⟨tv,rfl,htv,hb'⟩;obtain⟨bv,rfl,-,hst⟩:=id htv;obtain⟨ao,ac,rfl,-⟩:=id hst;clear hst;rw[<- HUE.out.1,<- HUE.out.2.1,<- HUE.out.2.2] at htv;rw[<- HUE.out.1,<- HUE.out.2.1,<- HUE.out.2.2];refine hK.out _ _ (fun _=>(by have k:=hHeld;repeat first | exact yb hb' k | (refine⟨yb hb' k.1,?_⟩;replace k:=k.2))) (fun hHeld=>?_);replace hHeld:=hHeld (by decide);clear hK K
    try simp only[sA,sB,sC]
    replace hb:=ya hb' hb;clear hb' hlc;refine ton 3 52 (.tuple #[(.agg #[.string UN,.bool UD,.slice ao un ac]),.int .i64 F]) ?_;refine ton 4 56 (.agg #[.string UN,.bool UD,.slice ao un ac]) ?_;refine ton 5 57 (.int .i64 F) ?_
    try simp only[sA,sB,sC]
    refine tgo (i:=6) (by kernel_rfl) rfl (fun K hK=>?_);have hs:=yl v2 #[.string ⟨#[]⟩,.bool false,.slice none 0 0] 33;have hb':=al1 v2 (.cells #[.string ⟨#[]⟩,.bool false,.slice none 0 0] 33);go_simp;refine hK.out _ _ (fun _=>(by have k:=hHeld;repeat first | exact yh k | (refine⟨yh k.1,?_⟩;replace k:=k.2))) (fun hHeld=>?_);replace hHeld:=hHeld (by decide);clear hK K
    try simp only[sA,sB,sC]
    replace htv:=htv.keep hb';have hls:wr.heap.size<=v2.heap.size:=hb.size;obtain⟨tb,hss⟩:∃ s,v2.heap.size=s:=⟨_,rfl⟩
    rw[hss] at hs hls;simp only[hss];replace hb:=ya hb' hb;generalize v2.alloc (.cells #[.string ⟨#[]⟩,.bool false,.slice none 0 0] 33)=z2 at hs hb hHeld htv |-;clear hb' hss;have f0:z2.frozen? ⟨tb,0,none⟩=false:=yk hs;have e0:=bc 0 hs;have f1:z2.frozen? ⟨tb,1,none⟩=false:=yk hs;have e1:=bc 1 hs;have f2:z2.frozen? ⟨tb,2,none⟩=false:=yk hs;have e2:=bc 2 hs;refine tgo (i:=7) (by kernel_rfl) rfl (fun K hK=>?_);go_simp;refine hK.out _ _ (fun _=>(by have k:=hHeld;repeat first | exact yC (by simp only;omega) (yC (by simp only;omega) (yC (by simp only;omega) k)) | (refine⟨yC (by simp only;omega) (yC (by simp only;omega) (yC (by simp only;omega) k.1)),?_⟩;replace k:=k.2))) (fun hHeld=>?_);replace hHeld:=hHeld (by decide);clear hK K
    try simp only[sA,sB,sC]
    have hI:DcI w n0 gb tb (.agg #[.string Gn,.bool G.dir,.slice no G.ns.length nc,.slice eo G.es.length ec,.slice co G.cs.length cc]) #[.string Gn,.bool G.dir,.slice no G.ns.length nc,.slice eo G.es.length ec,.slice co G.cs.length cc] G U (((z2.setCell ⟨tb,0,none⟩ (.string UN)).setCell ⟨tb,1,none⟩ (.bool UD)).setCell ⟨tb,2,none⟩ (.slice ao un ac)):=by
     have hwz:n0<=wr.heap.size:=by have:=HBr.out.size;have:=HN0.out;omega
     have hbt:=HBr.out.trans (hb.mono hwz);have hbs:Below wr.heap.size wr (((z2.setCell ⟨tb,0,none⟩ (.string UN)).setCell ⟨tb,1,none⟩ (.bool UD)).setCell ⟨tb,2,none⟩ (.slice ao un ac)):=yA hb (by omega) _ _ _;obtain⟨bv,hbv,hnl,hst⟩:=htv;obtain rfl:bv=.slice ao un ac:=by simp only[Value.agg.injEq,Array.mk.injEq,List.cons.injEq] at hbv;exact hbv.2.2.1.symm
     exact⟨yA hbt (by omega) _ _ _,by omega,yj hbs HYr.out,HVr.out.keep hbs,UN,UD,un,ao,ac,HUE.out.1,HUE.out.2.1,HUE.out.2.2,yag hs _ _ _,⟨_,hbv,hnl,ybj hst hs (yk3 _ _ _)⟩⟩
    refine tgo (i:=8) (by kernel_rfl) rfl (fun K hK=>?_);go_simp;refine hK.out _ _ (fun h=>absurd rfl h) (fun hHeld=>?_);clear hK K hHeld
    try simp only[sA,sB,sC]
    refine yb3 (by kernel_rfl) ?_ _;exact⟨rfl,(HMq.out _ _).2 ⟨tb,rfl,hI⟩⟩
   ·
    have hs:=yl v1 #[.string ⟨#[]⟩,.bool false,.slice none 0 0] 33;have hb':=al1 v1 (.cells #[.string ⟨#[]⟩,.bool false,.slice none 0 0] 33);go_simp;refine hK.out _ _ (fun _=>(by have k:=hHeld;repeat first | exact yh k | (refine⟨yh k.1,?_⟩;replace k:=k.2))) (fun hHeld=>?_);replace hHeld:=hHeld (by decide);clear hK K
    try simp only[sA,sB,sC]
    have hls:wr.heap.size<=v1.heap.size:=hb.size;obtain⟨tb,hss⟩:∃ s,v1.heap.size=s:=⟨_,rfl⟩
    rw[hss] at hs hls;simp only[hss];replace hb:=ya hb' hb;generalize v1.alloc (.cells #[.string ⟨#[]⟩,.bool false,.slice none 0 0] 33)=z1 at hs hb hHeld |-;clear hb' hss;refine tgo (i:=2) (by kernel_rfl) rfl (fun K hK=>?_);have hlc:wr.heap.size<=z1.heap.size:=hb.size;go_simp;refine(ybQ G yfP (.agg #[.string Gn,.bool G.dir,.slice no G.ns.length nc,.slice eo G.es.length ec,.slice co G.cs.length cc]) U F z1 (Lh (HVr.out.keep hb)) (Lh (yt htb.out (BW (HBr.out.trans (hb.mono (by have:=HBr.out.size;have:=HN0.out;omega)))))) HUF).mono ?_;rintro e u2 ⟨tv,rfl,htv,hb'⟩;obtain⟨bv,rfl,-,hst⟩:=id htv;obtain⟨ao,ac,rfl,-⟩:=id hst;clear hst;rw[<- HUE.out.1,<- HUE.out.2.1,<- HUE.out.2.2] at htv;rw[<- HUE.out.1,<- HUE.out.2.1,<- HUE.out.2.2];refine hK.out _ _ (fun _=>(by have k:=hHeld;repeat first | exact yb hb' k | (refine⟨yb hb' k.1,?_⟩;replace k:=k.2))) (fun hHeld=>?_);replace hHeld:=hHeld (by decide);clear hK K
    try simp only[sA,sB,sC]
    replace hs:=yj hb' hs;replace hb:=ya hb' hb;clear hb' hlc;refine ton 3 52 (.tuple #[(.agg #[.string UN,.bool UD,.slice ao un ac]),.int .i64 F]) ?_;refine ton 4 56 (.agg #[.string UN,.bool UD,.slice ao un ac]) ?_;refine ton 5 57 (.int .i64 F) ?_
    try simp only[sA,sB,sC]
    have f0:u2.frozen? ⟨tb,0,none⟩=false:=yk hs;have e0:=bc 0 hs;have f1:u2.frozen? ⟨tb,1,none⟩=false:=yk hs;have e1:=bc 1 hs;have f2:u2.frozen? ⟨tb,2,none⟩=false:=yk hs;have e2:=bc 2 hs;refine tgo (i:=7) (by kernel_rfl) rfl (fun K hK=>?_);go_simp;refine hK.out _ _ (fun _=>(by have k:=hHeld;repeat first | exact yC (by simp only;omega) (yC (by simp only;omega) (yC (by simp only;omega) k)) | (refine⟨yC (by simp only;omega) (yC (by simp only;omega) (yC (by simp only;omega) k.1)),?_⟩;replace k:=k.2))) (fun hHeld=>?_);replace hHeld:=hHeld (by decide);clear hK K
    try simp only[sA,sB,sC]
    have hI:DcI w n0 gb tb (.agg #[.string Gn,.bool G.dir,.slice no G.ns.length nc,.slice eo G.es.length ec,.slice co G.cs.length cc]) #[.string Gn,.bool G.dir,.slice no G.ns.length nc,.slice eo G.es.length ec,.slice co G.cs.length cc] G U (((u2.setCell ⟨tb,0,none⟩ (.string UN)).setCell ⟨tb,1,none⟩ (.bool UD)).setCell ⟨tb,2,none⟩ (.slice ao un ac)):=by
     have hwz:n0<=wr.heap.size:=by have:=HBr.out.size;have:=HN0.out;omega
     have hbt:=HBr.out.trans (hb.mono hwz);have hbs:Below wr.heap.size wr (((u2.setCell ⟨tb,0,none⟩ (.string UN)).setCell ⟨tb,1,none⟩ (.bool UD)).setCell ⟨tb,2,none⟩ (.slice ao un ac)):=yA hb (by omega) _ _ _;obtain⟨bv,hbv,hnl,hst⟩:=htv;obtain rfl:bv=.slice ao un ac:=by simp only[Value.agg.injEq,Array.mk.injEq,List.cons.injEq] at hbv;exact hbv.2.2.1.symm
     exact⟨yA hbt (by omega) _ _ _,by omega,yj hbs HYr.out,HVr.out.keep hbs,UN,UD,un,ao,ac,HUE.out.1,HUE.out.2.1,HUE.out.2.2,yag hs _ _ _,⟨_,hbv,hnl,ybj hst hs (yk3 _ _ _)⟩⟩
    refine tgo (i:=8) (by kernel_rfl) rfl (fun K hK=>?_);go_simp;refine hK.out _ _ (fun h=>absurd rfl h) (fun hHeld=>?_);clear hK K hHeld
    try simp only[sA,sB,sC]
    refine yb3 (by kernel_rfl) ?_ _;exact⟨rfl,(HMq.out _ _).2 ⟨tb,rfl,hI⟩⟩
  ·
   have hs:=yl y0 #[.string ⟨#[]⟩,.bool false,.slice none 0 0] 33;have hb':=al1 y0 (.cells #[.string ⟨#[]⟩,.bool false,.slice none 0 0] 33);go_simp;refine hK.out _ _ (fun _=>(by have k:=hHeld;repeat first | exact yh k | (refine⟨yh k.1,?_⟩;replace k:=k.2))) (fun hHeld=>?_);replace hHeld:=hHeld (by decide);clear hK K
   try simp only[sA,sB,sC]
   have hls:wr.heap.size<=y0.heap.size:=hb.size;obtain⟨tb,hss⟩:∃ s,y0.heap.size=s:=⟨_,rfl⟩
   rw[hss] at hs hls;simp only[hss];replace hb:=ya hb' hb;generalize y0.alloc (.cells #[.string ⟨#[]⟩,.bool false,.slice none 0 0] 33)=z0 at hs hb hHeld |-;clear hb' hss;refine tgo (i:=1) (by kernel_rfl) rfl (fun K hK=>?_);have hlc:wr.heap.size<=z0.heap.size:=hb.size;go_simp;refine(ycb z0).mono ?_;rintro e u1 ⟨rfl,hb'⟩;refine hK.out _ _ (fun _=>(by have k:=hHeld;repeat first | exact yb hb' k | (refine⟨yb hb' k.1,?_⟩;replace k:=k.2))) (fun hHeld=>?_);replace hHeld:=hHeld (by decide);clear hK K
   try simp only[sA,sB,sC]
   replace hs:=yj hb' hs;replace hb:=ya hb' hb;clear hb' hlc;refine tgo (i:=2) (by kernel_rfl) rfl (fun K hK=>?_);have hlc:wr.heap.size<=u1.heap.size:=hb.size;go_simp;refine(ybQ G yfP (.agg #[.string Gn,.bool G.dir,.slice no G.ns.length nc,.slice eo G.es.length ec,.slice co G.cs.length cc]) U F u1 (Lh (HVr.out.keep hb)) (Lh (yt htb.out (BW (HBr.out.trans (hb.mono (by have:=HBr.out.size;have:=HN0.out;omega)))))) HUF).mono ?_;rintro e u2 ⟨tv,rfl,htv,hb'⟩;obtain⟨bv,rfl,-,hst⟩:=id htv;obtain⟨ao,ac,rfl,-⟩:=id hst;clear hst;rw[<- HUE.out.1,<- HUE.out.2.1,<- HUE.out.2.2] at htv;rw[<- HUE.out.1,<- HUE.out.2.1,<- HUE.out.2.2];refine hK.out _ _ (fun _=>(by have k:=hHeld;repeat first | exact yb hb' k | (refine⟨yb hb' k.1,?_⟩;replace k:=k.2))) (fun hHeld=>?_);replace hHeld:=hHeld (by decide);clear hK K
   try simp only[sA,sB,sC]
   replace hs:=yj hb' hs;replace hb:=ya hb' hb;clear hb' hlc;refine ton 3 52 (.tuple #[(.agg #[.string UN,.bool UD,.slice ao un ac]),.int .i64 F]) ?_;refine ton 4 56 (.agg #[.string UN,.bool UD,.slice ao un ac]) ?_;refine ton 5 57 (.int .i64 F) ?_
   try simp only[sA,sB,sC]
   have f0:u2.frozen? ⟨tb,0,none⟩=false:=yk hs;have e0:=bc 0 hs;have f1:u2.frozen? ⟨tb,1,none⟩=false:=yk hs;have e1:=bc 1 hs;have f2:u2.frozen? ⟨tb,2,none⟩=false:=yk hs;have e2:=bc 2 hs;refine tgo (i:=7) (by kernel_rfl) rfl (fun K hK=>?_);go_simp;refine hK.out _ _ (fun _=>(by have k:=hHeld;repeat first | exact yC (by simp only;omega) (yC (by simp only;omega) (yC (by simp only;omega) k)) | (refine⟨yC (by simp only;omega) (yC (by simp only;omega) (yC (by simp only;omega) k.1)),?_⟩;replace k:=k.2))) (fun hHeld=>?_);replace hHeld:=hHeld (by decide);clear hK K
   try simp only[sA,sB,sC]
   have hI:DcI w n0 gb tb (.agg #[.string Gn,.bool G.dir,.slice no G.ns.length nc,.slice eo G.es.length ec,.slice co G.cs.length cc]) #[.string Gn,.bool G.dir,.slice no G.ns.length nc,.slice eo G.es.length ec,.slice co G.cs.length cc] G U (((u2.setCell ⟨tb,0,none⟩ (.string UN)).setCell ⟨tb,1,none⟩ (.bool UD)).setCell ⟨tb,2,none⟩ (.slice ao un ac)):=by
    have hwz:n0<=wr.heap.size:=by have:=HBr.out.size;have:=HN0.out;omega
    have hbt:=HBr.out.trans (hb.mono hwz);have hbs:Below wr.heap.size wr (((u2.setCell ⟨tb,0,none⟩ (.string UN)).setCell ⟨tb,1,none⟩ (.bool UD)).setCell ⟨tb,2,none⟩ (.slice ao un ac)):=yA hb (by omega) _ _ _;obtain⟨bv,hbv,hnl,hst⟩:=htv;obtain rfl:bv=.slice ao un ac:=by simp only[Value.agg.injEq,Array.mk.injEq,List.cons.injEq] at hbv;exact hbv.2.2.1.symm
    exact⟨yA hbt (by omega) _ _ _,by omega,yj hbs HYr.out,HVr.out.keep hbs,UN,UD,un,ao,ac,HUE.out.1,HUE.out.2.1,HUE.out.2.2,yag hs _ _ _,⟨_,hbv,hnl,ybj hst hs (yk3 _ _ _)⟩⟩
   refine tgo (i:=8) (by kernel_rfl) rfl (fun K hK=>?_);go_simp;refine hK.out _ _ (fun h=>absurd rfl h) (fun hHeld=>?_);clear hK K hHeld
   try simp only[sA,sB,sC]
   refine yb3 (by kernel_rfl) ?_ _;exact⟨rfl,(HMq.out _ _).2 ⟨tb,rfl,hI⟩⟩
 intro a8 w8 hm;obtain⟨tb,ha,hI⟩:=(HMq.out _ _).1 hm;obtain⟨f,rfl⟩:=ha.use;obtain⟨HB8',hlt8,hgx,hgr,UN8,UD8,un8,ao,ac,e1,e2,e3,htx,htv⟩:=hI;obtain rfl:UN8=UN:=e1.trans HUE.out.1.symm;obtain rfl:UD8=UD:=e2.trans HUE.out.2.1.symm;obtain rfl:un8=un:=e3.trans HUE.out.2.2.symm;have HB8:=Lh HB8';have HX8:=Lh htx;have HY8:=Lh hgx;have HV8:=Lh hgr;have HT8:=Lh htv;clear HMq hm Mq ha HB8' htx hgx hgr htv e1 e2 e3 HVr HYr HBr HBs
 rcases HF.out with rfl | rfl
 ·go_wp2_with fail
  refine(ycp w8 (Lh (yt htb.out (BW HB8.out)))).mono ?_;rintro e wZ ⟨rfl,hbz⟩;have HBZ:=Lh (HB8.out.trans (hbz.mono (by have:=HB8.out.size;have:=HN0.out;omega)));clear hbz;go_wp2;go_ret;exact⟨rfl,BW HBZ.out⟩
 have HUV:=(yh0 HUF.out).2.2.2.2;have hU6:cnt U.body<=600:=by have:=((yaO U).1 HUV.2).2.1;omega
 have HUK:Hid (okL U.body):=Lh (by rw[HUV.1];exact(yhq G yfP).ok);have HUB:Hid (yb2 U=(G,0)):=Lh (ykL HUF.out);clear HUV;obtain⟨x0,x1,x2⟩:=b3c HX8.out;go_wp2_with fail
 clear x0 x1 x2;refine(ynB _ U G 0 w8 HT8 (by omega) HUK HUB).mono ?_;rintro e w9 ⟨gv,rfl,hgv,hb9⟩;obtain⟨nv,ev,cv,rfl,-,hns,hes,hcs⟩:=id hgv;obtain⟨no2,nc2,rfl,-,-,-⟩:=id hns;obtain⟨eo2,ec2,rfl,-,-,-⟩:=id hes;obtain⟨co2,cc2,rfl,-,-,-⟩:=id hcs;clear hns hes hcs;rw[HGn.out] at hgv |-;have b9:=al1 w9 (.cells #[.string Gn,.bool G.dir,.slice no2 G.ns.length nc2,.slice eo2 G.es.length ec2,.slice co2 G.cs.length cc2] 26);have q9:=ya b9 hb9;have HB9:=Lh (HB8.out.trans (q9.mono (by have:=HB8.out.size;have:=HN0.out;omega)));have HW9:=Lh (hgv.keep b9);have HV9:=Lh (HV8.out.keep q9);have HY9:=Lh (yj q9 HY8.out);have HZ9:=Lh (yl w9 #[.string Gn,.bool G.dir,.slice no2 G.ns.length nc2,.slice eo2 G.es.length ec2,.slice co2 G.cs.length cc2] 26);clear hgv hb9 b9 q9 HX8 HT8 HB8;obtain⟨c0,c1,c2,c3,c4⟩:=b5c HY9.out;obtain⟨z0,z1,z2,z3,z4⟩:=b5c HZ9.out;go_wp2_with fail
 generalize w9.alloc (.cells #[.string Gn,.bool G.dir,.slice no2 G.ns.length nc2,.slice eo2 G.es.length ec2,.slice co2 G.cs.length cc2] 26)=wA at HB9 HW9 HV9 HY9 HZ9 c0 c1 c2 c3 c4 z0 z1 z2 z3 z4 |-;clear c0 c1 c2 c3 c4 z0 z1 z2 z3 z4;refine(gra.gsame_of _ _ G G true wA HV9 HW9 (Lh (by simp))).mono ?_;rintro e wB ⟨rfl,hbB⟩;have HBB:=Lh (HB9.out.trans (hbB.mono (by have:=HB9.out.size;have:=HN0.out;omega)));clear hbB;go_wp2_with fail
 refine(ycp wB (Lh (yt htb.out (BW HBB.out)))).mono ?_;rintro e wZ ⟨rfl,hbz⟩;have HBZ:=Lh (HBB.out.trans (hbz.mono (by have:=HBB.out.size;have:=HN0.out;omega)));clear hbz;go_wp2;go_ret;exact⟨rfl,BW HBZ.out⟩
end Go.Proofs.YtgmidodmmlmmeaaGreatDoor.xpt
namespace Go.Proofs.YtgmidodmmlmmeaaGreatDoor.xpt
open Go.ChangeShapes Go.WideShapes Go.ChangeAt Go.RowKit Go.Joins lex tre nor _root_.Go.Proofs.Tryz
theorem ykA {H:Type}(l r:List (DataW H)):Rows.uptoBulkAll (l++r)=Rows.uptoBulkAll l+Rows.uptoBulkAll r:=by
 induction l with
 | nil=>simp[Rows.uptoBulkAll]
 | cons x l ih=>simp only[List.cons_append,Rows.uptoBulkAll,ih];omega
theorem ytX (a b:List St):wl (a++b)=wl a+wl b:=by
 induction a with
 | nil=>rw[List.nil_append,yf8,Nat.zero_add]
 | cons x a ih=>rw[List.cons_append,ydd,ydd,ih];omega
theorem ysD {H:Type}(f:Nat->St)(D:Nat->DataW H):∀ n,(∀ i,i<n->2+(f i).refs.length+wl (f i).body<=Rows.uptoBulk (D i))->wl ((List.range n).map f)<=Rows.uptoBulkAll ((List.range n).map D):=by
 intro n
 induction n with
 | zero=>intro _;simp[yf8,Rows.uptoBulkAll]
 | succ n ih =>
  intro h;have h1:=ih (fun i hi=>h i (by omega));have h2:=h n (by omega);rw[List.range_succ,List.map_append,List.map_append,ytX,ykA];simp only[List.map_cons,List.map_nil,ydd,yf8,Rows.uptoBulkAll];omega
theorem ykB {H:Type}(d:DataW H):1<=Rows.uptoBulk d:=by
 rw[Rows.uptoBulk.eq_def]
 split <;> omega
theorem yqe {H:Type}(D:Nat->DataW H):∀ n,n<=Rows.uptoBulkAll ((List.range n).map D):=by
 intro n
 induction n with
 | zero=>exact Nat.zero_le _
 | succ n ih =>
  have:=ykB (D n);rw[List.range_succ,List.map_append,ykA];simp only[List.map_cons,List.map_nil,Rows.uptoBulkAll];omega
section
variable {H:Type} {enc:TypeId × Value->H} {w:World} {base:Nat} {spare:Nat->Bool} {held:Bool}
theorem ynD {t e:TypeId}{f0 f1:Field}{fuel:Nat}{cs:List Value}{x:DataW H × List MemPlace}(ht:Tryz.prog.underlying t=some (.slice e))(he:Tryz.prog.underlying e=some (.struct #[f0,f1]))(hc:Tryz.prog.cellsOf e=2)
    (g0:f0.type=9/\f0.offset=0) (g1:f1.type=9/\f1.offset=1) (h:DataW.trod enc Tryz.prog w base spare held fuel t cs=some x):∃ v l,cs=[v]/\Prs w v l/\l.length<=Rows.uptoBulk x.1:=by
 rcases Deep.open_slice ht h with ⟨rfl,_⟩ | ⟨a,len,cap,m,n,D,Pl,rfl,_,hl,hm,hmm,hx,hi⟩
 ·exact⟨_,[],rfl,Prs.nil w,Nat.zero_le _⟩
 ·have hlm:len<=m:=by rw[hmm];split <;> omega
  have hcs:Tryz.prog.cellsOf 9=1:=by kernel_rfl
  have key:∀ i,i<len->∃ r:Pr,prAt w a i r:=by
   intro i hil;obtain⟨cs',hc',ht'⟩:=hi i (by omega);rw[hc] at hc';obtain⟨_,hcl,hat⟩:=World.cells?_some hc';obtain⟨y0,y1,q,_,_,k0,k1⟩:=trod_struct2 he ht'
   obtain⟨c0,c1,rfl⟩:∃ c0 c1,cs'=[c0,c1]:=by
    match cs',hcl with
    | [c0,c1],_=>exact⟨c0,c1,rfl⟩
   rw[g0.1,g0.2,hcs] at k0;rw[g1.1,g1.2,hcs] at k1;obtain⟨x0,e0,_,z0⟩:=DataW.trod_string underlying9 k0;obtain⟨x1,e1,_,z1⟩:=DataW.trod_string underlying9 k1;simp at e0 e1;subst e0 e1;have j0:=hat 0 (by omega);have j1:=hat 1 (by omega);rw[ya5 _ 1 (by omega)] at j1;refine⟨(x0.data.toList,x1.data.toList),?_,?_,by simpa using z0,by simpa using z1⟩
   ·show _=some (Value.string (bb x0.data.toList));rw[ycE];exact j0
   ·show _=some (Value.string (bb x1.data.toList));rw[ycE];exact j1
  obtain⟨f,hf⟩:=Deep.choose_lt key;have hlen:((List.range len).map f).length=len:=by simp
  refine⟨_,(List.range len).map f,rfl,⟨some a,cap,by rw[hlen],by rw[hlen];exact hl,hm,fun _=>⟨a,rfl,fun i hi'=>?_⟩⟩,?_⟩
  ·rw[hlen] at hi'
   simpa using hf i hi'
  ·rw[hlen,hx]
   simp only[Rows.uptoBulk];have:=yqe D len;omega
theorem ynE:∀ (N:Nat) (fuel:Nat) (cs:List Value) (x:DataW H × List MemPlace),SizeOf.sizeOf x.1<=N->DataW.trod enc Tryz.prog w base spare held fuel 31 cs=some x->∃ v l,cs=[v]/\Sts w v l/\wl l<=Rows.uptoBulk x.1:=by
 intro N
 induction N with
 | zero=>intro fuel cs x hN _;exfalso;have:0<SizeOf.sizeOf x.1:=by cases x.1 <;> simp <;> omega
         omega
 | succ N ih =>
  intro fuel cs x hN h
  rcases Deep.open_slice underlying31 h with ⟨rfl,_⟩ | ⟨a,len,cap,m,n,D,Pl,rfl,_,hl,hm,hmm,hx,hi⟩
  ·exact⟨_,[],rfl,Sts.nil w,by rw[yf8];exact Nat.zero_le _⟩
  ·have hlm:len<=m:=by rw[hmm];split <;> omega
   have hci:Tryz.prog.cellsOf 3=1:=by kernel_rfl
   have hcs:Tryz.prog.cellsOf 9=1:=by kernel_rfl
   have hcr:Tryz.prog.cellsOf 64=1:=by kernel_rfl
   have hca:Tryz.prog.cellsOf 65=1:=by kernel_rfl
   have hcb:Tryz.prog.cellsOf 31=1:=by kernel_rfl
   have hc5:Tryz.prog.cellsOf 67=5:=by kernel_rfl
   have key:∀ i,i<len->∃ s:St,yhM w s (a.add (i*5))/\2+s.refs.length+wl s.body<=Rows.uptoBulk (D i):=by
    intro i hil;obtain⟨cs',hc',ht'⟩:=hi i (by omega);rw[hc5] at hc';obtain⟨_,hcl,hat⟩:=World.cells?_some hc';obtain⟨y0,y1,y2,y3,y4,q,hd,_,k0,k1,k2,k3,k4⟩:=yhN underlying67 ht'
    obtain⟨c0,c1,c2,c3,c4,rfl⟩:∃ c0 c1 c2 c3 c4,cs'=[c0,c1,c2,c3,c4]:=by
     match cs',hcl with
     | [c0,c1,c2,c3,c4],_=>exact⟨c0,c1,c2,c3,c4,rfl⟩
    simp[hci,hcs,hcr,hca,hcb] at k0 k1 k2 k3 k4;obtain⟨x0,e0,_,_⟩:=DataW.trod_int underlying3 k0;obtain⟨x1,e1,_,z1⟩:=DataW.trod_string underlying9 k1;obtain⟨rv,r,e2,hr,hrb⟩:=ynD underlying64 underlying121 (by kernel_rfl) ⟨rfl,rfl⟩ ⟨rfl,rfl⟩ k2;obtain⟨av,at',e3,ha⟩:=ynX underlying65 underlying69 (by kernel_rfl) ⟨rfl,rfl⟩ ⟨rfl,rfl⟩ k3
    have hsz:SizeOf.sizeOf y4.1<=N:=by
     have h1:SizeOf.sizeOf (D i)<SizeOf.sizeOf ((List.range len).map D):=List.sizeOf_lt_of_mem (List.mem_map.2 ⟨i,List.mem_range.2 hil,rfl⟩);have h2:SizeOf.sizeOf x.1=1+SizeOf.sizeOf ((List.range len).map D)+SizeOf.sizeOf ((List.range (m-len)).map fun j=>D (len+j)):=by rw[hx];exact DataW.slice.sizeOf_spec _ _
     have h3:SizeOf.sizeOf (D i)=1+SizeOf.sizeOf [y0.1,y1.1,y2.1,y3.1,y4.1]:=by rw[show D i=_ from hd];exact DataW.agg.sizeOf_spec _
     have h4:SizeOf.sizeOf y4.1<SizeOf.sizeOf [y0.1,y1.1,y2.1,y3.1,y4.1]:=List.sizeOf_lt_of_mem (by simp);omega
    obtain⟨bv,b,e4,hb,hbk⟩:=ih _ _ _ hsz k4
    have hbD:2+r.length+wl b<=Rows.uptoBulk (D i):=by
     have h0:=ykB y0.1;rw[show D i=_ from hd];simp only[Rows.uptoBulk,Rows.uptoBulkAll];omega
    simp at e0 e1 e2 e3 e4;subst e0 e1 e2 e3 e4;have j0:=hat 0 (by omega);have j1:=hat 1 (by omega);have j2:=hat 2 (by omega);have j3:=hat 3 (by omega);have j4:=hat 4 (by omega);rw[ya5 _ 1 (by omega)] at j1;rw[ya5 _ 2 (by omega)] at j2;rw[ya5 _ 3 (by omega)] at j3;rw[ya5 _ 4 (by omega)] at j4;refine⟨.mk x0 x1.data.toList r at' b,(yap _ _ _).2 ⟨j0,?_,by show x1.data.toList.length<=maxLen;simpa using z1,⟨_,j2,hr⟩,⟨_,j3,ha⟩,_,j4,hb⟩,hbD⟩
    show _=some (Value.string (bb x1.data.toList));rw[ycE];exact j1
   haveI:Inhabited St:=⟨.mk 0 [] [] [] []⟩
   obtain⟨f,hf⟩:=Deep.choose_lt key;have hlen:((List.range len).map f).length=len:=by simp
   refine⟨_,(List.range len).map f,rfl,⟨some a,cap,by rw[hlen],by rw[hlen];exact hl,hm,fun _=>⟨a,rfl,yjx fun j hj=>?_⟩⟩,?_⟩
   ·rw[hlen] at hj
    have:=(hf j hj).1
    simpa using this
   ·have h1:=ysD f D len (fun i hi=>(hf i hi).2)
    rw[hx];simp only[Rows.uptoBulk];omega
theorem yk9 {r:Reach}{b0:Nat}{v:Value}{d:DataW H}{p:List MemPlace}(hv:Value.okWide Tryz.prog w r b0 33 v)(h:DataW.Trod enc Tryz.prog w base spare held 33 v d p):∃ T,TrV w v T/\wl T.body<=Rows.uptoBulk d:=by
 obtain⟨cs,rfl,hsz⟩:=okWide_struct underlying33 hv;obtain⟨fuel,hf⟩:=h;obtain⟨y0,y1,y2,n,hd,hl,k0,k1,k2⟩:=Deep.trod_struct3 underlying33 hf;have hc3:Tryz.prog.cellsOf 33=3:=by kernel_rfl
 obtain⟨c0,c1,c2,rfl⟩:=array3 (hsz.trans hc3);have hcb:Tryz.prog.cellsOf 4=1:=by kernel_rfl
 have hcs:Tryz.prog.cellsOf 9=1:=by kernel_rfl
 have hcl:Tryz.prog.cellsOf 31=1:=by kernel_rfl
 simp[Value.cells,hcb,hcs,hcl] at k0 k1 k2;obtain⟨x0,e0,_,z0⟩:=DataW.trod_string underlying9 k0;obtain⟨x1,e1,_⟩:=DataW.trod_bool underlying4 k1;obtain⟨bv,b,e2,hb,hbk⟩:=ynE _ _ _ _ (Nat.le_refl _) k2;simp at e0 e1 e2;subst e0 e1 e2;refine⟨⟨x0.data.toList,x1,b⟩,⟨_,by show _=Value.agg #[.string (bb x0.data.toList),_,_];rw[ycE],by show x0.data.toList.length<=maxLen;simpa using z0,hb⟩,?_⟩
 show wl b<=Rows.uptoBulk d
 have hd2:d=.agg [y0.1,y1.1,y2.1]:=congrArg Prod.fst hd;rw[hd2];simp only[Rows.uptoBulk,Rows.uptoBulkAll];omega
end
theorem ytY:∀ l:List St,cnt l<=wl l :=
 (ya2 (P:=fun s=>1+cnt s.body<=wS s) (Q:=fun l=>cnt l<=wl l) (fun k n r a b hb=>by show 1+cnt b<=_;rw[wS];omega) (by rw[yf8,yiE];exact Nat.le_refl _)
  (fun x t hx ht=>by rw[yaI,wl];omega)).2
end Go.Proofs.YtgmidodmmlmmeaaGreatDoor.xpt
namespace Go.Proofs.YtgmidodmmlmmeaaGreatDoor.xpt
open Go.ChangeShapes Go.WideShapes Go.ChangeAt Go.RowKit Go.Joins lex tre att nor _root_.Go.Proofs.Tryz
def yqf:List (String × DataW Unit):=Rows.exportTreesRow.laid
theorem ytZ {W:World}(h:laidMetH Tryz.prog yqf W):Tab W:=by
 rw[MakeChecks.laidMetH_plain _ _ _ (by kernel_rfl)] at h;obtain⟨ps,⟨g0,t0,cs0,fuel0,p0,q0,_,_,_,_,⟨g1,t1,cs1,fuel1,p1,q1,_,_,_,_,⟨g,t,cs,fuel,p,q,hg,ht,hv,hd,_,_⟩,_⟩,_⟩,_,_⟩:=h
 obtain rfl := Option.some.inj ((show Tryz.prog.globalNamed "internal/strconv.uint64pow10" = some 0 by kernel_rfl).symm.trans hg);obtain rfl:=Option.some.inj ((show (Tryz.prog.globals[0]?).map (·.type)=some 329 by kernel_rfl).symm.trans ht);have e:(Rows.laid_internal_strconv_uint64pow10:DataW Unit)=Lib.tabData .u64 Lib.pow10Tab:=by kernel_rfl
 rw[e] at hd;unfold Tab Lib.TabIs;rw[hv,<- Lib.cells_of_tab underlying329 underlying219 (by kernel_rfl) (by kernel_rfl) hd]
section
variable {H:Type} {enc:TypeId × Value->H} {w:World} {base:Nat} {spare:Nat->Bool} {held:Bool}
end
end Go.Proofs.YtgmidodmmlmmeaaGreatDoor.xpt
