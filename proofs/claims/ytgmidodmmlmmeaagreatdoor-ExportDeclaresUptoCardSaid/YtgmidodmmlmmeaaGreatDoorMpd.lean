/-
  Contracts and plain facts of the layers below; conditions as each theorem states them.
-/
import Derived.Test.YtgmidodmmlmmeaaGreatDoorMpc
import Derived.Test.YtgmidodmmlmmeaaGreatDoorMtd
set_option maxHeartbeats 8000000
set_option maxRecDepth 100000
namespace Go.Proofs.YtgmidodmmlmmeaaGreatDoor.prt
open Go.RowKit Go.Sort lex tre _root_.Go.Proofs.Tryz
def kwC:ByteArray:=⟨#[99,108,117,115,116,101,114]⟩
theorem yi8 (l:List St)(IH:Hid (CBl l))(w0 w:World)(b:Nat)(acc:List UInt8)(lev:Nat)(d:Bool)(kd:Int)(X:ByteArray)(ro so bo:Option Addr)(rn rc sn sc bn bc:Nat)(hB0:Hid (Below w0.heap.size w0 w))(hwb:w0.heap.size<=b)(HW:Hid (Wr w b acc lev (yc3 d)))(HS:Hid (Sts w0 (.slice bo bn bc) l))(HV:Hid (vL l))(HO:Hid (okL l))(hX:X.size<=16)
    (hl:acc.length+(yk4 d lev kwC X l).length+10000<=1000000) :
    Calls Tryz.prog 207 #[.pointer (some ⟨b,0,none⟩),.agg #[.int .i64 kd,.string X,.slice ro rn rc,.slice so sn sc,.slice bo bn bc]] w fun e w'=>e=.returned (.tuple #[])/\Wr w' b (acc++yk4 d lev kwC X l) lev (yc3 d)/\Fr b w w':=by
 have hB:=al1 w (.cells #[.int .i64 kd,.string X,.slice ro rn rc,.slice so sn sc,.slice bo bn bc] 67);obtain⟨-,c1,-,-,c4⟩:=ycj w kd X (.slice ro rn rc) (.slice so sn sc) (.slice bo bn bc) 67;have HL:=Lh hl;clear hl;go_enter func207,ntmps207;go_wp2_with fail
 refine(IH.out w0 _ b acc lev d kwC X _ (Lh (hB0.out.trans (hB.mono hB0.out.size))) hwb (Lh (HW.out.keep hB)) HS HV HO hX (by decide) HL.out).mono ?_;rintro e w8 ⟨rfl,h8,hf8⟩;have hfr:=(Fr.of hB (Nat.le_of_lt HW.out.lt)).trans hf8;go_wp2
 go_end0
 exact⟨rfl,h8,hfr⟩
theorem yco {w0 w W:World}(h:Below w0.heap.size w0 w)(k:Below w.heap.size w W):Below w0.heap.size w0 W:=h.trans (k.mono h.size)
theorem ypO (s:St)(ih:CBl s.body):CSt s:=by
 intro w0 w b acc lev d rv av bv hB0 hwb HW hfv hv hok hl;obtain⟨hnm,hrv,hav,hbv⟩:s.name.length<=maxLen/\Prs w0 rv s.refs/\Prs w0 av s.attrs/\Sts w0 bv s.body:=hfv.out;have hform:=hv.out.form;have hatt:=hv.out.att;have hvals:=hv.out.vals;have hbody:=hv.out.body;have hoks:=hok.out;obtain⟨ro,rn,rc,rfl⟩:∃ a n c,rv=.slice a n c:=by obtain⟨a,c,rfl,_⟩:=hrv;exact⟨_,_,_,rfl⟩
 obtain⟨so,sn,sc,rfl⟩:∃ a n c,av=.slice a n c:=by obtain⟨a,c,rfl,_⟩:=hav;exact⟨_,_,_,rfl⟩
 obtain⟨bo,bn,bc,rfl⟩:∃ a n c,bv=.slice a n c:=by obtain⟨a,c,rfl,_⟩:=hbv;exact⟨_,_,_,rfl⟩
 have hlt:=HW.out.lt
 cases hform with
 | node n a hn hk =>
  have ha:=hatt (by show (1:Int)≠4;decide);have e:stS prL d (4*lev) (.mk 1 n [] a [])=List.replicate (4*lev) 32++((bb n).data.toList++((bb (aft prL a)).data.toList++[59,10])):=by simp[stS]
  have hlen:=congrArg List.length e;rw[List.length_append,List.length_replicate] at hlen;rw[e];refine ytG b (bb n) ro so bo rn rc sn sc bn bc w hlt _ (Lh fun W hBW=>?_);exact ypJ b acc lev (yc3 d) 1 (bb n) (bb (aft prL a)) a ro so bo rn rc sn sc bn bc W (Lh (HW.out.keep hBW)) (by rw[<- yz];exact ydi hn) (Lh (hav.keep (yco hB0.out hBW))) hoks.1.2 (Lh ha) (Lh rfl) (by omega)
 | edge r r2 t a hr hk =>
  have ha:=hatt (by show (2:Int)≠4;decide);have e:stS prL d (4*lev) (.mk 2 [] (r::r2::t) a [])=List.replicate (4*lev) 32++((bb (ymH d (r::r2::t))).data.toList++((bb (aft prL a)).data.toList++[59,10])):=by simp[stS]
  have hlen:=congrArg List.length e;rw[List.length_append,List.length_replicate] at hlen;rw[e];refine ytH b (bb []) ro so bo rn rc sn sc bn bc w hlt _ (Lh fun W hBW=>?_);exact ypM b acc lev d 2 (bb []) (bb (aft prL a)) (bb (ymH d (r::r2::t))) (r::r2::t) a ro so bo rn rc sn sc bn bc W (Lh (HW.out.keep hBW)) (Lh (hrv.keep (yco hB0.out hBW))) hoks.1.1 (Lh hr) (Lh rfl) (Lh (hav.keep (yco hB0.out hBW))) hoks.1.2 (Lh ha) (Lh rfl) (by omega)
 | dflt n a hn hk =>
  have ha:=hatt (by show (3:Int)≠4;decide)
  have e:stS prL d (4*lev) (.mk 3 n [] a [])=List.replicate (4*lev) 32++((bb n).data.toList++32::((bb (91::(ylb a++[93]))).data.toList++[59,10])):=by
   show _=List.replicate (4*lev) 32++(n++32::((91::(ylb a++[93]))++[59,10]))
   rw[yr3];simp[stS]
  have hlen:=congrArg List.length e;rw[List.length_append,List.length_replicate] at hlen;rw[e];refine ytI b (bb n) ro so bo rn rc sn sc bn bc w hlt _ (Lh fun W hBW=>?_);exact ypK b acc lev (yc3 d) 3 (bb n) (bb (91::(ylb a++[93]))) a ro so bo rn rc sn sc bn bc W (Lh (HW.out.keep hBW)) (by rw[<- yz];rcases hn with rfl | rfl <;> decide) (Lh (hav.keep (yco hB0.out hBW))) hoks.1.2 (Lh ha) (Lh rfl) (by omega)
 | sset n x hn =>
  have hx:=hvals ([],x) (by simp[St.attrs]);have e:stS prL d (4*lev) (.mk 4 n [] [([],x)] [])=List.replicate (4*lev) 32++(yrV++32::((bb n).data.toList++32::61::32::((bb (yiD prL x)).data.toList++[59,10]))):=by simp[stS]
  have hlen:=congrArg List.length e;rw[List.length_append,List.length_replicate] at hlen;rw[e];obtain⟨C,cap,e2,p0,p1,_,_⟩:=ytF hav;cases e2
  have hp1:w0.cell? ⟨C.block,C.off+1,none⟩=some (.string (bb x)):=by simpa [Addr.add] using p1
  have hC:C.block<b:=Nat.lt_of_lt_of_le (World.block_lt_of_cell? w0 ⟨C.block,C.off+1,none⟩ hp1) hwb;refine ytJ b (bb n) ro (some C) bo rn rc 1 sc bn bc w hlt _ (Lh fun W hBW=>?_);exact ysm b acc lev (yc3 d) 4 (bb n) (bb x) (bb (yiD prL x)) C ro bo rn rc sc bn bc W (Lh (HW.out.keep hBW)) (by rw[<- yz];exact ydi hn) (by rw[<- yz];exact hx.1) hC (yb (yco hB0.out hBW) hp1) (Lh hx.2) (Lh rfl) (by omega)
 | clus n l hn =>
  have e:stS prL d (4*lev) (.mk 5 n [] [] l)=yk4 d lev kwC (bb n) l:=by simp[stS,yk4,kwC,wClu];rfl
  rw[e] at hl |-;refine ytK b (bb n) ro so bo rn rc sn sc bn bc w hlt _ (Lh fun W hBW=>?_);exact yi8 l (Lh ih) w0 W b acc lev d 5 (bb n) ro so bo rn rc sn sc bn bc (Lh (yco hB0.out hBW)) hwb (Lh (HW.out.keep hBW)) (Lh hbv) (Lh hbody) (Lh hoks.2) (by rw[<- yz];exact ydi hn) hl
theorem ypP (l:List St)(ih:∀ s∈l,CBl s.body):CBl l:=by
 intro w0 w b acc lev d kw X v hB0 hwb HW HS HV HO hX hk hl;obtain⟨ao,cap,rfl,hc,hm,_⟩:=id HS.out;have IH:=Lh ih;unfold maxLen at hm;have hlm:l.length<=9223372036854775807:=by omega
 obtain⟨S,hS⟩:∃ S,stL prL d (4*(lev+1)) l=S:=⟨_,rfl⟩
 have HS2:=Lh hS;have hbw:=HW.out.lt;have hne:w.heap.size≠b:=by omega
 have HT:Hid (yk4 d lev kw X l=(List.replicate (4*lev) 32++(yaA [kw,⟨#[32]⟩,X,⟨#[32,123]⟩]++[10]))++(S++(List.replicate (4*lev) 32++(yaA [⟨#[125]⟩]++[10])))):=Lh (by unfold yk4;rw[hS];simp[yaA])
 have hpl:(List.replicate (4*lev) 32++(yaA [kw,⟨#[32]⟩,X,⟨#[32,123]⟩]++[10])).length<=4*lev+40/\4*lev<=(List.replicate (4*lev) 32++(yaA [kw,⟨#[32]⟩,X,⟨#[32,123]⟩]++[10])).length:=by
  rw[List.length_append,List.length_replicate]
  constructor
  ·simp[yaA];omega
  ·omega
 obtain⟨P1,hP1⟩:∃ P1,List.replicate (4*lev) 32++(yaA [kw,⟨#[32]⟩,X,⟨#[32,123]⟩]++[10])=P1:=⟨_,rfl⟩
 rw[hP1] at HT hpl
 have hl1:acc.length+P1.length+S.length+4*lev+2+10000<=1000000:=by
  rw[HT.out] at hl;have e:(yaA [⟨#[125]⟩]++[10]:List UInt8).length=2:=rfl;rw[List.length_append,List.length_append,List.length_append,List.length_replicate,e] at hl;omega
 have hlev:(lev:Int)<=1000000:=by omega
 have HP1:=Lh hP1;clear ih hc hm hl hS hP1;go_enter func86,ntmps86;go_wp2_with fail
 refine(ycY b acc lev (yc3 d) w.heap.size 4 [kw,⟨#[32]⟩,X,⟨#[32,123]⟩] _ (Lh (HW.out.alloc _)) (Lh (yd0 w [kw,⟨#[32]⟩,X,⟨#[32,123]⟩] #[.string kw,.string ⟨#[32]⟩,.string X,.string ⟨#[32,123]⟩] rfl)) hne rfl (by decide) (by simp[yaA];omega)).mono ?_;rintro e w1 ⟨rfl,h1,hf1⟩;rw[HP1.out] at h1;have HF1:=Lh (((Fr.refl b w).alloc (by omega) _).trans hf1);obtain⟨c2,-,f2⟩:=ydI h1;have hw2:Wr (w1.setCell ⟨b,2,none⟩ (.int .i64 ((lev:Int)+1))) b (acc++P1) ((lev+1:Nat):Int) (yc3 d):=yqI h1 _;have HW2:=Lh hw2;have HF2:=Lh (HF1.out.set 2 (.int .i64 ((lev:Int)+1)));clear h1 hf1 HF1 hw2 HW;go_wp2_with fail
 go_loopw [24] (fun i wr=>∃ k:Nat,k<=l.length/\i=.int .i64 k/\Hid (Wr wr b (acc++P1++stL prL d (4*(lev+1)) (l.take k)) ((lev+1:Nat):Int) (yc3 d))/\Hid (Fr b w wr)) (fun i _=>l.length-(intOf i).toNat)
 case atStart=>exact⟨0,Nat.zero_le _,rfl,Lh (by simpa [stL] using HW2.out),HF2⟩
 case round =>
  obtain⟨k,hkl,rfl,HB,HF⟩:=hrel
  rename World=>wr
  clear c2 f2
  by_cases hlt:k<l.length
  ·have hBr:Below w0.heap.size w0 wr:=hB0.out.trans (HF.out.1.mono hwb)
   obtain⟨A,rfl,hst0⟩:=HS.out.get hlt;obtain⟨c0,c1,hnl,⟨rv,c2,hrv⟩,⟨av,c3,hav⟩,bv,c4,hbv⟩:=(yap _ _ _).1 hst0;have c0:=yb hBr c0;have c1:=yb hBr c1;have c2:=yb hBr c2;have c3:=yb hBr c3;have c4:=yb hBr c4;have HFV:Hid (fvOk w0 ⟨l[k],0,rv,av,bv⟩):=Lh ⟨hnl,hrv,hav,hbv⟩;obtain⟨ro,rn,rc,rfl⟩:∃ a n c,rv=.slice a n c:=by obtain⟨a,c,rfl,_⟩:=hrv;exact⟨_,_,_,rfl⟩
   obtain⟨so,sn,sc,rfl⟩:∃ a n c,av=.slice a n c:=by obtain⟨a,c,rfl,_⟩:=hav;exact⟨_,_,_,rfl⟩
   obtain⟨bo,bn,bc,rfl⟩:∃ a n c,bv=.slice a n c:=by obtain⟨a,c,rfl,_⟩:=hbv;exact⟨_,_,_,rfl⟩
   have HTK:=Lh (ypN (pr:=prL) d (4*(lev+1)) hlt);have hle:=ytD (pr:=prL) d (4*(lev+1)) l (k+1);rw[HS2.out,HTK.out,List.length_append] at hle;have HVS:=Lh (vL_at HV.out hlt);have HOK:=Lh (ytE HO.out hlt);have HR:=Lh (ypO l[k] (IH.out l[k] (List.getElem_mem hlt)));obtain⟨x,hx⟩:∃ x,l[k]=x:=⟨_,rfl⟩
   rw[hx] at c0 c1 HFV HTK HVS HOK HR hle;clear hx hst0 hnl hrv hav hbv
   have hz:(acc++P1++stL prL d (4*(lev+1)) (l.take k)).length+(stS prL d (4*(lev+1)) x).length+10000<=1000000:=by
    rw[List.length_append,List.length_append];omega
   obtain⟨Y,hY⟩:∃ Y,bb x.name=Y:=⟨_,rfl⟩
   have HC:Hid (Calls Tryz.prog 151 #[.pointer (some ⟨b,0,none⟩),.agg #[.int .i64 x.kind,.string Y,.slice ro rn rc,.slice so sn sc,.slice bo bn bc]] (wr.alloc (.cells #[.int .i64 x.kind,.string Y,.slice ro rn rc,.slice so sn sc,.slice bo bn bc] 67)) fun e w'=>e=.returned (.tuple #[])/\Wr w' b (acc++P1++stL prL d (4*(lev+1)) (l.take k)++stS prL d (4*(lev+1)) x) ((lev+1:Nat):Int) (yc3 d)/\Fr b (wr.alloc (.cells #[.int .i64 x.kind,.string Y,.slice ro rn rc,.slice so sn sc,.slice bo bn bc] 67)) w'):=Lh (by
    rw[<- hY];exact HR.out w0 _ b _ (lev+1) d _ _ _ (Lh (yco hBr (al1 ..))) hwb (Lh (HB.out.alloc _)) HFV HVS HOK hz)
   rw[hY] at c1;have z0:(0:Int)<=(k:Int):=by omega
   have z1:(k:Int)<(l.length:Int):=by omega
   have hbr:=HB.out.lt;clear hY hle HR HFV hBr hz;go_wp2_with fail
   refine(HC.out).mono ?_;rintro e w3 ⟨rfl,h3,hf3⟩;have H3:Hid (Wr w3 b (acc++P1++stL prL d (4*(lev+1)) (l.take (k+1))) ((lev+1:Nat):Int) (yc3 d)):=Lh (by rw[HTK.out,<- List.append_assoc];exact h3);have HF3:=Lh ((HF.out.alloc (Nat.le_of_lt hbr) _).trans hf3);clear h3 hf3 HC;go_wp2
   go_roundw
   case rel=>exact⟨k+1,by omega,by go_num,H3,HF3⟩
   case measure=>simp[intOf];omega
  ·obtain rfl:k=l.length:=by omega
   have hall:=HB.out;rw[List.take_length,HS2.out] at hall;obtain⟨c2,-,f2⟩:=ydI hall;have c2:wr.cell? ⟨b,2,none⟩=some (.int .i64 ((lev:Int)+1)):=c2;have hw3:Wr (wr.setCell ⟨b,2,none⟩ (.int .i64 (lev:Int))) b (acc++P1++S) (lev:Int) (yc3 d):=yqI hall _;have HF3:=Lh (HF.out.set 2 (.int .i64 (lev:Int)));have hz:((lev:Int)+1-1)=(lev:Int):=by omega
   have HW3:=Lh hw3;have hs3:b<(wr.setCell ⟨b,2,none⟩ (.int .i64 (lev:Int))).heap.size:=hw3.lt;have hlz:(acc++P1++S).length+4*lev+10<=1000000:=by rw[List.length_append,List.length_append];omega
   clear hall hw3 HB HW2;go_wp2_with fail
   have hsz:(wr.setCell ⟨b,2,none⟩ (.int .i64 (lev:Int))).heap.size=wr.heap.size:=by simp[World.setCell]
   have hrow:=yd0 (wr.setCell ⟨b,2,none⟩ (.int .i64 (lev:Int))) [⟨#[125]⟩] #[.string ⟨#[125]⟩] rfl;rw[hsz] at hrow
   have hl5:(acc++P1++S).length+4*lev+(yaA [⟨#[125]⟩]).length+1<=1000000:=by
    have e:(yaA [⟨#[125]⟩]).length=1:=rfl;omega
   refine(ycY b (acc++P1++S) lev (yc3 d) wr.heap.size 1 [⟨#[125]⟩] _ (Lh (HW3.out.alloc _)) (Lh hrow) (by omega) rfl (by decide) hl5).mono ?_;rintro e w5 ⟨rfl,h5,hf5⟩;have hfr:=(HF3.out.alloc (Nat.le_of_lt hs3) _).trans hf5;have hfin:Wr w5 b (acc++yk4 d lev kw X l) lev (yc3 d):=by rw[HT.out];simpa [List.append_assoc] using h5
   go_wp2
   go_end0
   exact⟨rfl,hfin,hfr⟩
theorem yiy (l:List St):CBl l:=ydR ypP l
end Go.Proofs.YtgmidodmmlmmeaaGreatDoor.prt
namespace Go.Proofs.YtgmidodmmlmmeaaGreatDoor.prt
open Go.RowKit Go.Sort lex tre
end Go.Proofs.YtgmidodmmlmmeaaGreatDoor.prt
namespace Go.Proofs.YtgmidodmmlmmeaaGreatDoor.prt
open Go.RowKit Go.Sort lex tre _root_.Go.Proofs.Tryz
theorem ysn (T:Tr){d:Bool}{X kw:ByteArray}(hd:T.dir=d)(hX:X.data.toList=T.name)(hk:kw.data.toList=yrW d):yk4 d 0 kw X T.body=ytl prL T:=by
 unfold yk4 ytl;rw[hd,hX,hk];rfl
theorem ynd (T:Tr)(v:Value)(Q:ByteArray)(w:World)(h:Hid (TrV w v T))(hc:cnt T.body<=600)(ho:Hid (okL T.body))(hq:Hid (yph prL T=Q.data.toList))(hQ:Q.size<=900000) :
    Calls Tryz.prog 39 #[v] w fun e w'=>e=.returned (.string Q)/\Below w.heap.size w w':=by
 obtain⟨bv,rfl,hnm,hbv⟩:=h.out;obtain⟨bo,bn,bc,rfl⟩:∃ a n c,bv=.slice a n c:=by obtain⟨a,c,rfl,_⟩:=hbv;exact⟨_,_,_,rfl⟩
 obtain⟨R,hR⟩:∃ R,yab T=R:=⟨_,rfl⟩
 have HR:=Lh hR;obtain⟨X,hX⟩:∃ X,bb T.name=X:=⟨_,rfl⟩
 have HX:=Lh hX;obtain⟨d,hd⟩:∃ d,T.dir=d:=⟨_,rfl⟩
 have HD:=Lh hd;rw[hX,hd] at h |-;clear hX hd;have hB:=al1 w (.cells #[.string X,.bool d,.slice bo bn bc] 33);obtain⟨c0,c1,c2⟩:=yha w X d (.slice bo bn bc) 33;have HT:=Lh (h.out.keep hB);have hr:=hq.out;unfold yph at hr;rw[hR] at hr;have HBV:=Lh hbv;clear hbv hR h hq
 by_cases h0:R=0
 ·subst h0
  rw[if_pos rfl] at hr;have hval:=(yaO T).1 HR.out;have s1:=ydi hval.1;have HVL:Hid (vL T.body):=Lh ⟨0,hval.2.2⟩;have hX1:X.data.toList=T.name:=by rw[<- HX.out]
  have hXs:X.size<=16:=by rw[<- yz,hX1];exact s1
  have HTX:Hid (∀ kw:ByteArray,kw.data.toList=yrW d->yk4 d 0 kw X T.body=Q.data.toList):=Lh (fun kw hk=>by rw[ysn T HD.out hX1 hk,hr])
  have hQ0:Q.data.toList≠[]:=by
   rw[<- hr];unfold ytl yrW
   split <;> simp
  have HQ0:=Lh hQ0;clear hr hval s1 hX1 HX HD hnm hQ0;go_enter func39,ntmps39;go_wp2_with fail
  refine(yho _ T 0 _ HT (by omega) HR).mono ?_;rintro e w1 ⟨rfl,hb1⟩;have hB1:=ya hb1 hB;have c0:=ye hb1 c0;have c1:=ye hb1 c1;have c2:=ye hb1 c2;have C1:=Lh c1;have hs1:=hB1.size;have hnew:=ytm w1 (yc3 d)
  have hq5:∀ kw:ByteArray,kw.data.toList=yrW d->([]:List UInt8).length+(yk4 d 0 kw X T.body).length+10000<=1000000:=fun kw hk=>by
   rw[HTX.out kw hk,yz];simp;omega
  have HQ5:=Lh hq5;have hb2:=al1 w1 (.cells #[.pointer none,.slice none 0 0,.int .i64 0,.string (yc3 d)] 151);have d0:=ye hb2 c0;have d2:=ye hb2 c2;have HB2:=Lh (ya hb2 hB1);have HNEW:Hid (Wr (w1.alloc (.cells #[.pointer none,.slice none 0 0,.int .i64 0,.string (yc3 d)] 151)) w1.heap.size [] ((0:Nat):Int) (yc3 d)):=Lh hnew;clear hb1 hB c1 hq5 hnew hb2;cases d
  ·have c1:=C1.out
   have e0:(w1.alloc (.cells #[.pointer none,.slice none 0 0,.int .i64 0,.string ⟨#[32,45,45,32]⟩] 151)).cell? ⟨w.heap.size,0,none⟩=some (.string X):=d0;have e2:(w1.alloc (.cells #[.pointer none,.slice none 0 0,.int .i64 0,.string ⟨#[32,45,45,32]⟩] 151)).cell? ⟨w.heap.size,2,none⟩=some (.slice bo bn bc):=d2;clear d0 d2;go_wp2_with fail
   refine(yiy T.body w _ w1.heap.size [] 0 false ⟨#[103,114,97,112,104]⟩ X _ HB2 hs1 HNEW HBV HVL ho hXs (by decide) (HQ5.out ⟨#[103,114,97,112,104]⟩ rfl)).mono ?_;rintro e w5 ⟨rfl,h5,hf5⟩;rw[List.nil_append,HTX.out ⟨#[103,114,97,112,104]⟩ rfl] at h5;have H5:=Lh h5;have hB5:=HB2.out.trans (hf5.1.mono hs1);clear h5 hf5
   go_wp2_with (go_at_call 87;refine(yhh w1.heap.size Q.data.toList w5 H5 HQ0.out).mono ?_;rintro e w6 ⟨rfl,hb6⟩)
   go_ret;exact⟨yay (ycm (by simp)),hB5.trans (hb6.mono hs1)⟩
  ·have c1:=C1.out
   have e0:(w1.alloc (.cells #[.pointer none,.slice none 0 0,.int .i64 0,.string ⟨#[32,45,62,32]⟩] 151)).cell? ⟨w.heap.size,0,none⟩=some (.string X):=d0;have e2:(w1.alloc (.cells #[.pointer none,.slice none 0 0,.int .i64 0,.string ⟨#[32,45,62,32]⟩] 151)).cell? ⟨w.heap.size,2,none⟩=some (.slice bo bn bc):=d2;clear d0 d2;go_wp2_with fail
   refine(yiy T.body w _ w1.heap.size [] 0 true ⟨#[100,105,103,114,97,112,104]⟩ X _ HB2 hs1 HNEW HBV HVL ho hXs (by decide) (HQ5.out ⟨#[100,105,103,114,97,112,104]⟩ rfl)).mono ?_;rintro e w5 ⟨rfl,h5,hf5⟩;rw[List.nil_append,HTX.out ⟨#[100,105,103,114,97,112,104]⟩ rfl] at h5;have H5:=Lh h5;have hB5:=HB2.out.trans (hf5.1.mono hs1);clear h5 hf5
   go_wp2_with (go_at_call 87;refine(yhh w1.heap.size Q.data.toList w5 H5 HQ0.out).mono ?_;rintro e w6 ⟨rfl,hb6⟩)
   go_ret;exact⟨yay (ycm (by simp)),hB5.trans (hb6.mono hs1)⟩
 ·rw[if_neg h0] at hr
  have HE:Hid ((⟨#[]⟩:ByteArray)=Q):=Lh (ycm (by rw[<- hr]));have b0:(R != 0)=true:=by simp[h0]
  clear hr h0;go_enter func39,ntmps39
  go_wp2_with (go_at_call 32;refine(yho _ T R _ HT (by omega) HR).mono ?_;rintro e w1 ⟨rfl,hb1⟩)
  go_ret;exact⟨yay HE.out,ya hb1 hB⟩
end Go.Proofs.YtgmidodmmlmmeaaGreatDoor.prt
