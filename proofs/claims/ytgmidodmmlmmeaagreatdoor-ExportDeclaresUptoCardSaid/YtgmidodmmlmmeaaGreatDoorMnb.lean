/-
  Contracts and plain facts of the layers below; conditions as each theorem states them.
-/
import Derived.Test.YtgmidodmmlmmeaaGreatDoorMna
import Derived.Deep.RegionHeldLaw
set_option maxHeartbeats 4000000
set_option maxRecDepth 100000
namespace Go.Proofs.YtgmidodmmlmmeaaGreatDoor.nor
open Go.RowKit lex tre att _root_.Go.Proofs.Tryz
def sbx (W:World)(b:Nat)(x y:ByteArray):Prop:=W.cell? ⟨b,0,none⟩=some (.string x)/\W.cell? ⟨b,1,none⟩=some (.string y)/\W.frozen? ⟨b,0,none⟩=false/\W.frozen? ⟨b,1,none⟩=false
theorem ysp (w:World)(x y:ByteArray)(t:TypeId):sbx (w.alloc (.cells #[.string x,.string y] t)) w.heap.size x y:=by
 refine⟨?_,?_,?_,?_⟩ <;> go_simp
def tbx (W:World)(b:Nat)(k:Int)(n:ByteArray)(rv av bv:Value):Prop:=W.cell? ⟨b,0,none⟩=some (.int .i64 k)/\W.cell? ⟨b,1,none⟩=some (.string n)/\W.cell? ⟨b,2,none⟩=some rv/\W.cell? ⟨b,3,none⟩=some av/\W.cell? ⟨b,4,none⟩=some bv
theorem ysq (w:World)(k:Int)(n:ByteArray)(ro ao bo:Option Addr)(rn rc an ac bn bc:Nat)(t:TypeId):tbx (w.alloc (.cells #[.int .i64 k,.string n,.slice ro rn rc,.slice ao an ac,.slice bo bn bc] t)) w.heap.size k n (.slice ro rn rc) (.slice ao an ac) (.slice bo bn bc):=by
 refine⟨?_,?_,?_,?_,?_⟩ <;> go_simp
theorem yks {w w':World}{b:Nat}{k:Int}{n:ByteArray}{rv av bv:Value}(h:tbx w b k n rv av bv)(hb:Below w.heap.size w w'):tbx w' b k n rv av bv:=by
 obtain⟨a0,a1,a2,a3,a4⟩:=h;exact⟨ye hb a0,ye hb a1,ye hb a2,ye hb a3,ye hb a4⟩
theorem ypT (k:Int)(n:ByteArray)(ro bo:Option Addr)(rn rc bn bc:Nat)(av:Value)(a:Pr)(t:List Pr)(w:World)(h:Hid (Prs w av (a::t))) :
    Calls Tryz.prog 102 #[.agg #[.int .i64 k,.string n,.slice ro rn rc,av,.slice bo bn bc]] w fun e w'=>e=.returned (.agg #[.string n,.string (bb a.2)])/\Below w.heap.size w w':=by
 have hmx:Tryz.prog.follows .mixedOrders=true:=by kernel_rfl
 obtain⟨ao,ac,rfl,-,-,hA⟩:=id h.out;obtain⟨A,rfl,hat⟩:=hA (by simp);have h0:=hat 0 (by simp);unfold prAt at h0;simp only[List.getElem_cons_zero,Nat.zero_mul] at h0;obtain⟨-,q1,-⟩:=h0;obtain⟨Y,hY⟩:∃ Y,bb a.2=Y:=⟨_,rfl⟩
 obtain⟨L,hL⟩:∃ L,t.length+1=L:=⟨_,rfl⟩
 have hLp:(0:Int)<(L:Int):=by omega
 have hLn:0<L:=by omega
 have hA0:A.add 0=A:=by unfold Addr.add;rw[if_pos rfl]
 rw[hA0] at q1;rw[hY] at q1;rw[hY];simp only[List.length_cons,hL];have hB:=al2 w (.cells #[.int .i64 k,.string n,.slice ro rn rc,.slice (some A) L ac,.slice bo bn bc] 67) (.cells #[.string ⟨#[]⟩,.string ⟨#[]⟩] 69);have hT:tbx ((w.alloc (.cells #[.int .i64 k,.string n,.slice ro rn rc,.slice (some A) L ac,.slice bo bn bc] 67)).alloc (.cells #[.string ⟨#[]⟩,.string ⟨#[]⟩] 69)) w.heap.size k n (.slice ro rn rc) (.slice (some A) L ac) (.slice bo bn bc):=yks (ysq ..) (al1 ..)
 have hS:sbx ((w.alloc (.cells #[.int .i64 k,.string n,.slice ro rn rc,.slice (some A) L ac,.slice bo bn bc] 67)).alloc (.cells #[.string ⟨#[]⟩,.string ⟨#[]⟩] 69)) (w.heap.size+1) ⟨#[]⟩ ⟨#[]⟩:=by
  have:=ysp (w.alloc (.cells #[.int .i64 k,.string n,.slice ro rn rc,.slice (some A) L ac,.slice bo bn bc] 67)) ⟨#[]⟩ ⟨#[]⟩ 69
  rwa [World.size_alloc] at this
 have q1':=yb hB q1;obtain⟨W2,hW2⟩:∃ W2,(w.alloc (.cells #[.int .i64 k,.string n,.slice ro rn rc,.slice (some A) L ac,.slice bo bn bc] 67)).alloc (.cells #[.string ⟨#[]⟩,.string ⟨#[]⟩] 69)=W2:=⟨_,rfl⟩
 rw[hW2] at hB hT hS q1';have HB:=Lh hB;have HT:=Lh hT;have HS:=Lh hS;have HQ:=Lh q1';have HW2:=Lh hW2;clear hB hT hS q1' q1 hW2 hat hA hY hL h;go_enter func102,ntmps102;go_wp2_with fail
 rw[HW2.out];have hBd:=HB.out.drew;have hTd:=yks HT.out (Below.refl W2.heap.size W2).drew;have hSd:sbx W2.drew (w.heap.size+1) ⟨#[]⟩ ⟨#[]⟩:=HS.out;have hQd:=yb (Below.refl W2.heap.size W2).drew HQ.out;refine wp_region_still_tail 8 (by kernel_rfl) (by kernel_rfl) ?_
 change wpStill _ _ W2.drew (fun a'=>wpList _ _ _ _ a' W2.drew) _ _
 generalize W2.drew=wd at *;obtain⟨t0,t1,t2,t3,t4⟩:=hTd;obtain⟨s0,s1,s2,s3⟩:=hSd;simp only[List.take_succ_cons,List.take_zero,List.drop_succ_cons,List.drop_zero]
 repeat still_step
 refine wpStill_nil ?_;go_wp2;have r0:(wd.setCell ⟨w.heap.size+1,0,none⟩ (.string n)).cell? ⟨w.heap.size+1,0,none⟩=some (.string n):=by go_simp
 have r1:((wd.setCell ⟨w.heap.size+1,0,none⟩ (.string n)).setCell ⟨w.heap.size+1,1,none⟩ (.string Y)).cell? ⟨w.heap.size+1,1,none⟩=some (.string Y):=by go_simp
 exact bodyPost_ret (v:=.agg #[.string n,.string Y]) (by simp[results,results102,go_sem,r0,r1]) rfl ⟨rfl,(hBd.setCell (by simp) _).setCell (by simp) _⟩
def yja (w:World)(c:Nat)(v:Value)(l:List Cl):Prop :=
 ∃ (ao:Option Addr) (cap:Nat),v=.slice ao l.length cap/\l.length<=maxLen/\∀ k (h:k<l.length),∃ A,ao=some A/\w.cell? (A.add (k*c))=some (.string (bb l[k].1))
theorem yhs {W:World}{B c:Nat}{t:TypeId}{v:Value}{l:List Cl}{f:Cl->List Value}(hf:∀ x,(f x).length=c)(h0:∀ x,(f x)[0]?=some (.string (bb x.1)))(h:W.ownsRow B t c v l.length (l.flatMap f)):yja W c v l:=by
 obtain⟨ao,cap,rfl,h1,h2⟩:=yu h;refine⟨ao,cap,rfl,by omega,fun k hk=>?_⟩;obtain⟨g,cap',arr,e,_,hg,_,_,h3⟩:=yaE h (by omega);cases e
 have hc:0<c:=by
  have:=h0 l[k]
  rcases Nat.eq_zero_or_pos c with q | q
  ·have h9:=hf l[k]
   rw[q,List.length_eq_zero_iff] at h9;rw[h9] at this;cases this
  ·exact q
 refine⟨_,rfl,?_⟩;rw[add_at,Nat.zero_add,yd hg,h3 _ ?_]
 ·have:=yac f c hf l k 0 hk hc
  rw[Nat.add_zero] at this;rw[this];exact h0 _
 ·have:(k+1)*c<=l.length*c:=Nat.mul_le_mul_right c hk
  rw[Nat.add_mul] at this;omega
theorem ypU {l:List Cl}{k:Nat}(h:k<l.length)(n:Nm):yG (l.drop k) n k=if l[k].1=n then (k:Int) else yG (l.drop (k+1)) n (k+1):=by
 rw[List.drop_eq_getElem_cons h,yG]
theorem ynf {l:List Cl}{k:Nat}(h:l.length<=k)(n:Nm):yG (l.drop k) n k=-1:=by
 rw[List.drop_of_length_le h,yG]
theorem ypV {l:List Cl}{k:Nat}(h:k<l.length)(n:Nm):yaw (l.drop k) n=(l[k].1==n||yaw (l.drop (k+1)) n):=by
 rw[List.drop_eq_getElem_cons h];unfold yaw;rw[List.any_cons]
theorem yhg (b:Nat)(nv:Value)(l:List Cl)(s:ByteArray)(R:Int)(w:World)(h0:w.cell? ⟨b,2,none⟩=some nv)(h:Hid (yja w 6 nv l))(hr:Hid (yG l s.data.toList 0=R)) :
    Calls Tryz.prog 169 #[.pointer (some ⟨b,0,none⟩),.string s] w fun e w'=>e=.returned (.int .i64 R)/\w'=w:=by
 obtain⟨ao,cap,rfl,hm,_⟩:=id h.out;unfold maxLen at hm;have HR:Hid (yG (l.drop 0) s.data.toList 0=R):=hr;have hlm:l.length<=9223372036854775807:=by omega
 clear hm hr;go_enter func169,ntmps169;go_wp2_with fail
 go_loop [5] (fun iv=>∃ k:Nat,iv=.int .i64 k/\k<=l.length/\yG (l.drop k) s.data.toList k=R) (fun iv=>l.length-(intOf iv).toNat)
 case atStart=>exact⟨0,rfl,Nat.zero_le _,HR.out⟩
 case round =>
  obtain⟨k,rfl,hk,hfe⟩:=hrel;clear HR
  by_cases hlt:k<l.length
  ·rw[ypU hlt] at hfe
   obtain⟨ao',cap',e,_,hAt⟩:=h.out;obtain⟨A,hA,q0⟩:=hAt k hlt;cases e
   subst hA;obtain⟨Y,hY⟩:∃ Y,bb l[k].1=Y:=⟨_,rfl⟩
   rw[hY] at q0;have hY2:Y.data.toList=l[k].1:=by rw[<- hY]
   have i0:(0:Int)<=(k:Int):=by omega
   have i1:(k:Int)<(l.length:Int):=by omega
   clear hAt
   by_cases hxy:l[k].1=s.data.toList
   ·have b1:(Y.toList==s.toList)=true:=by rw[ByteArray.toList_eq,ByteArray.toList_eq,hY2,beq_iff_eq];exact hxy
    rw[if_pos hxy] at hfe;subst hfe;clear hY hY2 hxy;go_wp2;go_ret;exact⟨rfl,rfl⟩
   ·have b1:(Y.toList==s.toList)=false:=by rw[ByteArray.toList_eq,ByteArray.toList_eq,hY2,beq_eq_false_iff_ne];exact hxy
    rw[if_neg hxy] at hfe;have HF:=Lh hfe;clear hY hY2 hxy hfe;go_wp2
    go_round
    case rel=>exact⟨k+1,by go_num,by omega,HF.out⟩
    case measure=>simp[intOf];omega
  ·rw[ynf (by omega)] at hfe
   subst hfe;go_wp2;go_ret;exact⟨rfl,rfl⟩
theorem yed (b:Nat)(nv:Value)(l:List Cl)(s:ByteArray)(R:Bool)(w:World)(h0:w.cell? ⟨b,4,none⟩=some nv)(h:Hid (yja w 2 nv l))(hr:Hid (yaw l s.data.toList=R)) :
    Calls Tryz.prog 168 #[.pointer (some ⟨b,0,none⟩),.string s] w fun e w'=>e=.returned (.bool R)/\w'=w:=by
 obtain⟨ao,cap,rfl,hm,_⟩:=id h.out;unfold maxLen at hm;have HR:Hid (yaw (l.drop 0) s.data.toList=R):=hr;have hlm:l.length<=9223372036854775807:=by omega
 clear hm hr;go_enter func168,ntmps168;go_wp2_with fail
 go_loop [5] (fun iv=>∃ k:Nat,iv=.int .i64 k/\k<=l.length/\yaw (l.drop k) s.data.toList=R) (fun iv=>l.length-(intOf iv).toNat)
 case atStart=>exact⟨0,rfl,Nat.zero_le _,HR.out⟩
 case round =>
  obtain⟨k,rfl,hk,hfe⟩:=hrel;clear HR
  by_cases hlt:k<l.length
  ·rw[ypV hlt] at hfe
   obtain⟨ao',cap',e,_,hAt⟩:=h.out;obtain⟨A,hA,q0⟩:=hAt k hlt;cases e
   subst hA;obtain⟨Y,hY⟩:∃ Y,bb l[k].1=Y:=⟨_,rfl⟩
   rw[hY] at q0;have hY2:Y.data.toList=l[k].1:=by rw[<- hY]
   have i0:(0:Int)<=(k:Int):=by omega
   have i1:(k:Int)<(l.length:Int):=by omega
   clear hAt
   by_cases hxy:l[k].1=s.data.toList
   ·have b1:(Y.toList==s.toList)=true:=by rw[ByteArray.toList_eq,ByteArray.toList_eq,hY2,beq_iff_eq];exact hxy
    rw[beq_iff_eq.2 hxy,Bool.true_or] at hfe;subst hfe;clear hY hY2 hxy;go_wp2;go_ret;exact⟨rfl,rfl⟩
   ·have b1:(Y.toList==s.toList)=false:=by rw[ByteArray.toList_eq,ByteArray.toList_eq,hY2,beq_eq_false_iff_ne];exact hxy
    rw[beq_eq_false_iff_ne.2 hxy,Bool.false_or] at hfe;have HF:=Lh hfe;clear hY hY2 hxy hfe;go_wp2
    go_round
    case rel=>exact⟨k+1,by go_num,by omega,HF.out⟩
    case measure=>simp[intOf];omega
  ·rw[List.drop_of_length_le (by omega)] at hfe
   subst hfe;go_wp2;go_ret;exact⟨rfl,rfl⟩
def PrsS (B:Nat)(w:World)(v:Value)(l:List Pr):Prop:=∀ w',TFr w w'->Below B w w'->Prs w' v l
theorem PrsS.now {B:Nat}{w:World}{v:Value}{l:List Pr}(h:PrsS B w v l):Prs w v l:=h w (TFr.refl w) (Below.refl B w)
theorem ypW {B:Nat}{w:World}{v:Value}{l:List Pr}(h:PrsT w v l):PrsS B w v l:=fun _ ht _=>(ht.prs h).1
theorem ycq {w0 w:World}{v:Value}{l:List Pr}(h:Prs w0 v l)(hb:Below w0.heap.size w0 w):PrsS w0.heap.size w v l:=fun _ _ hb'=>h.keep (hb.trans hb')
theorem yss {k:Int}{l:List Pr}{i:Nat}(h:i<l.length):yb1 k (l.drop i)=if yaa k l[i]≠0 then yaa k l[i] else yb1 k (l.drop (i+1)):=by
 rw[List.drop_eq_getElem_cons h,yb1]
theorem ypX {P:Program}{fn:Func}{R:Ending->World->Prop}{a:Act}{w:World}(hr:fn.results=#[])(hd:a.defers=[])(hR:R (.returned (.tuple #[])) w):bodyPost P fn R .normal a w :=
 bodyPost_end (results_none hr _ _ _) hd hR
def yc4 (B b:Nat)(nm:Nm)(d:Bool)(s:Sta)(w w':World):Prop:=∃ x,StB w' B b nm d s x/\TFr w w'/\Below B w w'
theorem ybz (B b:Nat)(nm:Nm)(d:Bool)(s:Sta)(x:StV)(k:Int)(v:Value)(l:List Pr)(w:World)(hS:Hid (StB w B b nm d s x))(h0:s.e=0)(h:Hid (PrsS B w v l))(hv:Hid (∀ a∈l,a.2.length<=20000)) :
    Calls Tryz.prog 101 #[.pointer (some ⟨b,0,none⟩),.int .i64 k,v] w fun e w'=>e=.returned (.tuple #[])/\yc4 B b nm d ⟨s.ns,s.ats,s.cs,s.en,yb1 k l⟩ w w':=by
 obtain⟨ao,cap,rfl,hc,hm,_⟩:=id h.out.now;unfold maxLen at hm;have hlm:l.length<=9223372036854775807:=by omega
 obtain⟨R,hR⟩:∃ R,yb1 k l=R:=⟨_,rfl⟩
 rw[hR];have HR:=Lh hR;clear hc hm hR;go_enter func101,ntmps101;go_wp2_with fail
 go_loopw [6] (fun iv wr=>∃ (i:Nat) (e:Int),iv=.int .i64 i/\i<=l.length/\StB wr B b nm d ⟨s.ns,s.ats,s.cs,s.en,e⟩ x/\(e≠0->e=R)/\(e=0->yb1 k (l.drop i)=R)/\TFr w wr/\Below B w wr) (fun iv _=>l.length-(intOf iv).toNat)
 case atStart=>exact⟨0,0,rfl,Nat.zero_le _,by have:=hS.out;rw[<- h0];exact this,by simp,fun _=>HR.out,TFr.refl w,Below.refl B w⟩
 case round =>
  obtain⟨i,e,rfl,hi,hst,he1,he2,ht,hb⟩:=hrel
  rename World=>wr
  obtain⟨c2,c4,c5,c6,c7⟩:=hst.box.read;have hfz:=hst.box.open 7;have HST:=Lh hst;have HT:=Lh ht;have HB:=Lh hb;have HE1:=Lh he1;have HE2:=Lh he2;clear hst ht hb he1 he2 c2 c4 c5 c6
  by_cases hlt:i<l.length
  ·by_cases he:e=0
   ·subst he
    have hfe:=HE2.out rfl;rw[yss hlt] at hfe;obtain⟨ao',cap',e',_,_,hA⟩:=h.out wr HT.out HB.out;cases e'
    obtain⟨A,rfl,hAt⟩:=hA (by omega);obtain⟨q0,q1,-,-⟩:=hAt i hlt;obtain⟨u,hu⟩:∃ u,l[i]=u:=⟨_,rfl⟩
    have HV:u.2.length<=20000:=by rw[<- hu];exact hv.out _ (List.getElem_mem hlt)
    rw[hu] at q0 q1 hfe;obtain⟨e0,he0⟩:∃ e0,yaa k u=e0:=⟨_,rfl⟩
    rw[he0] at hfe;have HF:=Lh hfe;have HE0:=Lh he0;have HU:=Lh hu;have i0:(0:Int)<=(i:Int):=by omega
    have i1:(i:Int)<(l.length:Int):=by omega
    clear hA hAt hfe he0 hu;go_wp2_with fail
    refine(ymk _ u e0 wr HV HE0).mono ?_;rintro e w1 ⟨rfl,hb1⟩;have hs1:=HST.out.below hb1;have z0:=hs1.box.open 7;obtain⟨z1,z2⟩:∃ y,w1.cell? ⟨b,7,none⟩=some y:=⟨_,hs1.box.read.2.2.2.2⟩
    have HS1:=Lh hs1;have HB1:=Lh hb1;clear hs1 hb1;go_wp2
    go_roundw
    case rel =>
     obtain⟨m1,m2,m3⟩:=HS1.out.err e0;refine⟨i+1,e0,by go_num,by omega,m1,fun hne=>?_,fun hz=>?_,(HT.out.trans (TFr.below HB1.out)).trans m2,(HB.out.trans (HB1.out.mono (HST.out.base))).trans m3⟩
     ·have:=HF.out;rwa [if_pos hne] at this
     ·have:=HF.out;rwa [if_neg (by simpa using hz)] at this
    case measure=>simp[intOf];omega
   ·have hd:decide (e=0)=false:=decide_eq_false he
    have hRe:=HE1.out he;go_wp2;refine ypX rfl rfl ?_;exact⟨rfl,x,by rw[<- hRe];exact HST.out,HT.out,HB.out⟩
  ·obtain rfl:i=l.length:=by omega
   have hRe:e=R:=by
    by_cases he:e=0
    ·have:=HE2.out he
     rw[List.drop_length,yb1] at this;rw[he];exact this
    ·exact HE1.out he
   clear HE1 HE2;go_wp2;refine ypX rfl rfl ?_;exact⟨rfl,x,by rw[<- hRe];exact HST.out,HT.out,HB.out⟩
theorem ybu (f:Act->World->Prop):∃ M:Act->World->Prop,Hid (∀ a w,M a w↔f a w):=⟨f,Lh fun _ _=>Iff.rfl⟩
theorem ybU {P:Program}{x y:Code}{Q:Exit->Act->World->Prop}{a:Act}{w:World}(M:Act->World->Prop)(h1:x.wp P (fun e a' w'=>e=.normal/\M a' w') a w)(h2:∀ a' w',M a' w'->y.wp P Q a' w'):(Code.seq x y).wp P Q a w :=
 wp_seq (wp_mono h1 fun e a' w' hh=>by obtain⟨he,hm⟩:=hh;subst he;exact h2 a' w' hm)
theorem yf {W:World}{A:Addr}{v:Value}(h:W.cell? A=some v):W.drew.cell? A=some v:=h
theorem yh {W:World}{A:Addr}{v:Value}{o:Obj}(h:W.cell? A=some v):(W.alloc o).cell? A=some v:=yb (al1 ..) h
theorem yC {W:World}{A:Addr}{v u:Value}{b o:Nat}(h0:A.block≠b)(h:W.cell? A=some v):(W.setCell ⟨b,o,none⟩ u).cell? A=some v:=by rw[World.cell?_setCell_far W ⟨b,o,none⟩ A u (Ne.symm h0)];exact h
theorem yy {B:Nat}{a w:World}{o:Obj}(h:Below B a w)(hB:B<=w.heap.size):Below B a (w.alloc o):=h.alloc hB o
theorem yng:(Tryz.prog.info? 59).map (fun i=>(i.zero,i.size,i.bytes))=some (some (.agg #[.string ⟨#[]⟩,.string ⟨#[]⟩,.int .i64 0,.int .i64 0,.int .i64 0,.slice none 0 0]),6,80):=by kernel_rfl
theorem ynh:(Tryz.prog.info? 65).map (fun i=>(i.zero,i.size,i.bytes))=some (some (.slice none 0 0),1,24):=by kernel_rfl
theorem ycM {P:Program}{t:TypeId}{z:Option Value}{c n:Nat}(h:(P.info? t).map (fun i=>(i.zero,i.size,i.bytes))=some (z,c,n)):∃ i,P.info? t=some i/\i.zero=z/\i.size=c/\i.bytes=n:=by
 cases hq:P.info? t with
 | none=>rw[hq] at h;cases h
 | some i =>
  rw[hq] at h;simp only[Option.map_some,Option.some.injEq,Prod.mk.injEq] at h;exact⟨i,rfl,h.1,h.2.1,h.2.2⟩
theorem ygt (B b:Nat)(nm:Nm)(d:Bool)(s:Sta)(x:StV)(n:Nm)(p:Pl)(pv dv:Value)(w:World)(hS:Hid (StB w B b nm d s x))(hp:Hid (PrsT w pv p.dn))(hl:s.ns.length<=3000000)(hal:s.ats.length<=3000000) :
    Calls Tryz.prog 103 #[.pointer (some ⟨b,0,none⟩),.string (bb n),.agg #[.int .i64 p.cl,pv,dv]] w fun e w'=>e=.returned (.int .i64 (ybS s n))/\yc4 B b nm d (yN s n p) w w':=by
 obtain⟨X,hX⟩:∃ X,bb n=X:=⟨_,rfl⟩
 obtain⟨po,pc,rfl,_,_,_⟩:=id hp.out.prs;rw[hX];go_enter func103,ntmps103;obtain⟨M,HM⟩:=ybu (fun a' w'=>(a'=⟨#[.pointer (some ⟨b,0,none⟩),.string X,.agg #[.int .i64 p.cl,.slice po p.dn.length pc,dv],undef,undef,.pointer (some ⟨w.heap.size,0,none⟩),.int .i64 0,undef,undef,undef,undef,undef,undef,undef,undef,undef,undef,undef,undef,undef,undef,undef,undef,undef,undef,undef,undef,undef,undef,undef,undef,undef,undef,undef,undef,undef,undef,undef,undef,undef,undef,undef,undef,undef,undef,undef,undef,undef,undef,undef,undef,undef,undef,undef,undef,undef,undef,undef,undef,undef],[]⟩)/\w'=w.alloc (.cells #[.int .i64 p.cl,.slice po p.dn.length pc,dv] 104));refine ybU M ?_ ?_
 ·go_wp2
  exact(HM.out _ _).2 ⟨rfl,rfl⟩
 intro a' w' hm;obtain⟨rfl,rfl⟩:=(HM.out _ _).1 hm;clear HM hm M;have HX:=Lh hX;clear hX;have hs1:=hS.out.below (al1 w (.cells #[.int .i64 p.cl,.slice po p.dn.length pc,dv] 104));have hbp:=yl w #[.int .i64 p.cl,.slice po p.dn.length pc,dv] 104;have hpp:=hp.out.keep (al1 w (.cells #[.int .i64 p.cl,.slice po p.dn.length pc,dv] 104));have hw1:=al1 w (.cells #[.int .i64 p.cl,.slice po p.dn.length pc,dv] 104);have hPb:w.heap.size≠b:=Nat.ne_of_gt hS.out.lt;generalize w.alloc (.cells #[.int .i64 p.cl,.slice po p.dn.length pc,dv] 104)=W1 at hs1 hbp hpp hw1 |-;obtain⟨M,HM⟩:=ybu (fun a' w'=>(∃ u8 u9 u10 u11 u12 u13 u14 u15 u16 u17 u18 u19 u20,a'=⟨#[.pointer (some ⟨b,0,none⟩),.string X,.agg #[.int .i64 p.cl,.slice po p.dn.length pc,dv],undef,undef,.pointer (some ⟨w.heap.size,0,none⟩),.int .i64 0,undef,u8,u9,u10,u11,u12,u13,u14,u15,u16,u17,u18,u19,u20,undef,undef,undef,undef,undef,undef,undef,undef,undef,undef,undef,undef,undef,undef,undef,undef,undef,undef,undef,undef,undef,undef,undef,undef,undef,undef,undef,undef,undef,undef,undef,undef,undef,undef,undef,undef,undef,undef,undef],[]⟩)/\StB w' B b nm d ⟨s.ns,s.ats,s.cs,s.en,if s.e=0/\yaw s.cs n=true then 6 else s.e⟩ x/\TFr W1 w'/\Below B W1 w');refine ybU M ?_ ?_
 ·obtain⟨c2,c4,c5,c6,c7⟩:=hs1.box.read
  have hfz:=hs1.box.open 7;have HN:Hid (yja W1 2 x.cv s.cs):=Lh (yhs (fun _=>rfl) (fun _=>rfl) hs1.cr);have HS1:=Lh hs1;obtain⟨R,hR⟩:∃ R,yaw s.cs X.data.toList=R:=⟨_,rfl⟩
  have HR:=Lh hR;have HRn:Hid (yaw s.cs n=R):=Lh (by rw[<- hR,<- HX.out]);clear hs1 hbp hpp c2 c5 c6 hR
  by_cases h0:s.e=0
  ·have d0:decide (s.e=0)=true:=decide_eq_true h0
   go_wp2_with fail
   refine(yed b _ _ _ _ W1 c4 HN HR).mono ?_;rintro e w1 ⟨rfl,rfl⟩;cases R
   ·go_wp2
    exact(HM.out _ _).2 ⟨⟨_,_,_,_,_,_,_,_,_,_,_,_,_,rfl⟩,by rw[if_neg (by rw[HRn.out];simp)];exact HS1.out,TFr.refl _,Below.refl _ _⟩
   ·go_wp2
    obtain⟨m1,m2,m3⟩:=HS1.out.err 6;exact(HM.out _ _).2 ⟨⟨_,_,_,_,_,_,_,_,_,_,_,_,_,rfl⟩,by rw[if_pos ⟨h0,HRn.out⟩];exact m1,m2,m3⟩
  ·have d0:decide (s.e=0)=false:=decide_eq_false h0
   go_wp2;exact(HM.out _ _).2 ⟨⟨_,_,_,_,_,_,_,_,_,_,_,_,_,rfl⟩,by rw[if_neg (fun q=>h0 q.1)];exact HS1.out,TFr.refl _,Below.refl _ _⟩
 intro a' W2 hm;obtain⟨⟨u8,u9,u10,u11,u12,u13,u14,u15,u16,u17,u18,u19,u20,rfl⟩,hs2,ht2,hb2⟩:=(HM.out _ _).1 hm;clear HM hm M;have hbp2:=ht2.blk hbp rfl;have hpp2:=ht2.prs hpp;have HT:Hid (TFr w W2):=Lh ((TFr.below hw1).trans ht2);have HB:Hid (Below B w W2):=Lh ((hw1.mono hS.out.base).trans hb2);clear hs1 hbp hpp ht2 hb2 hw1;obtain⟨e2,he2⟩:∃ e2,(if s.e=0/\yaw s.cs n=true then 6 else s.e)=e2:=⟨_,rfl⟩
 have HE2:Hid (yN s n p=if yG s.ns n 0<0 then ⟨s.ns++[(n,p.cl)],s.ats++[p.dn],s.cs,s.en,e2⟩ else ⟨s.ns,s.ats,s.cs,s.en,e2⟩):=Lh (by unfold yN;rw[he2]);rw[he2] at hs2;clear he2;obtain⟨i,hi⟩:∃ i,yG s.ns X.data.toList 0=i:=⟨_,rfl⟩
 have HI:=Lh hi;have HIn:Hid (yG s.ns n 0=i):=Lh (by rw[<- hi,<- HX.out]);clear hi;obtain⟨nv,cv,av,ev,avs,evs⟩:=x;obtain⟨no,nc,hnv,hm1,hm2⟩:=yu hs2.nr;obtain⟨ao,ac,hav,hm3,hm4⟩:=yu hs2.ar;simp only at hnv hav;subst hnv hav;obtain⟨c2,c4,c5,c6,c7⟩:=hs2.box.read;have HN:Hid (yja W2 6 (.slice no s.ns.length nc) s.ns):=Lh (yhs (fun _=>rfl) (fun _=>rfl) hs2.nr);have HS2:=Lh hs2;have HP2:=Lh hbp2;have HPP:=Lh hpp2;clear hs2 hbp2 hpp2 c4 c5 c6 c7 hm1 hm2 hm3 hm4;obtain⟨M,HM⟩:=ybu (fun a' w'=>(∃ u8 u9 u10 u11 u12 u13 u14 u15 u16 u17 u18 u19 u20 u21 u22 u23,a'=⟨#[.pointer (some ⟨b,0,none⟩),.string X,.agg #[.int .i64 p.cl,.slice po p.dn.length pc,dv],undef,undef,.pointer (some ⟨w.heap.size,0,none⟩),.int .i64 0,.int .i64 i,u8,u9,u10,u11,u12,u13,u14,u15,u16,u17,u18,u19,u20,u21,u22,u23,undef,undef,undef,undef,undef,undef,undef,undef,undef,undef,undef,undef,undef,undef,undef,undef,undef,undef,undef,undef,undef,undef,undef,undef,undef,undef,undef,undef,undef,undef,undef,undef,undef,undef,undef,undef],[]⟩)/\w'=W2);refine ybU M ?_ ?_
 ·go_wp2_with fail
  refine(yhg b _ s.ns X i W2 c2 HN HI).mono ?_;rintro e wz ⟨rfl,rfl⟩;clear c2;go_wp2;exact(HM.out _ _).2 ⟨⟨_,_,_,_,_,_,_,_,_,_,_,_,_,_,_,_,rfl⟩,rfl⟩
 intro a' w' hm;obtain⟨⟨u8,u9,u10,u11,u12,u13,u14,u15,u16,u17,u18,u19,u20,u21,u22,u23,rfl⟩,hw9⟩:=(HM.out _ _).1 hm;clear HM hm M;rw[hw9];clear hw9 w'
 by_cases g:0<=i
 ·have dg:decide (0<=i)=true:=decide_eq_true g
  have HNG:Hid (0<=yG s.ns n 0):=Lh (by rw[HIn.out];exact g);clear c2;go_wp2;go_ret;refine⟨by unfold ybS;rw[if_neg (Int.not_lt.2 HNG.out),HIn.out];rfl,⟨.slice no s.ns.length nc,cv,.slice ao avs.length ac,ev,avs,evs⟩,?_,HT.out,HB.out⟩;rw[HE2.out,if_neg (Int.not_lt.2 HNG.out)];exact HS2.out
 have dg:decide (0<=i)=false:=decide_eq_false g;have HNG:Hid (yG s.ns n 0<0):=Lh (by rw[HIn.out];omega);have HMI:Hid (ybS s n=(s.ns.length:Int)):=Lh (by unfold ybS;rw[if_pos HNG.out]);have HE3:Hid (yN s n p=⟨s.ns++[(n,p.cl)],s.ats++[p.dn],s.cs,s.en,e2⟩):=Lh (by rw[HE2.out,if_pos HNG.out]);clear HE2 HN HI HIn c2;obtain⟨M,HM⟩:=ybu (fun a' w'=>(∃ u8 u9 u10 u11 u12 u13 u14 u15 u16 u17 u18 u19 u20 u21 u22 u23 u24 u25 u26,a'=⟨#[.pointer (some ⟨b,0,none⟩),.string X,.agg #[.int .i64 p.cl,.slice po p.dn.length pc,dv],undef,undef,.pointer (some ⟨w.heap.size,0,none⟩),.int .i64 0,.int .i64 i,u8,u9,u10,u11,u12,u13,u14,u15,u16,u17,u18,u19,u20,u21,u22,u23,u24,u25,u26,undef,undef,undef,undef,undef,undef,undef,undef,undef,undef,undef,undef,undef,undef,undef,undef,undef,undef,undef,undef,undef,undef,undef,undef,undef,undef,undef,undef,undef,undef,undef,undef,undef],[]⟩)/\w'=W2);refine ybU M ?_ ?_
 ·go_wp2
  exact(HM.out _ _).2 ⟨⟨_,_,_,_,_,_,_,_,_,_,_,_,_,_,_,_,_,_,_,rfl⟩,rfl⟩
 intro a' w' hm;obtain⟨⟨u8,u9,u10,u11,u12,u13,u14,u15,u16,u17,u18,u19,u20,u21,u22,u23,u24,u25,u26,rfl⟩,hw9⟩:=(HM.out _ _).1 hm;clear HM hm M;rw[hw9];clear hw9 w';obtain⟨i9,hi0,hz0,hz1,hz2⟩:=ycM yng;have hbase:=HS2.out.base;have hbx:=HS2.out.box.read.1;have hblt:=HS2.out.lt;have hS0:=bc 0 HP2.out;obtain⟨M,HM⟩:=ybu (fun a' w'=>(∃ u8 u9 u10 u11 u12 u13 u14 u15 u16 u17 u18 u19 u20 u21 u22 u23 u24 u25 u26 u27 u28 u29 u30 u31 u32 u33 u34 u35 u36 u37 u38 u39 u40 u41,a'=⟨#[.pointer (some ⟨b,0,none⟩),.string X,.agg #[.int .i64 p.cl,.slice po p.dn.length pc,dv],undef,undef,.pointer (some ⟨w.heap.size,0,none⟩),.int .i64 0,.int .i64 i,u8,u9,u10,u11,u12,u13,u14,u15,u16,u17,u18,u19,u20,u21,u22,u23,u24,u25,u26,u27,u28,u29,u30,u31,u32,u33,u34,u35,u36,u37,u38,u39,u40,u41,undef,undef,undef,undef,undef,undef,undef,undef,undef,undef,undef,undef,undef,undef,undef,undef,undef,undef],[]⟩)/\(∃ nv',StB w' B b nm d ⟨s.ns++[(n,p.cl)],s.ats,s.cs,s.en,e2⟩ ⟨nv',cv,.slice ao avs.length ac,ev,avs,evs⟩)/\TFr W2 w'/\Below B W2 w');refine ybU M ?_ ?_
 ·refine wp_region_held_drew (S:=(fun W=>W.cell? ⟨w.heap.size,0,none⟩=some (.int .i64 p.cl))) (by kernel_rfl) (yf hS0) (fun hHeld=>?_)
  refine tk 0 27 (.pointer (some ⟨b,0,none⟩)) ?_;refine tk 1 28 (.pointer (some ⟨b,0,none⟩)) ?_;refine tk 2 29 (.pointer (some ⟨b,0,none⟩)) ?_;refine tk 3 30 (.pointer (some ⟨b,0,none⟩)) ?_;refine tk 4 31 (.pointer (some ⟨b,2,none⟩)) ?_;refine tk 6 33 (.string X) ?_;refine tk 7 34 (.pointer (some ⟨w.heap.size,0,none⟩)) ?_;refine tk 8 35 (.int .i64 p.cl) ?_;refine tk 9 36 (.agg #[.string X,.string ⟨#[]⟩,.int .i64 0,.int .i64 0,.int .i64 p.cl,.slice none 0 0]) ?_
  try simp only[sA,sB,sC]
  refine wpAnyH_ready (rs:=[5,10]) (by kernel_rfl) (by simp) ?_;refine AllReadyH.cons rfl (fun K hK=>?_) (AllReadyH.cons rfl (fun K hK=>?_) AllReadyH.nil)
  ·
   go_simp;refine hK.out _ _ (by repeat (first | assumption | (with_reducible refine yf ?_) | (with_reducible refine yh ?_) | (with_reducible refine yC (by simp only;omega) ?_))) (fun hHeld=>?_);clear hK K
   try simp only[sA,sB,sC]
   refine wpAnyH_ready (rs:=[10]) (by kernel_rfl) (by simp) ?_;refine AllReadyH.cons rfl (fun K hK=>?_) AllReadyH.nil;go_simp;refine hK.out _ _ (by repeat (first | assumption | (with_reducible refine yf ?_) | (with_reducible refine yh ?_) | (with_reducible refine yC (by simp only;omega) ?_))) (fun hHeld=>?_);clear hK K
   try simp only[sA,sB,sC]
   refine wpAnyH_ready (rs:=[11]) (by kernel_rfl) (by simp) ?_;refine AllReadyH.cons rfl (fun K hK=>?_) AllReadyH.nil;refine step_append_lies _ (by rfl) _ _ _ (by rfl) B 59 i9 _ 6 80 underlying22 hi0 hz0 hz1 hz2 rfl (by omega) (.slice no s.ns.length nc) s.ns.length (s.ns.flatMap ndC) (by rfl) (by exact yr HS2.out.nr (by repeat (first | (with_reducible exact Below.refl _ _) | (with_reducible refine Below.drew ?_) | (with_reducible refine yy ?_ ?_) | (simp;done) | omega))) ⟨W2.heap.size,0,none⟩ 1 1 [.string X,.string ⟨#[]⟩,.int .i64 0,.int .i64 0,.int .i64 p.cl,.slice none 0 0] (by rfl) (by rfl) (by exact World.news_of_block (cs:=#[.string X,.string ⟨#[]⟩,.int .i64 0,.int .i64 0,.int .i64 p.cl,.slice none 0 0]) (t:=59) (fr:=(0,0)) (heap_alloc_new _ _)) (by simp[Value.oneCell']) (by omega) (by unfold maxLen;omega) (by omega) (by simp;omega) (W2.heap.size+1) (by simp) ?_;intro gg cap1 w1 hown1 hgrow hat1 hlt1;obtain⟨⟨hx1,ht3,hb3⟩,hs3,ht4,hb4⟩:=HS2.out.growN (c:=(n,p.cl)) (by exact(by repeat (first | (with_reducible exact Below.refl _ _) | (with_reducible refine Below.drew ?_) | (with_reducible refine yy ?_ ?_) | (simp;done) | omega))) hgrow (by show World.ownsRow _ _ _ _ _ (s.ns++[(n,p.cl)]).length _;rw[List.length_append,List.flatMap_append];show World.ownsRow _ _ _ _ _ _ (_++[.string (bb n),.string ⟨#[]⟩,.int .i64 0,.int .i64 0,.int .i64 p.cl,.slice none 0 0]);rw[HX.out];exact hown1);have HS1:=bc 0 (ht3.blk HP2.out rfl);have hfz:=hx1.open 2;have hc2:=hx1.read.1
   have HS3:=Lh hs3;have HT4:=Lh ht4;have HB4:=Lh hb4;clear hs3 ht3 hb3 ht4 hb4 hx1;refine hK.out _ _ HS1 (fun hHeld=>?_);clear hK K
   try simp only[sA,sB,sC]
   refine tk 12 39 (.pointer (some ⟨b,0,none⟩)) ?_;refine tk 13 40 (.pointer (some ⟨b,0,none⟩)) ?_;refine tk 14 41 (.pointer (some ⟨b,2,none⟩)) ?_;refine wpAnyH_ready (rs:=[15]) (by kernel_rfl) (by simp) ?_;refine AllReadyH.cons rfl (fun K hK=>?_) AllReadyH.nil;go_simp;refine hK.out _ _ (by repeat (first | assumption | (with_reducible refine yf ?_) | (with_reducible refine yh ?_) | (with_reducible refine yC (by simp only;omega) ?_))) (fun hHeld=>?_);clear hK K
   try simp only[sA,sB,sC]
   refine wpAnyH_done (by kernel_rfl) ?_ _;exact⟨rfl,(HM.out _ _).2 ⟨⟨_,_,_,_,_,_,_,_,_,_,_,_,_,_,_,_,_,_,_,_,_,_,_,_,_,_,_,_,_,_,_,_,_,_,rfl⟩,⟨_,HS3.out⟩,HT4.out,HB4.out⟩⟩
  ·
   go_simp;refine hK.out _ _ (by repeat (first | assumption | (with_reducible refine yf ?_) | (with_reducible refine yh ?_) | (with_reducible refine yC (by simp only;omega) ?_))) (fun hHeld=>?_);clear hK K
   try simp only[sA,sB,sC]
   refine wpAnyH_ready (rs:=[5]) (by kernel_rfl) (by simp) ?_;refine AllReadyH.cons rfl (fun K hK=>?_) AllReadyH.nil;go_simp;refine hK.out _ _ (by repeat (first | assumption | (with_reducible refine yf ?_) | (with_reducible refine yh ?_) | (with_reducible refine yC (by simp only;omega) ?_))) (fun hHeld=>?_);clear hK K
   try simp only[sA,sB,sC]
   refine wpAnyH_ready (rs:=[11]) (by kernel_rfl) (by simp) ?_;refine AllReadyH.cons rfl (fun K hK=>?_) AllReadyH.nil;refine step_append_lies _ (by rfl) _ _ _ (by rfl) B 59 i9 _ 6 80 underlying22 hi0 hz0 hz1 hz2 rfl (by omega) (.slice no s.ns.length nc) s.ns.length (s.ns.flatMap ndC) (by rfl) (by exact yr HS2.out.nr (by repeat (first | (with_reducible exact Below.refl _ _) | (with_reducible refine Below.drew ?_) | (with_reducible refine yy ?_ ?_) | (simp;done) | omega))) ⟨W2.heap.size,0,none⟩ 1 1 [.string X,.string ⟨#[]⟩,.int .i64 0,.int .i64 0,.int .i64 p.cl,.slice none 0 0] (by rfl) (by rfl) (by exact World.news_of_block (cs:=#[.string X,.string ⟨#[]⟩,.int .i64 0,.int .i64 0,.int .i64 p.cl,.slice none 0 0]) (t:=59) (fr:=(0,0)) (heap_alloc_new _ _)) (by simp[Value.oneCell']) (by omega) (by unfold maxLen;omega) (by omega) (by simp;omega) (W2.heap.size+1) (by simp) ?_;intro gg cap1 w1 hown1 hgrow hat1 hlt1;obtain⟨⟨hx1,ht3,hb3⟩,hs3,ht4,hb4⟩:=HS2.out.growN (c:=(n,p.cl)) (by exact(by repeat (first | (with_reducible exact Below.refl _ _) | (with_reducible refine Below.drew ?_) | (with_reducible refine yy ?_ ?_) | (simp;done) | omega))) hgrow (by show World.ownsRow _ _ _ _ _ (s.ns++[(n,p.cl)]).length _;rw[List.length_append,List.flatMap_append];show World.ownsRow _ _ _ _ _ _ (_++[.string (bb n),.string ⟨#[]⟩,.int .i64 0,.int .i64 0,.int .i64 p.cl,.slice none 0 0]);rw[HX.out];exact hown1);have HS1:=bc 0 (ht3.blk HP2.out rfl);have hfz:=hx1.open 2;have hc2:=hx1.read.1
   have HS3:=Lh hs3;have HT4:=Lh ht4;have HB4:=Lh hb4;clear hs3 ht3 hb3 ht4 hb4 hx1;refine hK.out _ _ HS1 (fun hHeld=>?_);clear hK K
   try simp only[sA,sB,sC]
   refine tk 12 39 (.pointer (some ⟨b,0,none⟩)) ?_;refine tk 13 40 (.pointer (some ⟨b,0,none⟩)) ?_;refine tk 14 41 (.pointer (some ⟨b,2,none⟩)) ?_;refine wpAnyH_ready (rs:=[15]) (by kernel_rfl) (by simp) ?_;refine AllReadyH.cons rfl (fun K hK=>?_) AllReadyH.nil;go_simp;refine hK.out _ _ (by repeat (first | assumption | (with_reducible refine yf ?_) | (with_reducible refine yh ?_) | (with_reducible refine yC (by simp only;omega) ?_))) (fun hHeld=>?_);clear hK K
   try simp only[sA,sB,sC]
   refine wpAnyH_done (by kernel_rfl) ?_ _;exact⟨rfl,(HM.out _ _).2 ⟨⟨_,_,_,_,_,_,_,_,_,_,_,_,_,_,_,_,_,_,_,_,_,_,_,_,_,_,_,_,_,_,_,_,_,_,rfl⟩,⟨_,HS3.out⟩,HT4.out,HB4.out⟩⟩
 intro a' W3 hm;obtain⟨⟨u8,u9,u10,u11,u12,u13,u14,u15,u16,u17,u18,u19,u20,u21,u22,u23,u24,u25,u26,u27,u28,u29,u30,u31,u32,u33,u34,u35,u36,u37,u38,u39,u40,u41,rfl⟩,⟨nv3,hs3⟩,ht3,hb3⟩:=(HM.out _ _).1 hm;clear HM hm M;have HP3:=Lh (ht3.blk HP2.out rfl);have HPP3:=Lh (ht3.prs HPP.out);have HT3:Hid (TFr w W3):=Lh (HT.out.trans ht3);have HB3:Hid (Below B w W3):=Lh (HB.out.trans hb3);have HS3:=Lh hs3;have hal3:avs.length<=3000000:=by have h9:avs.length=s.ats.length:=hs3.al;omega
 clear hs3 ht3 hb3 hS0 hbx hblt hbase hi0 hz0 hz1 hz2 i9 HT HB HP2 HPP HS2;obtain⟨i9,hi0,hz0,hz1,hz2⟩:=ycM ynh;have hbase:=HS3.out.base;have hbx:=HS3.out.box.read.2.2.1;have hblt:=HS3.out.lt;have hS0:=bc 1 HP3.out;obtain⟨M,HM⟩:=ybu (fun a' w'=>(∃ u8 u9 u10 u11 u12 u13 u14 u15 u16 u17 u18 u19 u20 u21 u22 u23 u24 u25 u26 u27 u28 u29 u30 u31 u32 u33 u34 u35 u36 u37 u38 u39 u40 u41 u42 u43 u44 u45 u46 u47 u48 u49 u50 u51 u52,a'=⟨#[.pointer (some ⟨b,0,none⟩),.string X,.agg #[.int .i64 p.cl,.slice po p.dn.length pc,dv],undef,undef,.pointer (some ⟨w.heap.size,0,none⟩),.int .i64 0,.int .i64 i,u8,u9,u10,u11,u12,u13,u14,u15,u16,u17,u18,u19,u20,u21,u22,u23,u24,u25,u26,u27,u28,u29,u30,u31,u32,u33,u34,u35,u36,u37,u38,u39,u40,u41,u42,u43,u44,u45,u46,u47,u48,u49,u50,u51,u52,undef,undef,undef,undef,undef,undef,undef],[]⟩)/\(∃ x',StB w' B b nm d (yN s n p) x')/\TFr w w'/\Below B w w');refine ybU M ?_ ?_
 ·refine wp_region_held_drew (S:=(fun W=>W.cell? ⟨w.heap.size,1,none⟩=some (.slice po p.dn.length pc))) (by kernel_rfl) (yf hS0) (fun hHeld=>?_)
  refine tk 0 42 (.pointer (some ⟨b,0,none⟩)) ?_;refine tk 1 43 (.pointer (some ⟨b,0,none⟩)) ?_;refine tk 2 44 (.pointer (some ⟨b,0,none⟩)) ?_;refine tk 3 45 (.pointer (some ⟨b,5,none⟩)) ?_;refine tk 5 47 (.pointer (some ⟨w.heap.size,1,none⟩)) ?_;refine tk 6 48 (.slice po p.dn.length pc) ?_
  try simp only[sA,sB,sC]
  refine wpAnyH_ready (rs:=[4,7]) (by kernel_rfl) (by simp) ?_;refine AllReadyH.cons rfl (fun K hK=>?_) (AllReadyH.cons rfl (fun K hK=>?_) AllReadyH.nil)
  ·
   go_simp;refine hK.out _ _ (by repeat (first | assumption | (with_reducible refine yf ?_) | (with_reducible refine yh ?_) | (with_reducible refine yC (by simp only;omega) ?_))) (fun hHeld=>?_);clear hK K
   try simp only[sA,sB,sC]
   refine wpAnyH_ready (rs:=[7]) (by kernel_rfl) (by simp) ?_;refine AllReadyH.cons rfl (fun K hK=>?_) AllReadyH.nil;go_simp;refine hK.out _ _ (by repeat (first | assumption | (with_reducible refine yf ?_) | (with_reducible refine yh ?_) | (with_reducible refine yC (by simp only;omega) ?_))) (fun hHeld=>?_);clear hK K
   try simp only[sA,sB,sC]
   refine wpAnyH_ready (rs:=[8]) (by kernel_rfl) (by simp) ?_;refine AllReadyH.cons rfl (fun K hK=>?_) AllReadyH.nil;refine step_append_lies _ (by rfl) _ _ _ (by rfl) B 65 i9 _ 1 24 underlying87 hi0 hz0 hz1 hz2 rfl (by omega) (.slice ao avs.length ac) avs.length (avs.flatMap vC) (by rfl) (by exact yr HS3.out.ar (by repeat (first | (with_reducible exact Below.refl _ _) | (with_reducible refine Below.drew ?_) | (with_reducible refine yy ?_ ?_) | (simp;done) | omega))) ⟨W3.heap.size,0,none⟩ 1 1 [.slice po p.dn.length pc] (by rfl) (by rfl) (by exact World.news_of_block (cs:=#[.slice po p.dn.length pc]) (t:=65) (fr:=(0,0)) (heap_alloc_new _ _)) (by simp[Value.oneCell']) (by omega) (by unfold maxLen;omega) (by omega) (by simp;omega) (W3.heap.size+1) (by simp) ?_;intro gg cap1 w1 hown1 hgrow hat1 hlt1;obtain⟨⟨hx1,ht3,hb3⟩,hs3,ht4,hb4⟩:=HS3.out.growA (v:=.slice po p.dn.length pc) (a:=p.dn) (by exact(by repeat (first | (with_reducible exact Below.refl _ _) | (with_reducible refine Below.drew ?_) | (with_reducible refine yy ?_ ?_) | (simp;done) | omega))) hgrow (by show World.ownsRow _ _ _ _ _ (avs++[_]).length _;rw[List.length_append,List.flatMap_append];exact hown1) HPP3.out;have HS1:=bc 1 (ht3.blk HP3.out rfl);have hfz:=hx1.open 5;have hc5:=hx1.read.2.2.1;have HS4:=Lh hs3;have HT4:=Lh (HT3.out.trans ht4);have HB4:=Lh (HB3.out.trans hb4);clear hs3 ht3 hb3 ht4 hb4 hx1;refine hK.out _ _ HS1 (fun hHeld=>?_);clear hK K
   try simp only[sA,sB,sC]
   refine tk 9 51 (.pointer (some ⟨b,0,none⟩)) ?_;refine tk 10 52 (.pointer (some ⟨b,5,none⟩)) ?_;refine wpAnyH_ready (rs:=[11]) (by kernel_rfl) (by simp) ?_;refine AllReadyH.cons rfl (fun K hK=>?_) AllReadyH.nil;go_simp;refine hK.out _ _ (by repeat (first | assumption | (with_reducible refine yf ?_) | (with_reducible refine yh ?_) | (with_reducible refine yC (by simp only;omega) ?_))) (fun hHeld=>?_);clear hK K
   try simp only[sA,sB,sC]
   refine wpAnyH_done (by kernel_rfl) ?_ _;exact⟨rfl,(HM.out _ _).2 ⟨⟨_,_,_,_,_,_,_,_,_,_,_,_,_,_,_,_,_,_,_,_,_,_,_,_,_,_,_,_,_,_,_,_,_,_,_,_,_,_,_,_,_,_,_,_,_,rfl⟩,⟨_,by rw[HE3.out];exact HS4.out⟩,HT4.out,HB4.out⟩⟩
  ·
   go_simp;refine hK.out _ _ (by repeat (first | assumption | (with_reducible refine yf ?_) | (with_reducible refine yh ?_) | (with_reducible refine yC (by simp only;omega) ?_))) (fun hHeld=>?_);clear hK K
   try simp only[sA,sB,sC]
   refine wpAnyH_ready (rs:=[4]) (by kernel_rfl) (by simp) ?_;refine AllReadyH.cons rfl (fun K hK=>?_) AllReadyH.nil;go_simp;refine hK.out _ _ (by repeat (first | assumption | (with_reducible refine yf ?_) | (with_reducible refine yh ?_) | (with_reducible refine yC (by simp only;omega) ?_))) (fun hHeld=>?_);clear hK K
   try simp only[sA,sB,sC]
   refine wpAnyH_ready (rs:=[8]) (by kernel_rfl) (by simp) ?_;refine AllReadyH.cons rfl (fun K hK=>?_) AllReadyH.nil;refine step_append_lies _ (by rfl) _ _ _ (by rfl) B 65 i9 _ 1 24 underlying87 hi0 hz0 hz1 hz2 rfl (by omega) (.slice ao avs.length ac) avs.length (avs.flatMap vC) (by rfl) (by exact yr HS3.out.ar (by repeat (first | (with_reducible exact Below.refl _ _) | (with_reducible refine Below.drew ?_) | (with_reducible refine yy ?_ ?_) | (simp;done) | omega))) ⟨W3.heap.size,0,none⟩ 1 1 [.slice po p.dn.length pc] (by rfl) (by rfl) (by exact World.news_of_block (cs:=#[.slice po p.dn.length pc]) (t:=65) (fr:=(0,0)) (heap_alloc_new _ _)) (by simp[Value.oneCell']) (by omega) (by unfold maxLen;omega) (by omega) (by simp;omega) (W3.heap.size+1) (by simp) ?_;intro gg cap1 w1 hown1 hgrow hat1 hlt1;obtain⟨⟨hx1,ht3,hb3⟩,hs3,ht4,hb4⟩:=HS3.out.growA (v:=.slice po p.dn.length pc) (a:=p.dn) (by exact(by repeat (first | (with_reducible exact Below.refl _ _) | (with_reducible refine Below.drew ?_) | (with_reducible refine yy ?_ ?_) | (simp;done) | omega))) hgrow (by show World.ownsRow _ _ _ _ _ (avs++[_]).length _;rw[List.length_append,List.flatMap_append];exact hown1) HPP3.out;have HS1:=bc 1 (ht3.blk HP3.out rfl);have hfz:=hx1.open 5;have hc5:=hx1.read.2.2.1;have HS4:=Lh hs3;have HT4:=Lh (HT3.out.trans ht4);have HB4:=Lh (HB3.out.trans hb4);clear hs3 ht3 hb3 ht4 hb4 hx1;refine hK.out _ _ HS1 (fun hHeld=>?_);clear hK K
   try simp only[sA,sB,sC]
   refine tk 9 51 (.pointer (some ⟨b,0,none⟩)) ?_;refine tk 10 52 (.pointer (some ⟨b,5,none⟩)) ?_;refine wpAnyH_ready (rs:=[11]) (by kernel_rfl) (by simp) ?_;refine AllReadyH.cons rfl (fun K hK=>?_) AllReadyH.nil;go_simp;refine hK.out _ _ (by repeat (first | assumption | (with_reducible refine yf ?_) | (with_reducible refine yh ?_) | (with_reducible refine yC (by simp only;omega) ?_))) (fun hHeld=>?_);clear hK K
   try simp only[sA,sB,sC]
   refine wpAnyH_done (by kernel_rfl) ?_ _;exact⟨rfl,(HM.out _ _).2 ⟨⟨_,_,_,_,_,_,_,_,_,_,_,_,_,_,_,_,_,_,_,_,_,_,_,_,_,_,_,_,_,_,_,_,_,_,_,_,_,_,_,_,_,_,_,_,_,rfl⟩,⟨_,by rw[HE3.out];exact HS4.out⟩,HT4.out,HB4.out⟩⟩
 intro a' W4 hm;obtain⟨⟨u8,u9,u10,u11,u12,u13,u14,u15,u16,u17,u18,u19,u20,u21,u22,u23,u24,u25,u26,u27,u28,u29,u30,u31,u32,u33,u34,u35,u36,u37,u38,u39,u40,u41,u42,u43,u44,u45,u46,u47,u48,u49,u50,u51,u52,rfl⟩,⟨⟨nv4,cv4,av4,ev4,avs4,evs4⟩,hs4⟩,ht4,hb4⟩:=(HM.out _ _).1 hm;clear HM hm M;have hnr:=hs4.nr;rw[HE3.out] at hnr;obtain⟨no4,nc4,hnv,hm1,hm2⟩:=yu hnr;simp only[List.length_append,List.length_singleton] at hnv;subst hnv;have hc2:=hs4.box.read.1;have HS4:=Lh hs4;have HT4:=Lh ht4;have HB4:=Lh hb4;clear hs4 hnr ht4 hb4 hm1 hm2 hS0 hbx;go_wp2;go_ret;refine⟨by rw[HMI.out];go_num,_,HS4.out,HT4.out,HB4.out⟩
theorem yht (m:List Pr):∀ (l:List (List Pr)) (i:Int),(ycB l i m).length=l.length
 | [],_=>rfl
 | a::t,i=>by rw[ycB,List.length_cons,List.length_cons,yht m t]
theorem ykt (m:List Pr):∀ (l:List (List Pr)) (i:Int) (j:Nat) (h:j<l.length) (h':j<(ycB l i m).length),(ycB l i m)[j]=if (j:Int)=i then yB l[j] m else l[j]
 | a::t,i,j,h,h'=>by
  cases j with
  | zero =>
   simp only[ycB,List.getElem_cons_zero]
   by_cases e:i=0
   ·rw[if_pos e,if_pos (by rw[e];rfl)]
   ·rw[if_neg e,if_neg (fun q=>e q.symm)]
  | succ j =>
   simp only[ycB,List.getElem_cons_succ];rw[ykt m t (i-1) j (by simpa using h) (by rw[yht];simpa using h)]
   by_cases e:((j:Int)=i-1)
   ·rw[if_pos e,if_pos (by omega)]
   ·rw[if_neg e,if_neg (by omega)]
theorem ybG {w:World}{v:Value}{l:List Pr}(h:Prs w v l):Bnd l:=by
 obtain⟨ao,cap,rfl,_,_,hA⟩:=h;intro r hr;obtain⟨i,hi,rfl⟩:=List.mem_iff_getElem.1 hr;obtain⟨A,_,h2⟩:=hA (by omega);exact(h2 i hi).2.2
theorem ygu {W:World}{B:Nat}{t:TypeId}{v:Value}{l:List Value}(h:W.ownsRow B t 1 v l.length (l.flatMap vC)):∃ (ao:Option Addr) (cap:Nat),v=.slice ao l.length cap/\∀ k (h:k<l.length),∃ A,ao=some A/\W.cell? (A.add k)=some l[k]:=by
 obtain⟨ao,cap,rfl,h1,h2⟩:=yu h;refine⟨ao,cap,rfl,fun k hk=>?_⟩;obtain⟨g,cap',arr,e,_,hg,_,_,h3⟩:=yaE h (by omega);cases e
 refine⟨_,rfl,?_⟩;rw[add_at,Nat.zero_add,yd hg,h3 _ (by omega)];have:=yac vC 1 (fun _=>rfl) l k 0 hk (by decide);rw[Nat.add_zero,Nat.mul_one] at this;rw[this];rfl
theorem yhu {W:World}{B B' c n:Nat}{t:TypeId}{v:Value}{xs:List Value}(h:W.ownsRow B' t c v n xs)(hb:B<=B'):W.ownsRow B t c v n xs:=by
 refine⟨h.1,?_⟩
 rcases h.2 with ⟨a,b⟩ | ⟨k,cap,cur,rfl,h1,h2⟩
 ·exact Or.inl ⟨a,b⟩
 ·exact Or.inr ⟨k,cap,cur,rfl,Nat.le_trans hb h1,h2⟩
theorem ytN {w:World}{ops:Array Oper}{rest:List Oper}{o:Oper}{a:Act}{Q:Exit->Act->World->Prop}(hg:o.guard=none)(p y:Operand)(ho:o.op=.call { callee:=.builtin .append,args:=#[p,y],argTypes:=#[87,87] })
    (B:Nat) (v:Value) (l:List Value) (xo:Option Addr) (xn xc:Nat) (H:Nat) (hH:w.heap.size=H) (hs:a.eval p=v) (hx:a.eval y=.slice (some ⟨H,0,none⟩) 1 1) (h:Hid (ynF w B v l)) (hl:l.length<=30000000) (hB:B<=w.heap.size)
    (hK:∀ v' w',ynF w' B v' (l++[.slice xo xn xc])->w.grownBy w' v.ownBlock->wpList Tryz.prog ops Q rest (a.put o.dst v') w'):wpList Tryz.prog ops Q (o::rest) a (w.alloc (.cells #[.slice xo xn xc] 65)):=by
 subst hH;obtain⟨i0,hi,hz0,hz1,hz2⟩:=ycM ynh;refine wpList_append_own _ hg p y 87 ho B 65 i0 _ 1 24 underlying87 hi hz0 hz1 hz2 rfl (by decide) v l.length _ hs (World.ownsRow.alloc h.out _) ⟨w.heap.size,0,none⟩ 1 1 [.slice xo xn xc] hx rfl ?_ (by simp[Value.oneCell']) (by unfold maxLen;omega) (by omega) (by simp;omega) ?_
 ·intro j u hj
  rw[add_at,Nat.zero_add,yd (yl w #[.slice xo xn xc] 65),<- hj];simp
 ·intro v' w' hown hgrow _
  refine hK v' w' ?_ ?_
  ·unfold ynF;rw[List.length_append,List.flatMap_append];exact hown
  ·refine⟨hgrow.os,hgrow.tape,hgrow.output,Nat.le_trans (by simp) hgrow.size,fun k hk hne=>?_⟩
   rw[hgrow.block k (by simp;omega) hne,heap_alloc_old w _ (h:=hk)]
theorem StB.setA {W w1:World}{B b:Nat}{nm:Nm}{d:Bool}{s:Sta}{x:StV}{av':Value}{outs:List Value}{aa:List (List Pr)}(h:StB W B b nm d s x)(hb:Below W.heap.size W w1)(ho:ynF w1 B av' outs)(hl:outs.length=aa.length)(hv:∀ i (h1:i<outs.length) (h2:i<aa.length),PrsT w1 outs[i] aa[i]) :
    StB (w1.setCell ⟨b,5,none⟩ av') B b nm d ⟨s.ns,aa,s.cs,s.en,s.e⟩ ⟨x.nv,x.cv,av',x.ev,outs,x.evs⟩/\TFr W (w1.setCell ⟨b,5,none⟩ av')/\Below B W (w1.setCell ⟨b,5,none⟩ av'):=by
 have k:=h.below hb;have t2:TFr w1 (w1.setCell ⟨b,5,none⟩ av'):=TFr.set k.box rfl _;exact⟨⟨h.low,k.box.set5 av',yw k.nr k.box (by decide) _,yw k.cr k.box (by decide) _,yw ho k.box (by decide) _,yw k.er k.box (by decide) _,hl,fun i h1 h2=>t2.prs (hv i h1 h2),h.el,fun y hy=>t2.prs (k.ep y hy)⟩,(TFr.below hb).trans t2,(hb.mono h.base).setCell h.low _⟩
theorem yni (B b:Nat)(nm:Nm)(d:Bool)(s:Sta)(x:StV)(i:Int)(lv:Value)(l:List Pr)(w:World)(hS:Hid (StB w B b nm d s x))(h:Hid (Prs w lv l))(hs:Hid (∀ a∈s.ats,a.length<=20000))(hm:l.length<=20000)(hn:s.ats.length<=3000000) :
    Calls Tryz.prog 104 #[.pointer (some ⟨b,0,none⟩),.int .i64 i,lv] w fun e w'=>e=.returned (.tuple #[])/\yc4 B b nm d ⟨s.ns,ycB s.ats i l,s.cs,s.en,s.e⟩ w w':=by
 obtain⟨nv,cv,av,ev,avs,evs⟩:=x;have HAL:Hid (avs.length=s.ats.length):=Lh hS.out.al;have HBL:=Lh (ybG h.out);have havl:avs.length<=3000000:=by have:=HAL.out;omega
 obtain⟨lo,lc,rfl,_,_,_⟩:=id h.out;go_enter func104,ntmps104;go_wp2_with fail
 go_loopw [6,7] (fun ov iv wr=>∃ (k:Nat) (outs:List Value),iv=.int .i64 k/\k<=avs.length/\ynF wr w.heap.size ov outs/\outs.length=k/\Hid (∀ j (h1:j<outs.length) (h2:j<(ycB s.ats i l).length),PrsT wr outs[j] (ycB s.ats i l)[j])/\Below w.heap.size w wr) (fun _ iv _=>avs.length-(intOf iv).toNat)
 case atStart=>exact⟨0,[],rfl,Nat.zero_le _,World.ownsRow_nil ..,rfl,Lh (fun j h1=>absurd h1 (by simp)),Below.refl _ _⟩
 case round =>
  obtain⟨k,outs,rfl,hk,hrow,hol,hvs,hb⟩:=hrel
  rename World=>wr
  obtain⟨oo,oc,rfl,_,_⟩:=yu hrow;have hst:=hS.out.below hb;obtain⟨ao,ac,hav,hA⟩:=ygu hst.ar;simp only at hav;subst hav;have c5:=hst.box.read.2.2.1;have HST:=Lh hst;have HROW:=Lh hrow;have HVS:=hvs;have HB:=Lh hb;have HOL:=Lh hol;have hsz:=hb.size;clear hst hrow hvs hb
  by_cases hlt:k<avs.length
  ·obtain⟨A,rfl,q0⟩:=hA k hlt
   have hlt2:k<s.ats.length:=by have:=HAL.out;omega
   have hpt:=HST.out.ap k hlt hlt2;obtain⟨u,hu⟩:∃ u,avs[k]=u:=⟨_,rfl⟩
   obtain⟨a,ha⟩:∃ a,s.ats[k]=a:=⟨_,rfl⟩
   simp only at hpt;rw[hu] at q0;rw[hu,ha] at hpt;have hal2:a.length<=20000:=by rw[<- ha];exact hs.out _ (List.getElem_mem _)
   obtain⟨uo,uc,rfl,_,_,_⟩:=id hpt.prs;have HPT:=Lh hpt;have HC:Hid (∀ h2:k<(ycB s.ats i l).length,(ycB s.ats i l)[k]=if (k:Int)=i then yB a l else a):=Lh (fun h2=>by rw[ykt l s.ats i k hlt2 h2,ha]);have hol2:outs.length<=30000000:=by have:=HAL.out;omega
   have i0:(0:Int)<=(k:Int):=by omega
   have i1:(k:Int)<(avs.length:Int):=by omega
   clear hA hpt hu ha hol;clear hlt2
   by_cases hki:(k:Int)=i
   ·have HC2:Hid (∀ h2:k<(ycB s.ats i l).length,(ycB s.ats i l)[k]=yB a l):=Lh (fun h2=>(HC.out h2).trans (if_pos hki))
    clear HC;subst hki;go_wp2_with fail
    refine(yb9 _ _ a l wr (Lh HPT.out.prs) (Lh (h.out.keep HB.out)) hal2 hm (Lh (ybG HPT.out.prs)) HBL).mono ?_;rintro e w2 ⟨v',rfl,hp2,hb2⟩;obtain⟨vo,vc,rfl,_,_,_⟩:=id hp2.prs;have HP2:=Lh hp2;have HB2:=Lh (ya hb2 HB.out);have HBw:=Lh hb2;have HROW2:Hid (ynF w2 w.heap.size _ outs):=Lh (yr HROW.out hb2);have hsz2:=HB2.out.size;clear hp2 hb2
    go_wp2_with (at_builtin;refine ytN rfl (.tmp 20) (.tmp 30) rfl w.heap.size _ outs vo (yB a l).length vc _ rfl rfl rfl HROW2 hol2 hsz2 ?_;intro ov5 w5 hrow5 hgrow5;have hB5:=Lh (ybe HROW2.out hgrow5 hsz2);have HR5:=Lh hrow5;have hT5:=Lh (ydP HROW2.out hgrow5 rfl);clear hgrow5 hrow5)
    go_roundw
    case rel =>
     refine⟨k+1,outs++[_],by go_num,by omega,HR5.out,by rw[List.length_append,HOL.out];rfl,Lh (fun j h1 h2=>?_),HB2.out.trans hB5.out⟩
     rcases Nat.lt_or_ge j outs.length with q | q
     ·rw[List.getElem_append_left q];exact hT5.out.prs ((HVS.out j q h2).keep HBw.out)
     ·rw[List.getElem_append_right q,List.getElem_singleton]
      rw[List.length_append,List.length_singleton] at h1;obtain rfl:j=k:=by have:=HOL.out;omega
      rw[HC2.out h2];exact hT5.out.prs HP2.out
    case measure=>simp[intOf];omega
   ·have dk:decide ((k:Int)=i)=false:=decide_eq_false hki
    have HC2:Hid (∀ h2:k<(ycB s.ats i l).length,(ycB s.ats i l)[k]=a):=Lh (fun h2=>(HC.out h2).trans (if_neg hki));have hki2:¬ i=(k:Int):=fun q=>hki q.symm
    clear HC
    go_wp2_with (at_builtin;refine ytN rfl (.tmp 32) (.tmp 40) rfl w.heap.size _ outs uo a.length uc _ rfl rfl rfl HROW hol2 hsz ?_;intro ov5 w5 hrow5 hgrow5;have hB5:=Lh (ybe HROW.out hgrow5 hsz);have HR5:=Lh hrow5;have hT5:=Lh (ydP HROW.out hgrow5 rfl);clear hgrow5 hrow5)
    go_roundw
    case rel =>
     refine⟨k+1,outs++[_],by go_num,by omega,HR5.out,by rw[List.length_append,HOL.out];rfl,Lh (fun j h1 h2=>?_),HB.out.trans hB5.out⟩
     rcases Nat.lt_or_ge j outs.length with q | q
     ·rw[List.getElem_append_left q];exact hT5.out.prs (HVS.out j q h2)
     ·rw[List.getElem_append_right q,List.getElem_singleton]
      rw[List.length_append,List.length_singleton] at h1;obtain rfl:j=k:=by have:=HOL.out;omega
      rw[HC2.out h2];exact hT5.out.prs HPT.out
    case measure=>simp[intOf];omega
  ·obtain rfl:k=avs.length:=by omega
   have hfz:=HST.out.box.open 5;clear hA hol;go_wp2;refine ypX rfl rfl ?_;obtain⟨m1,m2,m3⟩:=hS.out.setA HB.out (yhu HROW.out hS.out.base) (by rw[yht,HOL.out];exact HAL.out) HVS.out;exact⟨rfl,_,m1,m2,m3⟩
end Go.Proofs.YtgmidodmmlmmeaaGreatDoor.nor
