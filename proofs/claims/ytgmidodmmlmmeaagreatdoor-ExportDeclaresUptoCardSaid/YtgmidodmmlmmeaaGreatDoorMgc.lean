/-
  Contracts and plain facts of the layers below; conditions as each theorem states them.
-/
import Derived.Test.YtgmidodmmlmmeaaGreatDoorMgb
import Derived.Test.YtgmidodmmlmmeaaGreatDoorMxa
set_option maxHeartbeats 16000000
set_option maxRecDepth 100000
namespace Go.Proofs.YtgmidodmmlmmeaaGreatDoor.gra
open Go.RowKit lex _root_.Go.Proofs.Tryz
def NdV (w:World)(v:Value)(x:Nd):Prop:=∃ pv,v=.agg #[.string (bb x.nm),.string (bb x.lb),.int .i64 x.w,.int .i64 x.h,.int .i64 x.cl,pv]/\Pts w pv x.ps
def nbx (W:World)(b:Nat)(X L:ByteArray)(p q r:Int)(v:Value):Prop :=
 W.cell? ⟨b,0,none⟩=some (.string X)/\W.cell? ⟨b,1,none⟩=some (.string L)/\W.cell? ⟨b,2,none⟩=some (.int .i64 p)/\W.cell? ⟨b,3,none⟩=some (.int .i64 q)/\W.cell? ⟨b,4,none⟩=some (.int .i64 r)/\W.cell? ⟨b,5,none⟩=some v
theorem yi1 (w:World)(X L:ByteArray)(p q r:Int)(ao:Option Addr)(n c:Nat)(t:TypeId):nbx (w.alloc (.cells #[.string X,.string L,.int .i64 p,.int .i64 q,.int .i64 r,.slice ao n c] t)) w.heap.size X L p q r (.slice ao n c):=by
 refine⟨?_,?_,?_,?_,?_,?_⟩ <;> go_simp
theorem ybP {w1 w2:World}{b:Nat}{X L:ByteArray}{p q r:Int}{v:Value}(h:nbx w1 b X L p q r v)(h2:Below w1.heap.size w1 w2):nbx w2 b X L p q r v:=by
 obtain⟨a0,a1,a2,a3,a4,a5⟩:=h;exact⟨ye h2 a0,ye h2 a1,ye h2 a2,ye h2 a3,ye h2 a4,ye h2 a5⟩
theorem yii (v v2:Value)(x y:Nd)(R:Bool)(w:World)(h1:Hid (NdV w v x))(h2:Hid (NdV w v2 y))(hr:Hid (decide (x=y)=R)) :
    Calls Tryz.prog 50 #[v,v2] w fun e w'=>e=.returned (.bool R)/\Below w.heap.size w w':=by
 have hmx:Tryz.prog.follows .mixedOrders=true:=by kernel_rfl
 obtain⟨av,rfl,ha⟩:=h1.out;obtain⟨bv,rfl,hb⟩:=h2.out;have hfe:=hr.out;clear h1 h2 hr;obtain⟨n0,l0,p0,q0,r0,a⟩:=x;obtain⟨n1,l1,p1,q1,r1,b⟩:=y;simp only at ha hb;simp only[Nd.mk.injEq] at hfe;obtain⟨ao,ac,rfl,hc1,hm1,-⟩:=id ha;obtain⟨bo,bc,rfl,hc2,hm2,-⟩:=id hb;unfold maxLen at hm1 hm2;have hla:a.length<=9223372036854775807:=by omega
 have hlb:b.length<=9223372036854775807:=by omega
 obtain⟨X,hX⟩:∃ X,bb n0=X:=⟨_,rfl⟩
 obtain⟨Y,hY⟩:∃ Y,bb n1=Y:=⟨_,rfl⟩
 obtain⟨L,hL⟩:∃ L,bb l0=L:=⟨_,rfl⟩
 obtain⟨M,hM⟩:∃ M,bb l1=M:=⟨_,rfl⟩
 have hXY:n0=n1↔X.toList=Y.toList:=by rw[<- hX,<- hY,ByteArray.toList_eq,ByteArray.toList_eq]
 have hLM:l0=l1↔L.toList=M.toList:=by rw[<- hL,<- hM,ByteArray.toList_eq,ByteArray.toList_eq]
 simp only[hX,hY,hL,hM];simp only[hXY,hLM] at hfe;have HB:=Lh (al2 w (.cells #[.string X,.string L,.int .i64 p0,.int .i64 q0,.int .i64 r0,.slice ao a.length ac] 59) (.cells #[.string Y,.string M,.int .i64 p1,.int .i64 q1,.int .i64 r1,.slice bo b.length bc] 59));have HC:=Lh (ybP (yi1 w X L p0 q0 r0 ao a.length ac 59) (al1 _ (.cells #[.string Y,.string M,.int .i64 p1,.int .i64 q1,.int .i64 r1,.slice bo b.length bc] 59)));have hd:=yi1 (w.alloc (.cells #[.string X,.string L,.int .i64 p0,.int .i64 q0,.int .i64 r0,.slice ao a.length ac] 59)) Y M p1 q1 r1 bo b.length bc 59;rw[World.size_alloc] at hd;have HD:=Lh hd;have HA:=Lh (ha.keep HB.out);have HBb:=Lh (hb.keep HB.out);have hga:=ypa;obtain⟨c0,c1,c2,c3,c4,c5⟩:=HC.out;obtain⟨d0,d1,d2,d3,d4,d5⟩:=HD.out;clear hc1 hm1 hc2 hm2 ha hb hd hX hY hL hM hXY hLM
 by_cases k0:X.toList=Y.toList
 case neg =>
  have z0:(X.toList==Y.toList)=false:=by rw[beq_eq_false_iff_ne];exact k0
  have y0:(X.toList != Y.toList)=true:=by rw[bne_iff_ne];exact k0
  rw[decide_eq_false (fun e=>k0 (e.1))] at hfe;subst hfe;clear k0;go_enter func50,ntmps50;go_wp2;go_ret;exact⟨rfl,HB.out⟩
 have z0:(X.toList==Y.toList)=true:=by rw[beq_iff_eq];exact k0
 have y0:(X.toList != Y.toList)=false:=by rw[bne_eq_false_iff_eq];exact k0
 by_cases k1:L.toList=M.toList
 case neg =>
  have z1:(L.toList==M.toList)=false:=by rw[beq_eq_false_iff_ne];exact k1
  have y1:(L.toList != M.toList)=true:=by rw[bne_iff_ne];exact k1
  rw[decide_eq_false (fun e=>k1 (e.2.1))] at hfe;subst hfe;clear k0 k1;go_enter func50,ntmps50;go_wp2;go_ret;exact⟨rfl,HB.out⟩
 have z1:(L.toList==M.toList)=true:=by rw[beq_iff_eq];exact k1
 have y1:(L.toList != M.toList)=false:=by rw[bne_eq_false_iff_eq];exact k1
 by_cases k2:p0=p1
 case neg =>
  have y2:(p0 != p1)=true:=by rw[bne_iff_ne];exact k2
  rw[decide_eq_false (fun e=>k2 (e.2.2.1))] at hfe;subst hfe;clear k0 k1 k2;go_enter func50,ntmps50;go_wp2;go_ret;exact⟨rfl,HB.out⟩
 subst k2;have y2:(p0 != p0)=false:=by simp
 by_cases k3:q0=q1
 case neg =>
  have y3:(q0 != q1)=true:=by rw[bne_iff_ne];exact k3
  rw[decide_eq_false (fun e=>k3 (e.2.2.2.1))] at hfe;subst hfe;clear k0 k1 k3;go_enter func50,ntmps50;go_wp2;go_ret;exact⟨rfl,HB.out⟩
 subst k3;have y3:(q0 != q0)=false:=by simp
 by_cases k4:r0=r1
 case neg =>
  have y4:(r0 != r1)=true:=by rw[bne_iff_ne];exact k4
  rw[decide_eq_false (fun e=>k4 (e.2.2.2.2.1))] at hfe;subst hfe;clear k0 k1 k4;go_enter func50,ntmps50;go_wp2;go_ret;exact⟨rfl,HB.out⟩
 subst k4;have y4:(r0 != r0)=false:=by simp
 by_cases k5:a.length=b.length
 case neg =>
  have y5:((a.length:Int) != (b.length:Int))=true:=by rw[bne_iff_ne];omega
  rw[decide_eq_false (fun e=>k5 (congrArg List.length e.2.2.2.2.2))] at hfe;subst hfe;clear k0 k1 k5;go_enter func50,ntmps50;go_wp2;go_ret;exact⟨rfl,HB.out⟩
 have y5:((a.length:Int) != (b.length:Int))=false:=by rw[k5];simp
 have HL:=Lh k5;have HR:Hid (decide (a=b)=R):=Lh (by rw[<- hfe];simp[k0,k1]);obtain⟨W2,hW2⟩:∃ W2,(w.alloc (.cells #[.string X,.string L,.int .i64 p0,.int .i64 q0,.int .i64 r0,.slice ao a.length ac] 59)).alloc (.cells #[.string Y,.string M,.int .i64 p0,.int .i64 q0,.int .i64 r0,.slice bo b.length bc] 59)=W2:=⟨_,rfl⟩
 have HW2:=Lh hW2;clear hW2 hfe k0 k1 k5;go_enter func50,ntmps50;go_wp2_with fail
 rw[HW2.out] at HB HC HD HA HBb |-;clear c0 c1 c2 c3 c4 c5 d0 d1 d2 d3 d4 d5 z0 z1 y0 y1 y2 y3 y4 y5
 go_loopw [5] (fun iv wr=>∃ i:Nat,iv=.int .i64 i/\i<=a.length/\a.take i=b.take i/\Below W2.heap.size W2 wr) (fun iv _=>a.length-(intOf iv).toNat)
 case atStart=>exact⟨0,rfl,Nat.zero_le _,rfl,Below.refl _ _⟩
 case round =>
  obtain⟨i,rfl,hi,htk,hB⟩:=hrel
  rename World=>wr
  have HB2:=Lh (ya hB HB.out);obtain⟨-,-,-,-,-,c5⟩:=ybP HC.out hB;obtain⟨-,-,-,-,-,d5⟩:=ybP HD.out hB
  by_cases hlt:i<a.length
  ·have hlt2:i<b.length:=by have:=HL.out;omega
   obtain⟨A,rfl,s0,s1,-⟩:=(HA.out.keep hB).get hlt;obtain⟨B,rfl,t0,t1,-⟩:=(HBb.out.keep hB).get hlt2;obtain⟨x,hx⟩:∃ x,a[i]=x:=⟨_,rfl⟩
   obtain⟨y,hy⟩:∃ y,b[i]=y:=⟨_,rfl⟩
   rw[hx] at s0 s1;rw[hy] at t0 t1;have i0:(0:Int)<=(i:Int):=by omega
   have i1:(i:Int)<(a.length:Int):=by omega
   have i2:(i:Int)<(b.length:Int):=by omega
   by_cases hxy:x=y
   ·have hneq:=yqD x y false (Lh (by simp[hxy]))
    have HT:=Lh (yhd hlt hlt2 htk (by rw[hx,hy,hxy]));clear htk hx hy hxy;go_wp2_with fail
    go_quiet (fail)
    have HB3:=Lh (ya (yF wr nq) hB);generalize wr.drewN nq=w3 at HB3 |-;go_wp2
    go_roundw
    case rel=>exact⟨i+1,by go_num,by omega,HT.out,HB3.out⟩
    case measure=>simp[intOf];omega
   ·have hneq:=yqD x y true (Lh (by simp[hxy]))
    have hfe:=HR.out;rw[decide_eq_false (fun e=>yfj hlt hlt2 (by rw[hx,hy];exact hxy) e)] at hfe;subst hfe;clear htk hx hy hxy;go_wp2_with fail
    go_quiet (fail)
    have HB3:=Lh (ya (yF wr nq) HB2.out);generalize wr.drewN nq=w3 at HB3 |-;go_wp2;go_ret;exact⟨rfl,HB3.out⟩
  ·have hfe:=HR.out
   rw[decide_eq_true (ydE HL.out (by omega) htk)] at hfe;subst hfe;clear htk;go_wp2;go_ret;exact⟨rfl,HB2.out⟩
theorem ycW {X:Type}(f:X->Bool)(l:List X)(k:Nat)(h:k<l.length):(l.take (k+1)).any f=((l.take k).any f||f l[k]):=by
 rw[List.take_succ_eq_append_getElem h,List.any_append];simp
theorem yj8 (x:Nd)(pv:Value)(po:Option Addr)(pn pc:Nat)(hp:pv=.slice po pn pc)(g:Nat)(s:ByteArray)(b:Bool)(w:World)(hc:Hid (w.cell? ⟨g,0,none⟩=some (.string s)))(h:Hid (decide (x.nm=s.data.toList)=b)) :
    Calls Tryz.prog 184 #[.agg #[.string (bb x.nm),.string (bb x.lb),.int .i64 x.w,.int .i64 x.h,.int .i64 x.cl,pv],.pointer (some ⟨g,0,none⟩)] w fun e w'=>e=.returned (.bool b)/\Below w.heap.size w w':=by
 subst hp;obtain⟨Y,hY⟩:∃ Y,bb x.nm=Y:=⟨_,rfl⟩
 have hY2:Y.data.toList=x.nm:=by rw[<- hY]
 have e1:(Y.toList==s.toList)=b:=by rw[<- h.out,ByteArray.toList_eq,ByteArray.toList_eq,hY2,Bool.eq_iff_iff];simp
 rw[hY];have c1:=ye (al1 w (.cells #[.string Y,.string (bb x.lb),.int .i64 x.w,.int .i64 x.h,.int .i64 x.cl,.slice po pn pc] 59)) hc.out;have hb:=al1 w (.cells #[.string Y,.string (bb x.lb),.int .i64 x.w,.int .i64 x.h,.int .i64 x.cl,.slice po pn pc] 59);clear h hc hY hY2;go_enter func184,ntmps184;go_wp2;go_ret;exact⟨rfl,hb⟩
theorem ypd (v:Value)(l:List Nd)(g:Nat)(s:ByteArray)(R:Int)(w:World)(h:Hid (Nds w v l))(hc:Hid (w.cell? ⟨g,0,none⟩=some (.string s)))(hr:Hid (findG l s.data.toList 0=R)) :
    Calls Tryz.prog 183 #[v,.func (.func 184) #[] #[.pointer (some ⟨g,0,none⟩)]] w fun e W'=>e=.returned (.int .i64 R)/\Below w.heap.size w W':=by
 obtain⟨ao,cap,rfl,hc1,hm1,-⟩:=id h.out;unfold maxLen at hm1;have hlm:l.length<=9223372036854775807:=by omega
 have HR:Hid (findG (l.drop 0) s.data.toList 0=R):=hr;clear hc1 hm1 hr;go_enter func183,ntmps183;go_wp2_with fail
 go_loopw [8] (fun i wr=>∃ k:Nat,k<=l.length/\i=.int .i64 k/\Below w.heap.size w wr/\findG (l.drop k) s.data.toList k=R) (fun i _=>l.length-(intOf i).toNat)
 case atStart=>exact⟨0,Nat.zero_le _,rfl,Below.refl _ _,HR.out⟩
 case round =>
  obtain⟨k,hk,rfl,hB,hfe⟩:=hrel
  rename World=>wr
  have HB:=Lh hB;clear hB HR
  by_cases hlt:k<l.length
  ·obtain⟨A,rfl,s0,s1,s2,s3,s4,⟨pv,s5,hps⟩,-⟩:=(h.out.keep HB.out).get hlt
   obtain⟨po,pc,rfl,-,-,-⟩:=id hps;have hcr:=Lh (ye HB.out hc.out);rw[yjp hlt] at hfe;obtain⟨x,hx⟩:∃ x,l[k]=x:=⟨_,rfl⟩
   rw[hx] at s0 s1 s2 s3 s4 s5 hfe;obtain⟨b,hb⟩:∃ b,decide (x.nm=s.data.toList)=b:=⟨_,rfl⟩
   have HV:=Lh hb;have HF:=Lh hfe;have i0:(0:Int)<=(k:Int):=by omega
   have i1:(k:Int)<(l.length:Int):=by omega
   clear hb hfe hps hx;cases b
   ·go_wp2_with fail
    refine(yj8 x _ _ _ _ rfl g s false wr hcr HV).mono ?_;rintro e w1 ⟨rfl,hb1⟩;have HB1:=Lh (ya hb1 HB.out);have HN:Hid (findG (l.drop (k+1)) s.data.toList (k+1)=R):=Lh (by have:=HF.out;rw[if_neg (of_decide_eq_false HV.out)] at this;exact this);clear hb1;go_wp2
    go_roundw
    case rel=>exact⟨k+1,by omega,by go_num,HB1.out,HN.out⟩
    case measure=>simp[intOf];omega
   ·go_wp2_with fail
    refine(yj8 x _ _ _ _ rfl g s true wr hcr HV).mono ?_;rintro e w1 ⟨rfl,hb1⟩;have HB1:=Lh (ya hb1 HB.out);have HN:Hid ((k:Int)=R):=Lh (by have:=HF.out;rw[if_pos (of_decide_eq_true HV.out)] at this;exact this);clear hb1;go_wp2;go_ret;exact⟨ycD HN.out,HB1.out⟩
  ·rw[yhF (by omega)] at hfe
   subst hfe;go_wp2;go_ret;exact⟨rfl,HB.out⟩
theorem yj9 (v:Value)(g:Gr)(s:ByteArray)(R:Int)(w:World)(h:Hid (GrV w v g))(hr:Hid (ykH g s.data.toList=R)) :
    Calls Tryz.prog 122 #[v,.string s] w fun e w'=>e=.returned (.int .i64 R)/\Below w.heap.size w w':=by
 have hmf:∀ (fn:Fn) (first cap:Array Value) (w:World),(Instr.makeFunc fn first cap).run Tryz.prog w=.ok (.func fn first cap) w:=fun _ _ _ _=>rfl
 obtain⟨nv,ev,cv,rfl,-,hn,-,-⟩:=h.out;obtain⟨ao,cap,rfl,-,-,-⟩:=id hn;have hB:=al2 w (.cells #[.string (bb g.nm),.bool g.dir,.slice ao g.ns.length cap,ev,cv] 26) (.cells #[.string s] 9);have HN:=Lh (hn.keep hB);have HC:Hid (((w.alloc (.cells #[.string (bb g.nm),.bool g.dir,.slice ao g.ns.length cap,ev,cv] 26)).alloc (.cells #[.string s] 9)).cell? ⟨w.heap.size+1,0,none⟩=some (.string s)):=Lh (by go_simp);clear hn h;go_enter func122,ntmps122;go_wp2_with fail
 refine(ypd _ g.ns _ s R _ HN HC hr).mono ?_;rintro e w1 ⟨rfl,hb1⟩;have HB1:=Lh (ya hb1 hB);clear hb1;go_wp2;go_ret;exact⟨rfl,HB1.out⟩
theorem ydF (p:Pt)(g:Nat)(s:ByteArray)(b:Bool)(w:World)(hc:Hid (w.cell? ⟨g,0,none⟩=some (.string s)))(h:Hid ((p.1==s.data.toList)=b)) :
    Calls Tryz.prog 186 #[.agg #[.string (bb p.1),.int .i64 p.2],.pointer (some ⟨g,0,none⟩)] w fun e w'=>e=.returned (.bool b)/\Below w.heap.size w w':=by
 obtain⟨Y,hY⟩:∃ Y,bb p.1=Y:=⟨_,rfl⟩
 have hY2:Y.data.toList=p.1:=by rw[<- hY]
 have e1:(Y.toList==s.toList)=b:=by rw[<- h.out,ByteArray.toList_eq,ByteArray.toList_eq,hY2]
 rw[hY];have c1:=ye (al1 w (.cells #[.string Y,.int .i64 p.2] 192)) hc.out;have hb:=al1 w (.cells #[.string Y,.int .i64 p.2] 192);clear h hc hY hY2;go_enter func186,ntmps186;go_wp2;go_ret;exact⟨rfl,hb⟩
theorem yhe (v:Value)(l:List Pt)(g:Nat)(s:ByteArray)(w:World)(h:Hid (Pts w v l))(hc:Hid (w.cell? ⟨g,0,none⟩=some (.string s))) :
    Calls Tryz.prog 219 #[v,.func (.func 186) #[] #[.pointer (some ⟨g,0,none⟩)]] w fun e W'=>(∃ i:Int,e=.returned (.int .i64 i)/\decide (0<=i)=l.any (fun p=>p.1==s.data.toList))/\Below w.heap.size w W':=by
 obtain⟨ao,cap,rfl,hc1,hm1,-⟩:=id h.out;unfold maxLen at hm1;have hlm:l.length<=9223372036854775807:=by omega
 clear hc1 hm1;go_enter func219,ntmps219;go_wp2_with fail
 go_loopw [8] (fun i wr=>∃ k:Nat,k<=l.length/\i=.int .i64 k/\Below w.heap.size w wr/\(l.take k).any (fun p=>p.1==s.data.toList)=false) (fun i _=>l.length-(intOf i).toNat)
 case atStart=>exact⟨0,Nat.zero_le _,rfl,Below.refl _ _,by simp⟩
 case round =>
  obtain⟨k,hk,rfl,hB,hal⟩:=hrel
  rename World=>wr
  have HAL:=Lh hal;have HB:=Lh hB;clear hal hB
  by_cases hlt:k<l.length
  ·obtain⟨A,rfl,c0,c1,-⟩:=(h.out.keep HB.out).get hlt
   have hcr:=Lh (ye HB.out hc.out);have hat:=ycW (fun p:Pt=>p.1==s.data.toList) l k hlt;obtain⟨b,hb⟩:∃ b,(l[k].1==s.data.toList)=b:=⟨_,rfl⟩
   have HV:=Lh hb;rw[HAL.out,hb] at hat;have HAT:=Lh hat;have i0:(0:Int)<=(k:Int):=by omega
   have i1:(k:Int)<(l.length:Int):=by omega
   clear hb hat;cases b
   ·go_wp2_with fail
    refine(ydF l[k] g s false wr hcr HV).mono ?_;rintro e w1 ⟨rfl,hb1⟩;have HB1:=Lh (ya hb1 HB.out);clear hb1;go_wp2
    go_roundw
    case rel=>exact⟨k+1,by omega,by go_num,HB1.out,HAT.out⟩
    case measure=>simp[intOf];omega
   ·go_wp2_with fail
    refine(ydF l[k] g s true wr hcr HV).mono ?_;rintro e w1 ⟨rfl,hb1⟩;have HB1:=Lh (ya hb1 HB.out);clear hb1
    have hany:l.any (fun p=>p.1==s.data.toList)=true:=by
     rw[List.any_eq_true];exact⟨l[k],List.getElem_mem hlt,HV.out⟩
    have HANY:=Lh hany;clear hany;go_wp2;go_ret;exact⟨⟨k,rfl,by rw[HANY.out];simp⟩,HB1.out⟩
  ·obtain rfl:k=l.length:=by omega
   have HAN:Hid (l.any (fun p=>p.1==s.data.toList)=false):=Lh (by have:=HAL.out;rwa [List.take_length] at this);go_wp2;go_ret;exact⟨⟨-1,rfl,by rw[HAN.out];rfl⟩,HB.out⟩
theorem yka (v:Value)(l:List Pt)(g:Nat)(s:ByteArray)(b:Bool)(w:World)(h:Hid (Pts w v l))(hc:Hid (w.cell? ⟨g,0,none⟩=some (.string s)))(hb:Hid (l.any (fun p=>p.1==s.data.toList)=b)) :
    Calls Tryz.prog 161 #[v,.func (.func 186) #[] #[.pointer (some ⟨g,0,none⟩)]] w fun e W'=>e=.returned (.bool b)/\Below w.heap.size w W':=by
 have hq:=yhe v l g s w h hc;rw[hb.out] at hq;go_enter func161,ntmps161;go_wp2_with fail
 refine hq.mono ?_;rintro e w1 ⟨⟨i,rfl,hi⟩,hb1⟩;have HI:=Lh hi;clear hi;go_wp2;go_ret;exact⟨yaf HI.out,hb1⟩
theorem yij (p:Pt)(g:Nat)(s:ByteArray)(b:Bool)(w:World)(hc:Hid (w.cell? ⟨g,0,none⟩=some (.string s)))(h:Hid ((p.1==s.data.toList)=b)) :
    Calls Tryz.prog 127 #[.agg #[.string (bb p.1),.int .i64 p.2],.pointer (some ⟨g,0,none⟩)] w fun e w'=>e=.returned (.bool b)/\Below w.heap.size w w':=by
 obtain⟨Y,hY⟩:∃ Y,bb p.1=Y:=⟨_,rfl⟩
 have hY2:Y.data.toList=p.1:=by rw[<- hY]
 have e1:(Y.toList==s.toList)=b:=by rw[<- h.out,ByteArray.toList_eq,ByteArray.toList_eq,hY2]
 rw[hY];have c1:=ye (al1 w (.cells #[.string Y,.int .i64 p.2] 63)) hc.out;have hb:=al1 w (.cells #[.string Y,.int .i64 p.2] 63);clear h hc hY hY2;go_enter func127,ntmps127;go_wp2;go_ret;exact⟨rfl,hb⟩
theorem ymz (v:Value)(l:List Pt)(g:Nat)(s:ByteArray)(w:World)(h:Hid (Cls w v l))(hc:Hid (w.cell? ⟨g,0,none⟩=some (.string s))) :
    Calls Tryz.prog 187 #[v,.func (.func 127) #[] #[.pointer (some ⟨g,0,none⟩)]] w fun e W'=>(∃ i:Int,e=.returned (.int .i64 i)/\decide (0<=i)=l.any (fun p=>p.1==s.data.toList))/\Below w.heap.size w W':=by
 obtain⟨ao,cap,rfl,hc1,hm1,-⟩:=id h.out;unfold maxLen at hm1;have hlm:l.length<=9223372036854775807:=by omega
 clear hc1 hm1;go_enter func187,ntmps187;go_wp2_with fail
 go_loopw [8] (fun i wr=>∃ k:Nat,k<=l.length/\i=.int .i64 k/\Below w.heap.size w wr/\(l.take k).any (fun p=>p.1==s.data.toList)=false) (fun i _=>l.length-(intOf i).toNat)
 case atStart=>exact⟨0,Nat.zero_le _,rfl,Below.refl _ _,by simp⟩
 case round =>
  obtain⟨k,hk,rfl,hB,hal⟩:=hrel
  rename World=>wr
  have HAL:=Lh hal;have HB:=Lh hB;clear hal hB
  by_cases hlt:k<l.length
  ·obtain⟨A,rfl,c0,c1,-⟩:=(h.out.keep HB.out).get hlt
   have hcr:=Lh (ye HB.out hc.out);have hat:=ycW (fun p:Pt=>p.1==s.data.toList) l k hlt;obtain⟨b,hb⟩:∃ b,(l[k].1==s.data.toList)=b:=⟨_,rfl⟩
   have HV:=Lh hb;rw[HAL.out,hb] at hat;have HAT:=Lh hat;have i0:(0:Int)<=(k:Int):=by omega
   have i1:(k:Int)<(l.length:Int):=by omega
   clear hb hat;cases b
   ·go_wp2_with fail
    refine(yij l[k] g s false wr hcr HV).mono ?_;rintro e w1 ⟨rfl,hb1⟩;have HB1:=Lh (ya hb1 HB.out);clear hb1;go_wp2
    go_roundw
    case rel=>exact⟨k+1,by omega,by go_num,HB1.out,HAT.out⟩
    case measure=>simp[intOf];omega
   ·go_wp2_with fail
    refine(yij l[k] g s true wr hcr HV).mono ?_;rintro e w1 ⟨rfl,hb1⟩;have HB1:=Lh (ya hb1 HB.out);clear hb1
    have hany:l.any (fun p=>p.1==s.data.toList)=true:=by
     rw[List.any_eq_true];exact⟨l[k],List.getElem_mem hlt,HV.out⟩
    have HANY:=Lh hany;clear hany;go_wp2;go_ret;exact⟨⟨k,rfl,by rw[HANY.out];simp⟩,HB1.out⟩
  ·obtain rfl:k=l.length:=by omega
   have HAN:Hid (l.any (fun p=>p.1==s.data.toList)=false):=Lh (by have:=HAL.out;rwa [List.take_length] at this);go_wp2;go_ret;exact⟨⟨-1,rfl,by rw[HAN.out];rfl⟩,HB.out⟩
theorem ymA (v:Value)(l:List Pt)(g:Nat)(s:ByteArray)(b:Bool)(w:World)(h:Hid (Cls w v l))(hc:Hid (w.cell? ⟨g,0,none⟩=some (.string s)))(hb:Hid (l.any (fun p=>p.1==s.data.toList)=b)) :
    Calls Tryz.prog 128 #[v,.func (.func 127) #[] #[.pointer (some ⟨g,0,none⟩)]] w fun e W'=>e=.returned (.bool b)/\Below w.heap.size w W':=by
 have hq:=ymz v l g s w h hc;rw[hb.out] at hq;go_enter func128,ntmps128;go_wp2_with fail
 refine hq.mono ?_;rintro e w1 ⟨⟨i,rfl,hi⟩,hb1⟩;have HI:=Lh hi;clear hi;go_wp2;go_ret;exact⟨yaf HI.out,hb1⟩
def ymB (l:List UInt8):Int:=if 32<l.length then 2 else if plainB l=false then 7 else 0
theorem yrO (l:List UInt8):ymB l=if (ykS l).2=0\/(ykS l).2=2 then (ykS l).2 else 7:=by
 unfold ymB ykS plainB
 by_cases h1:32<l.length
 ·rw[if_pos h1,if_pos h1];rfl
 ·rw[if_neg h1,if_neg h1]
  cases h2:l.all yar <;> simp
theorem ykb (s:ByteArray)(R:Int)(w:World)(hs:s.size<=maxLen)(h:Hid (ymB s.data.toList=R)) :
    Calls Tryz.prog 123 #[.string s] w fun e w'=>e=.returned (.int .i64 R)/\Below w.heap.size w w':=by
 obtain⟨q,e0,hq⟩:∃ q e0,ykS s.data.toList=(q,e0):=⟨_,_,rfl⟩
 have HQ:=Lh hq;have HE:Hid ((if e0=0\/e0=2 then e0 else 7)=R):=Lh (by have:=h.out;rw[yrO,hq] at this;exact this);clear hq h
 by_cases h0:e0=0
 ·subst h0
  have HR:Hid (0=R):=Lh (by rw[<- HE.out];rfl);go_enter func123,ntmps123;go_wp2_with fail
  refine(ydB s q 0 w hs HQ).mono ?_;rintro e w1 ⟨rfl,hb1⟩;go_wp2;go_ret;exact⟨ycD HR.out,hb1⟩
 ·by_cases h2:e0=2
  ·subst h2
   have HR:Hid (2=R):=Lh (by rw[<- HE.out];rfl);go_enter func123,ntmps123;go_wp2_with fail
   refine(ydB s q 2 w hs HQ).mono ?_;rintro e w1 ⟨rfl,hb1⟩;go_wp2;go_ret;exact⟨ycD HR.out,hb1⟩
  ·have HR:Hid (7=R):=Lh (by rw[<- HE.out,if_neg (by omega)])
   have z0:(e0==0)=false:=by rw[beq_eq_false_iff_ne];exact h0
   have z2:(e0==2)=false:=by rw[beq_eq_false_iff_ne];exact h2
   clear HE;go_enter func123,ntmps123;go_wp2_with fail
   refine(ydB s q e0 w hs HQ).mono ?_;rintro e w1 ⟨rfl,hb1⟩;go_wp2;go_ret;exact⟨ycD HR.out,hb1⟩
theorem Rw.front {α:Type}{c:Nat}{P:World->Addr->α->Prop}{w:World}{ao:Option Addr}{n cap:Nat}{l:List α}(h:Rw c P w (.slice ao n cap) l){k:Nat}(hk:k<=l.length):Rw c P w (.slice ao k cap) (l.take k):=by
 obtain⟨ao',cap',e,hc,hm,hA⟩:=h;cases e
 refine⟨ao,cap,by rw[List.length_take,Nat.min_eq_left hk],by rw[List.length_take];omega,hm,fun hn=>?_⟩;rw[List.length_take] at hn;obtain⟨A,rfl,h2⟩:=hA (by omega);refine⟨A,rfl,fun i hi=>?_⟩;rw[List.length_take] at hi;rw[List.getElem_take];exact h2 i (by omega)
theorem ymt (v:Value)(l:List Pt)(i:Nat)(R:Int)(w:World)(h:Hid (Pts w v l))(hi:i<l.length)(hr:Hid (portE (l.take i) l[i]=R)) :
    Calls Tryz.prog 126 #[v,.int .i64 i] w fun e w'=>e=.returned (.int .i64 R)/\Below w.heap.size w w':=by
 have hmf:∀ (fn:Fn) (first cap:Array Value) (w:World),(Instr.makeFunc fn first cap).run Tryz.prog w=.ok (.func fn first cap) w:=fun _ _ _ _=>rfl
 obtain⟨ao,cap,rfl,hc1,hm1,-⟩:=id h.out;unfold maxLen at hm1;have hlm:cap<=9223372036854775807:=by omega
 obtain⟨A,rfl,q0,q1,qs,-⟩:=h.out.get hi;obtain⟨p,hp⟩:∃ p,l[i]=p:=⟨_,rfl⟩
 have hfe:=hr.out;rw[hp] at q0 q1 qs hfe;obtain⟨n,d⟩:=p;simp only at q0 q1 qs;obtain⟨X,hX⟩:∃ X,bb n=X:=⟨_,rfl⟩
 have hX2:X.data.toList=n:=by rw[<- hX]
 have hXs:X.size<=maxLen:=by rw[<- hX];exact qs
 rw[hX] at q0;have HFR:=Lh (h.out.front (Nat.le_of_lt hi));have i0:(0:Int)<=(i:Int):=by omega
 have i1:(i:Int)<(l.length:Int):=by omega
 have i2:(i:Int)<=(cap:Int):=by omega
 obtain⟨b1,hb1⟩:∃ b,yK X.data.toList=b:=⟨_,rfl⟩
 obtain⟨b2,hb2⟩:∃ b,(l.take i).any (fun p=>p.1==X.data.toList)=b:=⟨_,rfl⟩
 have HN:=Lh hb1;have HA:=Lh hb2;unfold portE at hfe;simp only at hfe;rw[<- hX2,hb1,hb2] at hfe;have HE:=Lh hfe;have HB:=Lh (al1 w (.cells #[.string X,.int .i64 d] 192));clear hX hX2 qs hp hfe hb1 hb2 hm1 hc1 hr;go_enter func126,ntmps126;go_wp2_with fail
 refine(yS X b1 _ hXs HN).mono ?_;rintro e w1 ⟨rfl,hw1⟩;have HB1:=Lh (ya hw1 HB.out);have HC1:Hid (w1.cell? ⟨w.heap.size,0,none⟩=some (.string X)/\w1.cell? ⟨w.heap.size,1,none⟩=some (.int .i64 d)):=Lh ⟨ye hw1 (by go_simp),ye hw1 (by go_simp)⟩;clear q0 q1 hw1;cases b1
 ·obtain rfl:5=R:=by rw[<- HE.out];rfl
  go_wp2;go_ret;exact⟨rfl,HB1.out⟩
 have HFR1:=Lh (HFR.out.keep (P:=ptAt) (fun h hb=>ptAt.keep h hb) HB1.out);obtain⟨c0,c1⟩:=HC1.out;go_wp2_with fail
 refine(yka _ _ w.heap.size X b2 w1 HFR1 (Lh HC1.out.1) HA).mono ?_;rintro e w2 ⟨rfl,hw2⟩;have HB2:=Lh (ya hw2 HB1.out);have k1:=ye hw2 HC1.out.2;clear c0 c1 hw2;cases b2
 case true =>
  obtain rfl:6=R:=by rw[<- HE.out];rfl
  go_wp2;go_ret;exact⟨rfl,HB2.out⟩
 have hd:=HE.out;simp only[Bool.false_eq_true,if_false,reduceCtorEq] at hd
 by_cases h4:d<0\/3<d
 ·rw[if_pos h4] at hd
  subst hd;have z0:(d==0)=false:=by rw[beq_eq_false_iff_ne];omega
  have z1:(d==1)=false:=by rw[beq_eq_false_iff_ne];omega
  have z2:(d==2)=false:=by rw[beq_eq_false_iff_ne];omega
  have z3:(d==3)=false:=by rw[beq_eq_false_iff_ne];omega
  clear h4;go_wp2;go_ret;exact⟨rfl,HB2.out⟩
 ·rw[if_neg h4] at hd
  subst hd
  by_cases d0:d=0
  ·subst d0
   go_wp2;go_ret;exact⟨rfl,HB2.out⟩
  by_cases d1:d=1
  ·subst d1
   go_wp2;go_ret;exact⟨rfl,HB2.out⟩
  by_cases d2:d=2
  ·subst d2
   go_wp2;go_ret;exact⟨rfl,HB2.out⟩
  obtain rfl:d=3:=by omega
  go_wp2;go_ret;exact⟨rfl,HB2.out⟩
def psL (g:Gr)(n:Int):Nat:=match g.ns[n.toNat]? with | some n=>n.ps.length | none=>0
def yrP (g:Gr)(n p:Int):Bool:=decide (0<=n/\n<(g.ns.length:Int))&&decide (-1<=p/\p<(psL g n:Int))
theorem ymC (g:Gr)(x:Ed):edgeE g x=if (yrP g x.fr x.fp&&yrP g x.to x.tp)=false then 3 else if ymB x.lb≠0 then ymB x.lb else if (decide (1<=x.wt/\x.wt<=1000)&&decide (1<=x.ln/\x.ln<=64))=false then 7 else 0:=by
 have e:edgeE g x=if x.fr<0\/(g.ns.length:Int)<=x.fr\/x.to<0\/(g.ns.length:Int)<=x.to then 3 else if x.fp < -1\/(psL g x.fr:Int)<=x.fp\/x.tp < -1\/(psL g x.to:Int)<=x.tp then 3
     else if 32<x.lb.length then 2 else if plainB x.lb=false\/x.wt<1\/1000<x.wt\/x.ln<1\/64<x.ln then 7 else 0:=rfl
 rw[e];unfold yrP;simp only[Bool.and_eq_false_iff,decide_eq_false_iff_not]
 by_cases A:x.fr<0\/(g.ns.length:Int)<=x.fr\/x.to<0\/(g.ns.length:Int)<=x.to
 ·rw[if_pos A,if_pos (by omega)]
 rw[if_neg A]
 by_cases B:x.fp < -1\/(psL g x.fr:Int)<=x.fp\/x.tp < -1\/(psL g x.to:Int)<=x.tp
 ·rw[if_pos B,if_pos (by omega)]
 rw[if_neg B,if_neg (show ¬ ((¬(0<=x.fr/\x.fr<(g.ns.length:Int))\/¬(-1<=x.fp/\x.fp<(psL g x.fr:Int)))\/¬(0<=x.to/\x.to<(g.ns.length:Int))\/¬(-1<=x.tp/\x.tp<(psL g x.to:Int))) from by omega)];unfold ymB
 by_cases C:32<x.lb.length
 ·rw[if_pos C,if_pos C];rfl
 rw[if_neg C,if_neg C];cases hp:plainB x.lb
 ·simp
 ·by_cases D:¬(1<=x.wt/\x.wt<=1000)\/¬(1<=x.ln/\x.ln<=64)
  ·rw[if_pos (Or.inr (by omega)),if_neg (by simp),if_pos D]
  ·rw[if_neg (fun h=>h.elim (fun q=>Bool.noConfusion q) (fun q=>D (by omega))),if_neg (by simp),if_neg D]
theorem ykc (v:Value)(g:Gr)(n p:Int)(b:Bool)(w:World)(h:Hid (GrV w v g))(hb:Hid (yrP g n p=b)) :
    Calls Tryz.prog 130 #[v,.int .i64 n,.int .i64 p] w fun e w'=>e=.returned (.bool b)/\Below w.heap.size w w':=by
 have hg:=h.out;obtain⟨nv,ev,cv,rfl,hnl,hns,hes,hcs⟩:=h.out;obtain⟨no,nc,rfl,hm0,hm1,-⟩:=id hns;obtain⟨eo,ec,rfl,-,-,-⟩:=id hes;obtain⟨co,cc,rfl,-,-,-⟩:=id hcs;unfold maxLen at hm1;have hlm:g.ns.length<=9223372036854775807:=by omega
 have HB:=Lh (al1 w (.cells #[.string (bb g.nm),.bool g.dir,.slice no g.ns.length nc,.slice eo g.es.length ec,.slice co g.cs.length cc] 26));have HG:=Lh (ybh w (bb g.nm) g.dir (.slice no g.ns.length nc) (.slice eo g.es.length ec) (.slice co g.cs.length cc) 26);have HGR:=Lh (hg.keep HB.out);obtain⟨b1,hb1⟩:∃ b,decide (0<=n/\n<(g.ns.length:Int))=b:=⟨_,rfl⟩
 have H1:=Lh hb1;have hfe:=hb.out;unfold yrP at hfe;rw[hb1] at hfe;have HFE:=Lh hfe;clear hm0 hm1 hns hes hcs hnl h hb hb1 hfe;go_enter func130,ntmps130;go_wp2_with fail
 refine(ymx _ g n b1 _ HGR H1).mono ?_;rintro e w1 ⟨rfl,hw1⟩;have HB1:=Lh (ya hw1 HB.out);have HG1:=Lh (yx HG.out hw1)
 have HN1:=Lh (show Nds w1 (.slice no g.ns.length nc) g.ns from by
  obtain⟨_,_,_,e,_,q,_⟩:=hg.keep HB1.out;simp only[Value.agg.injEq,Array.mk.injEq,List.cons.injEq] at e
  rw[e.2.2.1];exact q)
 clear hw1 HGR;cases b1
 ·obtain rfl:false=b:=by rw[<- HFE.out];rfl
  go_wp2;go_ret;exact⟨rfl,HB1.out⟩
 have hr:=of_decide_eq_true H1.out;obtain⟨k,rfl⟩:∃ k:Nat,n=(k:Int):=⟨n.toNat,by omega⟩
 have hk:k<g.ns.length:=by omega
 obtain⟨A,rfl,-,-,-,-,-,⟨pv,q5,hps⟩,-⟩:=HN1.out.get hk;have hpl:psL g (k:Int)=g.ns[k].ps.length:=by unfold psL;rw[Int.toNat_natCast,List.getElem?_eq_getElem hk]
 obtain⟨po,pc,rfl,hq0,hq1,-⟩:=id hps;obtain⟨L,hL⟩:∃ L,g.ns[k].ps.length=L:=⟨_,rfl⟩
 rw[hL] at q5 hpl hq0;unfold maxLen at hq1;have e1:IntKind.i64.wrap ((L:Int)-1)=(L:Int)-1:=IntWalk.i64_in _ (by omega);have HQ:Hid (decide (-1<=p/\p<=(L:Int)-1)=b):=Lh (by rw[<- HFE.out,hpl,Bool.true_and,decide_eq_decide];omega);obtain⟨g0,g1,g2,g3,g4⟩:=HG1.out;have i0:(0:Int)<=(k:Int):=by omega
 have i1:(k:Int)<(g.ns.length:Int):=by omega
 clear hpl hL hps hr hq0 hq1 HG;go_wp2_with fail
 refine(ybq (-1) ((L:Int)-1) p b _ HQ).mono ?_;rintro e w2 ⟨rfl,rfl⟩;go_wp2;go_ret;exact⟨rfl,HB1.out⟩
def xbx (w:World)(b:Nat)(m n p q:Int)(z:ByteArray)(r s:Int):Prop:=w.cell? ⟨b,0,none⟩=some (.int .i64 m)/\w.cell? ⟨b,1,none⟩=some (.int .i64 n)/\w.cell? ⟨b,2,none⟩=some (.int .i64 p)/\w.cell? ⟨b,3,none⟩=some (.int .i64 q)/\w.cell? ⟨b,4,none⟩=some (.string z)/\w.cell? ⟨b,5,none⟩=some (.int .i64 r)/\w.cell? ⟨b,6,none⟩=some (.int .i64 s)
theorem yrQ (w:World)(m n p q:Int)(z:ByteArray)(r s:Int)(t:TypeId):xbx (w.alloc (.cells #[.int .i64 m,.int .i64 n,.int .i64 p,.int .i64 q,.string z,.int .i64 r,.int .i64 s] t)) w.heap.size m n p q z r s:=by
 refine⟨?_,?_,?_,?_,?_,?_,?_⟩ <;> go_simp
theorem yhf {w1 w2:World}{b:Nat}{m n p q:Int}{z:ByteArray}{r s:Int}(h:xbx w1 b m n p q z r s)(h2:Below w1.heap.size w1 w2):xbx w2 b m n p q z r s:=by
 obtain⟨a0,a1,a2,a3,a4,a5,a6⟩:=h;exact⟨ye h2 a0,ye h2 a1,ye h2 a2,ye h2 a3,ye h2 a4,ye h2 a5,ye h2 a6⟩
theorem yrR (v:Value)(g:Gr)(fr tw fp tp:Int)(Z:ByteArray)(wt ln R:Int)(w:World)(h:Hid (GrV w v g))(hZs:Z.size<=maxLen)(hr:Hid (edgeE g ⟨fr,tw,fp,tp,Z.data.toList,wt,ln⟩=R)) :
    Calls Tryz.prog 63 #[v,.agg #[.int .i64 fr,.int .i64 tw,.int .i64 fp,.int .i64 tp,.string Z,.int .i64 wt,.int .i64 ln]] w fun e w'=>e=.returned (.int .i64 R)/\Below w.heap.size w w':=by
 have hg:=h.out;obtain⟨nv,ev,cv,rfl,hnl,hns,hes,hcs⟩:=h.out;obtain⟨no,nc,rfl,-,-,-⟩:=id hns;obtain⟨eo,ec,rfl,-,-,-⟩:=id hes;obtain⟨co,cc,rfl,-,-,-⟩:=id hcs;have hfe:=hr.out;rw[ymC] at hfe;simp only at hfe;have HG0:=yx (ybh w (bb g.nm) g.dir (.slice no g.ns.length nc) (.slice eo g.es.length ec) (.slice co g.cs.length cc) 26) (al1 _ (.cells #[.int .i64 fr,.int .i64 tw,.int .i64 fp,.int .i64 tp,.string Z,.int .i64 wt,.int .i64 ln] 61))
 have HX0:xbx ((w.alloc (.cells #[.string (bb g.nm),.bool g.dir,.slice no g.ns.length nc,.slice eo g.es.length ec,.slice co g.cs.length cc] 26)).alloc (.cells #[.int .i64 fr,.int .i64 tw,.int .i64 fp,.int .i64 tp,.string Z,.int .i64 wt,.int .i64 ln] 61)) (w.heap.size+1) fr tw fp tp Z wt ln:=by
  have:=yrQ (w.alloc (.cells #[.string (bb g.nm),.bool g.dir,.slice no g.ns.length nc,.slice eo g.es.length ec,.slice co g.cs.length cc] 26)) fr tw fp tp Z wt ln 61
  rwa [World.size_alloc] at this
 have HB0:=al2 w (.cells #[.string (bb g.nm),.bool g.dir,.slice no g.ns.length nc,.slice eo g.es.length ec,.slice co g.cs.length cc] 26) (.cells #[.int .i64 fr,.int .i64 tw,.int .i64 fp,.int .i64 tp,.string Z,.int .i64 wt,.int .i64 ln] 61);have HG:=Lh HG0;have HX:=Lh HX0;have HB:=Lh HB0;have HGR:=Lh (hg.keep HB0);obtain⟨b1,hb1⟩:∃ b,yrP g fr fp=b:=⟨_,rfl⟩
 obtain⟨b2,hb2⟩:∃ b,yrP g tw tp=b:=⟨_,rfl⟩
 obtain⟨e3,hb3⟩:∃ b,ymB Z.data.toList=b:=⟨_,rfl⟩
 obtain⟨b4,hb4⟩:∃ b,decide (1<=wt/\wt<=1000)=b:=⟨_,rfl⟩
 obtain⟨b5,hb5⟩:∃ b,decide (1<=ln/\ln<=64)=b:=⟨_,rfl⟩
 have H1:=Lh hb1;have H2:=Lh hb2;have H3:=Lh hb3;have H4:=Lh hb4;have H5:=Lh hb5;rw[hb1,hb2,hb3,hb4,hb5] at hfe;have HE:=Lh hfe;obtain⟨x0,x1,x2,x3,x4,x5,x6⟩:=HX.out;obtain⟨g0,g1,g2,g3,g4⟩:=HG.out;clear hb1 hb2 hb3 hb4 hb5 hfe HG0 HX0 HB0 hns hes hcs hnl h hr;go_enter func63,ntmps63;go_wp2_with fail
 refine(ykc _ g fr fp b1 _ HGR H1).mono ?_;rintro e w1 ⟨rfl,hw1⟩;have HB1:=Lh (ya hw1 HB.out);have HG1:=Lh (yx HG.out hw1);have HX1:=Lh (yhf HX.out hw1);have HGR1:=Lh (hg.keep HB1.out);clear x0 x1 x2 x3 x4 x5 x6 g0 g1 g2 g3 g4 hw1 HGR;obtain⟨x0,x1,x2,x3,x4,x5,x6⟩:=HX1.out;obtain⟨g0,g1,g2,g3,g4⟩:=HG1.out;cases b1
 ·obtain rfl:3=R:=by rw[<- HE.out];simp
  go_wp2;go_ret;exact⟨rfl,HB1.out⟩
 go_wp2_with fail
 refine(ykc _ g tw tp b2 _ HGR1 H2).mono ?_;rintro e w2 ⟨rfl,hw2⟩;have HB2:=Lh (ya hw2 HB1.out);have HX2:=Lh (yhf HX1.out hw2);clear x0 x1 x2 x3 x4 x5 x6 g0 g1 g2 g3 g4 hw2 HGR1 HG1 HX1;obtain⟨x0,x1,x2,x3,x4,x5,x6⟩:=HX2.out;cases b2
 ·obtain rfl:3=R:=by rw[<- HE.out];simp
  go_wp2;go_ret;exact⟨rfl,HB2.out⟩
 have hE:=HE.out;simp only[Bool.and_self,Bool.true_eq_false,if_false] at hE;have HE2:=Lh hE;clear hE HE;go_wp2_with fail
 refine(ykb Z e3 _ hZs H3).mono ?_;rintro e w3 ⟨rfl,hw3⟩;have HB3:=Lh (ya hw3 HB2.out);have HX3:=Lh (yhf HX2.out hw3);clear x0 x1 x2 x3 x4 x5 x6 hw3 HX2;obtain⟨x0,x1,x2,x3,x4,x5,x6⟩:=HX3.out
 by_cases he3:e3=0
 case neg =>
  have z3:(e3 != 0)=true:=by rw[bne_iff_ne];exact he3
  have HQ:Hid (e3=R):=Lh (by have:=HE2.out;rw[if_pos he3] at this;exact this);clear he3;go_wp2;go_ret;exact⟨ycD HQ.out,HB3.out⟩
 subst he3;have hE:=HE2.out;simp only[ne_eq,not_true_eq_false,if_false] at hE;have HE3:=Lh hE;clear hE HE2;go_wp2_with fail
 refine(ybq 1 1000 wt b4 _ H4).mono ?_;rintro e w4 ⟨rfl,rfl⟩;cases b4
 ·obtain rfl:7=R:=by rw[<- HE3.out];simp
  go_wp2;go_ret;exact⟨rfl,HB3.out⟩
 go_wp2_with fail
 refine(ybq 1 64 ln b5 _ H5).mono ?_;rintro e w4 ⟨rfl,rfl⟩;cases b5
 ·obtain rfl:7=R:=by rw[<- HE3.out];simp
  go_wp2;go_ret;exact⟨rfl,HB3.out⟩
 ·obtain rfl:0=R:=by rw[<- HE3.out];simp
  go_wp2;go_ret;exact⟨rfl,HB3.out⟩
theorem ymD (g:Gr)(pre:List Nd)(x:Nd):nodeE g pre x=if yK x.nm=false then 5 else if pre.any (fun y=>y.nm==x.nm)=true then 6 else if ymB x.lb≠0 then ymB x.lb
    else if (decide (1<=x.w/\x.w<=1048576)&&decide (1<=x.h/\x.h<=1048576)&&decide (-1<=x.cl/\x.cl<(g.cs.length:Int)))=false then 3 else if 8<x.ps.length then 2 else firstE portE [] x.ps:=by
 have e:nodeE g pre x=if yK x.nm=false then 5 else if pre.any (fun y=>y.nm==x.nm)=true then 6 else if 32<x.lb.length then 2 else if plainB x.lb=false then 7
     else if x.w<1\/1048576<x.w\/x.h<1\/1048576<x.h\/x.cl < -1\/(g.cs.length:Int)<=x.cl then 3 else if 8<x.ps.length then 2 else firstE portE [] x.ps:=rfl
 rw[e]
 have hc:((decide (1<=x.w/\x.w<=1048576)&&decide (1<=x.h/\x.h<=1048576)&&decide (-1<=x.cl/\x.cl<(g.cs.length:Int)))=false)↔(x.w<1\/1048576<x.w\/x.h<1\/1048576<x.h\/x.cl < -1\/(g.cs.length:Int)<=x.cl):=by
  simp only[Bool.and_eq_false_iff,decide_eq_false_iff_not];omega
 simp only[hc];cases yK x.nm
 ·rfl
 cases pre.any (fun y=>y.nm==x.nm)
 ·unfold ymB
  by_cases C:32<x.lb.length
  ·simp[C]
  ·cases hp:plainB x.lb <;> simp[C]
 ·rfl
theorem yhg (v:Value)(g:Gr)(i:Nat)(R:Int)(w:World)(h:Hid (GrV w v g))(hi:i<g.ns.length)(hr:Hid (nodeE g (g.ns.take i) g.ns[i]=R)) :
    Calls Tryz.prog 61 #[v,.int .i64 i] w fun e w'=>e=.returned (.int .i64 R)/\Below w.heap.size w w':=by
 have hg:=h.out;obtain⟨nv,ev,cv,rfl,hnl,hns,hes,hcs⟩:=h.out;obtain⟨no,nc,rfl,hm0,hm1,-⟩:=id hns;obtain⟨eo,ec,rfl,-,-,-⟩:=id hes;obtain⟨co,cc,rfl,-,-,-⟩:=id hcs;unfold maxLen at hm1;have hlm:g.ns.length<=9223372036854775807:=by omega
 obtain⟨x,hx⟩:∃ x,g.ns[i]=x:=⟨_,rfl⟩
 have hxi:g.ns[i]?=some x:=by rw[List.getElem?_eq_getElem hi,hx]
 have hget:=(hns.keep (al1 w (.cells #[.string (bb g.nm),.bool g.dir,.slice no g.ns.length nc,.slice eo g.es.length ec,.slice co g.cs.length cc] 26))).get hi;have hfe:=hr.out;rw[hx] at hget hfe;obtain⟨A,rfl,q0,q1,q2,q3,q4,⟨pv,q5,hps⟩,z0,z1,-⟩:=hget;rw[ymD] at hfe;obtain⟨xn,xl,xw,xh,xc,xp⟩:=x;simp only at q0 q1 q2 q3 q4 q5 hps z0 z1 hfe;obtain⟨po,pc,rfl,hp0,hp1,-⟩:=id hps;unfold maxLen at hp1;have hpl:xp.length<=9223372036854775807:=by omega
 obtain⟨Y,hY⟩:∃ Y,bb xn=Y:=⟨_,rfl⟩
 obtain⟨Z,hZ⟩:∃ Z,bb xl=Z:=⟨_,rfl⟩
 rw[hY] at q0;rw[hZ] at q1;have hY2:Y.data.toList=xn:=by rw[<- hY]
 have hZ2:Z.data.toList=xl:=by rw[<- hZ]
 have hYs:Y.size<=maxLen:=by rw[<- yp,hY2];exact z0
 have hZs:Z.size<=maxLen:=by rw[<- yp,hZ2];exact z1
 have i0:(0:Int)<=(i:Int):=by omega
 have i1:(i:Int)<(g.ns.length:Int):=by omega
 obtain⟨b1,hb1⟩:∃ b,yK Y.data.toList=b:=⟨_,rfl⟩
 obtain⟨F,hF⟩:∃ b,ykH g Y.data.toList=b:=⟨_,rfl⟩
 obtain⟨b2,hb2⟩:∃ b,(g.ns.take i).any (fun y=>y.nm==Y.data.toList)=b:=⟨_,rfl⟩
 have hdup:F=(i:Int)↔b2=false:=by
  have:=yeP (s:=Y.data.toList) (l:=g.ns) (i:=i) (x:=⟨xn,xl,xw,xh,xc,xp⟩) 0 hxi hY2.symm;rw[<- hF,<- hb2,<- this,Nat.zero_add];rfl
 obtain⟨e3,hb3⟩:∃ b,ymB Z.data.toList=b:=⟨_,rfl⟩
 obtain⟨b4,hb4⟩:∃ b,decide (1<=xw/\xw<=1048576)=b:=⟨_,rfl⟩
 obtain⟨b5,hb5⟩:∃ b,decide (1<=xh/\xh<=1048576)=b:=⟨_,rfl⟩
 obtain⟨b6,hb6⟩:∃ b,decide (-1<=xc/\xc<(g.cs.length:Int))=b:=⟨_,rfl⟩
 have H1:=Lh hb1;have HF:=Lh hF;have HD:=Lh hdup;have H3:=Lh hb3;have H4:=Lh hb4;have H5:=Lh hb5;have H6:=Lh hb6;rw[<- hY2,<- hZ2,hb1,hb2,hb3,hb4,hb5,hb6] at hfe;have HE:=Lh hfe;have HB:=Lh (al2 w (.cells #[.string (bb g.nm),.bool g.dir,.slice (some A) g.ns.length nc,.slice eo g.es.length ec,.slice co g.cs.length cc] 26) (.cells #[.string Y,.string Z,.int .i64 xw,.int .i64 xh,.int .i64 xc,.slice po xp.length pc] 59));have HG:=Lh (yih (.cells #[.string Y,.string Z,.int .i64 xw,.int .i64 xh,.int .i64 xc,.slice po xp.length pc] 59) (ybh w (bb g.nm) g.dir (.slice (some A) g.ns.length nc) (.slice eo g.es.length ec) (.slice co g.cs.length cc) 26))
 have HX:Hid (nbx ((w.alloc (.cells #[.string (bb g.nm),.bool g.dir,.slice (some A) g.ns.length nc,.slice eo g.es.length ec,.slice co g.cs.length cc] 26)).alloc (.cells #[.string Y,.string Z,.int .i64 xw,.int .i64 xh,.int .i64 xc,.slice po xp.length pc] 59)) (w.heap.size+1) Y Z xw xh xc (.slice po xp.length pc)):=Lh (by
  have:=yi1 (w.alloc (.cells #[.string (bb g.nm),.bool g.dir,.slice (some A) g.ns.length nc,.slice eo g.es.length ec,.slice co g.cs.length cc] 26)) Y Z xw xh xc po xp.length pc 59
  rwa [World.size_alloc] at this)
 have HPS:=Lh (Pts.keep hps (al1 _ (.cells #[.string Y,.string Z,.int .i64 xw,.int .i64 xh,.int .i64 xc,.slice po xp.length pc] 59)));clear hb1 hF hb2 hdup hb3 hb4 hb5 hb6 hfe hY hZ hY2 hZ2 hps hx hxi hns hes hcs hnl hm0 hm1 hp0 hp1 z0 z1 h hr;go_enter func61,ntmps61;go_wp2_with fail
 refine(yS Y b1 _ hYs H1).mono ?_;rintro e w1 ⟨rfl,hw1⟩;have HB1:=Lh (ya hw1 HB.out);have HG1:=Lh (yx HG.out hw1);have HX1:=Lh (ybP HX.out hw1);have HGR1:=Lh (hg.keep HB1.out);have HPS1:=Lh (HPS.out.keep hw1);clear q0 q1 q2 q3 q4 q5 hw1;obtain⟨x0,x1,x2,x3,x4,x5⟩:=HX1.out;obtain⟨g0,g1,g2,g3,g4⟩:=HG1.out;cases b1
 ·obtain rfl:5=R:=by rw[<- HE.out];rfl
  go_wp2;go_ret;exact⟨rfl,HB1.out⟩
 go_wp2_with fail
 refine(yj9 _ g Y F _ HGR1 HF).mono ?_;rintro e w2 ⟨rfl,hw2⟩;have HB2:=Lh (ya hw2 HB1.out);have HG2:=Lh (yx HG1.out hw2);have HX2:=Lh (ybP HX1.out hw2);have HPS2:=Lh (HPS1.out.keep hw2);clear x0 x1 x2 x3 x4 x5 g0 g1 g2 g3 g4 hw2 HGR1;obtain⟨x0,x1,x2,x3,x4,x5⟩:=HX2.out;obtain⟨g0,g1,g2,g3,g4⟩:=HG2.out;cases b2
 case true =>
  obtain rfl:6=R:=by rw[<- HE.out];rfl
  have zf:(F != (i:Int))=true:=by rw[bne_iff_ne];exact fun e=>by have:=HD.out.1 e;cases this
  go_wp2;go_ret;exact⟨rfl,HB2.out⟩
 have zf:(F != (i:Int))=false:=by rw[bne_eq_false_iff_eq];exact HD.out.2 rfl
 go_wp2_with fail
 refine(ykb Z e3 _ hZs H3).mono ?_;rintro e w3 ⟨rfl,hw3⟩;have HB3:=Lh (ya hw3 HB2.out);have HG3:=Lh (yx HG2.out hw3);have HX3:=Lh (ybP HX2.out hw3);have HPS3:=Lh (HPS2.out.keep hw3);have HGR3:=Lh (hg.keep HB3.out);clear x0 x1 x2 x3 x4 x5 g0 g1 g2 g3 g4 hw3 zf;obtain⟨x0,x1,x2,x3,x4,x5⟩:=HX3.out;obtain⟨g0,g1,g2,g3,g4⟩:=HG3.out;have hE:=HE.out;simp only[Bool.true_eq_false,if_false,Bool.false_eq_true] at hE;have HE2:=Lh hE;clear hE HE
 by_cases he3:e3=0
 case neg =>
  have z3:(e3 != 0)=true:=by rw[bne_iff_ne];exact he3
  have HQ:Hid (e3=R):=Lh (by have:=HE2.out;rw[if_pos he3] at this;exact this);clear he3;go_wp2;go_ret;exact⟨ycD HQ.out,HB3.out⟩
 subst he3;have hE:=HE2.out;simp only[ne_eq,not_true_eq_false,if_false] at hE;have HE3:=Lh hE;clear hE HE2;go_wp2_with fail
 refine(ybq 1 1048576 xw b4 _ H4).mono ?_;rintro e w4 ⟨rfl,rfl⟩;cases b4
 ·obtain rfl:3=R:=by rw[<- HE3.out];simp
  go_wp2;go_ret;exact⟨rfl,HB3.out⟩
 go_wp2_with fail
 refine(ybq 1 1048576 xh b5 _ H5).mono ?_;rintro e w4 ⟨rfl,rfl⟩;cases b5
 ·obtain rfl:3=R:=by rw[<- HE3.out];simp
  go_wp2;go_ret;exact⟨rfl,HB3.out⟩
 go_wp2_with fail
 refine(yj7 _ g xc b6 _ HGR3 H6).mono ?_;rintro e w4 ⟨rfl,hw4⟩;have HB4:=Lh (ya hw4 HB3.out);have HX4:=Lh (ybP HX3.out hw4);have HPS4:=Lh (HPS3.out.keep hw4);clear x0 x1 x2 x3 x4 x5 g0 g1 g2 g3 g4 hw4 HGR3;obtain⟨x0,x1,x2,x3,x4,x5⟩:=HX4.out;cases b6
 ·obtain rfl:3=R:=by rw[<- HE3.out];simp
  go_wp2;go_ret;exact⟨rfl,HB4.out⟩
 have hE:=HE3.out;simp only[Bool.and_self,Bool.true_eq_false,if_false] at hE
 by_cases h8:8<xp.length
 ·rw[if_pos h8] at hE
  subst hE;have l8:(8:Int)<(xp.length:Int):=by omega
  clear h8 HE3;go_wp2;go_ret;exact⟨rfl,HB4.out⟩
 rw[if_neg h8] at hE;have l8:¬ (8:Int)<(xp.length:Int):=by omega
 have HE4:Hid (firstE portE (xp.take 0) (xp.drop 0)=R):=Lh (by rw[List.take_zero,List.drop_zero];exact hE);clear h8 hE HE3;go_wp2_with fail
 clear x0 x1 x2 x3 x4 x5 l8
 go_loopw [58] (fun iv wr=>∃ k:Nat,iv=.int .i64 k/\k<=xp.length/\firstE portE (xp.take k) (xp.drop k)=R/\Below w4.heap.size w4 wr) (fun iv _=>xp.length-(intOf iv).toNat)
 case atStart=>exact⟨0,rfl,Nat.zero_le _,HE4.out,Below.refl _ _⟩
 case round =>
  obtain⟨k,rfl,hk,hfe,hB5⟩:=hrel
  rename World=>wr
  have HB5:=Lh (ya hB5 HB4.out);have HX5:=Lh (ybP HX4.out hB5);have HPS5:=Lh (HPS4.out.keep hB5);have HBB:=Lh hB5;clear HE4 hB5
  by_cases hlt:k<xp.length
  ·rw[ybo hlt] at hfe
   obtain⟨e6,he6⟩:∃ b,portE (xp.take k) xp[k]=b:=⟨_,rfl⟩
   rw[he6] at hfe;have HP:=Lh he6;have HF6:=Lh hfe;obtain⟨x0,x1,x2,x3,x4,x5⟩:=HX5.out;clear he6 hfe;go_wp2_with fail
   refine(ymt _ xp k e6 wr HPS5 hlt HP).mono ?_;rintro e w6 ⟨rfl,hw6⟩;have HB6:=Lh (ya hw6 HB5.out);have HBB6:=Lh (ya hw6 HBB.out);clear hw6 x0 x1 x2 x3 x4 x5
   by_cases h6:e6=0
   ·subst h6
    have hN:=HF6.out;simp only[ne_eq,not_true_eq_false,if_false] at hN;have HN:=Lh hN;clear hN;go_wp2
    go_roundw
    case rel=>exact⟨k+1,by go_num,by omega,HN.out,HBB6.out⟩
    case measure=>simp[intOf];omega
   ·have z6:(e6 != 0)=true:=by rw[bne_iff_ne];exact h6
    have HQ:Hid (e6=R):=Lh (by have:=HF6.out;rw[if_pos h6] at this;exact this);clear h6;go_wp2;go_ret;exact⟨ycD HQ.out,HB6.out⟩
  ·rw[ya4 (by omega)] at hfe
   subst hfe;go_wp2;go_ret;exact⟨rfl,HB5.out⟩
end Go.Proofs.YtgmidodmmlmmeaaGreatDoor.gra
