/-
  Contracts and plain facts of the layers below; conditions as each theorem states them.
-/
import Derived.Test.YtgmidodmmlmmeaaGreatDoorMta
set_option maxHeartbeats 16000000
set_option maxRecDepth 100000
namespace Go.Proofs.YtgmidodmmlmmeaaGreatDoor.tre
open Go.RowKit lex _root_.Go.Proofs.Tryz
theorem Prs.get {w:World}{ao:Option Addr}{n cap:Nat}{l:List Pr}(h:Prs w (.slice ao n cap) l){k:Nat}(hk:k<l.length):∃ A,ao=some A/\prAt w A k l[k]:=by
 obtain⟨ao',cap',e,_,_,hA⟩:=h;cases e
 obtain⟨A,rfl,h2⟩:=hA (by omega);exact⟨A,rfl,h2 k hk⟩
theorem ydf (w:World):∀ n,Below w.heap.size w (w.drewN n)
 | 0=>Below.refl _ _
 | n+1=>(ydf w n).drew
theorem yjO (k:Int)(d:List Pr):yc6 k d []=0:=by rw[yc6]
theorem yia (k:Int)(d:List Pr)(a:Pr)(t:List Pr):yc6 k d (a::t)=if k≠4/\yK a.1=false then 5 else if d.any (fun x=>decide (x.1=a.1))=true then 6 else if 32<a.2.length then 2 else if a.2.all yar=false then 7 else yc6 k (d++[a]) t:=by rw[yc6]
theorem yl7 {l:List Pr}{k:Nat}(h:k<l.length):l.drop k=l[k]::l.drop (k+1):=List.drop_eq_getElem_cons h
theorem ydT {l:List Pr}{k:Nat}(h:k<l.length):l.take (k+1)=l.take k++[l[k]]:=by rw[List.take_add_one,List.getElem?_eq_getElem h];rfl
theorem ydg (w:World)(x y:ByteArray)(t:TypeId):(w.alloc (.cells #[.string x,.string y] t)).cell? ⟨w.heap.size,0,none⟩=some (.string x)/\(w.alloc (.cells #[.string x,.string y] t)).cell? ⟨w.heap.size,1,none⟩=some (.string y):=by
 constructor <;> go_simp
theorem yrs (s:St)(rv av bv:Value)(R:Int)(w:World)(h:Hid (fvOk w ⟨s,0,rv,av,bv⟩))(hR:Hid (yjh s=R)) :
    Calls Tryz.prog 119 #[stV s rv av bv] w fun e w'=>e=.returned (.int .i64 R)/\Below w.heap.size w w':=by
 have hav:=h.out.2.2.1;clear h;have hr:=hR.out;unfold yjh at hr;simp only at hav;obtain⟨k0,hk0⟩:∃ q,s.kind=q:=⟨_,rfl⟩
 obtain⟨a,ha⟩:∃ q,s.attrs=q:=⟨_,rfl⟩
 obtain⟨X,hX⟩:∃ X,bb s.name=X:=⟨_,rfl⟩
 show Calls Tryz.prog 119 #[.agg #[.int .i64 s.kind,.string (bb s.name),rv,av,bv]] w _
 rw[hk0,ha] at hr;rw[ha] at hav;rw[hk0,hX];obtain⟨so,sc,rfl,_,_,_⟩:=id hav;have HAV:=Lh hav;have hB:=al1 w (.cells #[.int .i64 k0,.string X,rv,.slice so a.length sc,bv] 67);have h5:=ycj w k0 X rv (.slice so a.length sc) bv 67;clear hR hk0 ha hX hav s
 by_cases h16:16<a.length
 ·rw[if_pos h16] at hr
  subst hr;have l1:(16:Int)<(a.length:Int):=by omega
  clear h16 HAV h5;go_enter func119,ntmps119;go_wp2;go_ret;exact⟨rfl,hB⟩
 rw[if_neg h16] at hr;have HR:=Lh hr;have l1:¬ (16:Int)<(a.length:Int):=by omega
 have hal:a.length<=16:=by omega
 clear h16 hr;go_enter func119,ntmps119;go_wp2_with fail
 generalize w.alloc (.cells #[.int .i64 k0,.string X,rv,.slice so a.length sc,bv] 67)=w1 at hB h5 |-;have hav1:=HAV.out.keep hB;have HA1:=Lh hav1;clear HAV hav1
 go_loopw [3] (fun iv wr=>∃ k:Nat,k<=a.length/\iv=.int .i64 k/\yc6 k0 (a.take k) (a.drop k)=R/\Below w1.heap.size w1 wr) (fun iv _=>a.length-(intOf iv).toNat)
 case atStart=>exact⟨0,Nat.zero_le _,rfl,HR.out,Below.refl _ _⟩
 case round =>
  obtain⟨k,hk,rfl,hx,hBr⟩:=hrel
  rename World=>wr
  have HX:=Lh hx;obtain⟨c0,c1,c2,c3,c4⟩:=yg7 h5 hBr;clear hx HR
  by_cases hlt:k<a.length
  ·obtain⟨A,rfl,p0,p1,z2,z3⟩:=(HA1.out.keep hBr).get hlt
   have hcons:=HX.out;rw[yl7 hlt,yia] at hcons;obtain⟨x,hxe⟩:∃ x,a[k]=x:=⟨_,rfl⟩
   rw[hxe] at p0 p1 z2 z3 hcons;obtain⟨X1,hX1⟩:∃ Y,bb x.1=Y:=⟨_,rfl⟩
   obtain⟨X2,hX2⟩:∃ Y,bb x.2=Y:=⟨_,rfl⟩
   have d1:X1.data.toList=x.1:=by rw[<- hX1]
   have d2:X2.data.toList=x.2:=by rw[<- hX2]
   have s1:X1.size<=maxLen:=by rw[<- yz,d1];exact z2
   have s2:X2.size=x.2.length:=by rw[<- yz,d2]
   rw[hX1] at p0;rw[hX2] at p1;have hBq:=ya (al1 wr (.cells #[.string X1,.string X2] 69)) hBr;obtain⟨v0,v1⟩:=ydg wr X1 X2 69;obtain⟨q0,q1,q2,q3,q4⟩:=yg7 h5 hBq;obtain⟨nm,hnm⟩:∃ b,yK x.1=b:=⟨_,rfl⟩
   have HNM:Hid (yK X1.data.toList=nm):=Lh (by rw[d1];exact hnm);have HS1:=Lh s1;rw[hnm] at hcons;have i0:(0:Int)<=(k:Int):=by omega
   have i1:(k:Int)<(a.length:Int):=by omega
   have HD1:=Lh d1;have HD2:=Lh d2;have HXE:=Lh hxe;clear HX hX1 hX2 hnm d1 d2 z2 z3 s1 hxe;have hk4:(k0 != 4)=decide (k0≠4):=by rw[Bool.eq_iff_iff];simp
   by_cases g1:k0≠4/\nm=false
   ·obtain⟨g1a,rfl⟩:=g1
    rw[if_pos ⟨g1a,rfl⟩] at hcons;subst hcons;rw[decide_eq_true g1a] at hk4;clear g1a
    go_wp2_with (go_at_call 56;refine(yb8 _ _ _ HS1.out HNM).mono ?_;rintro e w' ⟨rfl,rfl⟩)
    go_ret;exact⟨rfl,ya hBq hB⟩
   ·have hcons2:(if (a.take k).any (fun y=>decide (y.1=x.1))=true then 6 else if 32<x.2.length then 2 else if x.2.all yar=false then 7 else yc6 k0 (a.take k++[x]) (a.drop (k+1)))=R:=by rw[if_neg g1] at hcons;exact hcons
    have HC:=Lh hcons2
    have hg:(k0 != 4)=true->nm=true:=fun e=>by
     cases nm
     ·exact absurd ⟨by simpa using e,rfl⟩ g1
     ·rfl
    have hway:(k0 != 4)=false\/((k0 != 4)=true/\nm=true):=by
     cases e:(k0 != 4)
     ·exact Or.inl rfl
     ·exact Or.inr ⟨rfl,hg e⟩
    have HP0:=Lh (HA1.out.keep hBq);clear hcons hcons2 hg g1 hk4
    rcases hway with hk4 | ⟨hk4,rfl⟩
    all_goals
     go_wp2_with (go_at_call 56;refine(yb8 _ _ _ HS1.out HNM).mono ?_;rintro e w' ⟨rfl,rfl⟩)
     generalize wr.alloc (.cells #[.string X1,.string X2] 69)=wq at hBq v0 v1 q0 q1 q2 q3 q4 HP0 |-;clear p0 p1 c0 c1 c2 c3 c4
     go_loopw [5] (fun jv wz=>∃ j:Nat,j<=k/\jv=.int .i64 j/\(a.take j).any (fun y=>decide (y.1=x.1))=false/\Below wq.heap.size wq wz) (fun jv _=>k-(intOf jv).toNat)
     case atStart=>exact⟨0,Nat.zero_le _,rfl,rfl,Below.refl _ _⟩
     case round =>
      obtain⟨j,hj,rfl,hany,hBz⟩:=hrel
      rename World=>wz
      have HANY:=Lh hany;clear hany;have c0:=ye hBz q0;have c2:=ye hBz q2;have c3:=ye hBz q3;have u0:=ye hBz v0;have u1:=ye hBz v1
      by_cases hjk:j<k
      ·obtain⟨A',eA,p0,_,_,_⟩:=(HP0.out.keep hBz).get (show j<a.length by omega)
       obtain rfl:A=A':=Option.some.inj eA;obtain⟨Y,hY⟩:∃ Y,bb (a[j]'(by omega)).1=Y:=⟨_,rfl⟩
       obtain⟨dp,hdp⟩:∃ b,decide ((a[j]'(by omega)).1=x.1)=b:=⟨_,rfl⟩
       have he:(Y.toList==X1.toList)=dp:=by
        rw[ByteArray.toList_eq,ByteArray.toList_eq,HD1.out,<- hY,<- hdp,Bool.eq_iff_iff];simp
       rw[hY] at p0;have HDP:=Lh hdp;have j0:(0:Int)<=(j:Int):=by omega
       have j1:(j:Int)<(a.length:Int):=by omega
       have j2:(j:Int)<(k:Int):=by omega
       clear hY hdp;cases dp
       ·have HN:Hid ((a.take (j+1)).any (fun y=>decide (y.1=x.1))=false):=Lh (by rw[ydT (show j<a.length by omega),List.any_append,HANY.out];simp[HDP.out])
        go_wp2_with fail
        go_quiet (fail)
        have hB2:=ya (ydf wz nq) hBz;generalize wz.drewN nq=wn at hB2 |-;go_wp2
        go_roundw
        case rel=>exact⟨j+1,by omega,by go_num,HN.out,hB2⟩
        case measure=>simp[intOf];omega
       ·have HN:Hid (R=6):=Lh (by
          have h6:(a.take k).any (fun y=>decide (y.1=x.1))=true:=by
           rw[List.any_eq_true];exact⟨a[j]'(by omega),List.mem_take_iff_getElem.2 ⟨j,by omega,rfl⟩,HDP.out⟩
          have:=HC.out;rw[if_pos h6] at this;exact this.symm)
        obtain rfl:=HN.out;go_wp2_with fail
        go_quiet (fail)
        have hB2:=ya (ydf wz nq) hBz;generalize wz.drewN nq=wn at hB2 |-;go_wp2;go_ret;exact⟨rfl,ya hB2 (ya hBq hB)⟩
      ·obtain rfl:j=k:=by omega
       have HC2:Hid ((if 32<x.2.length then 2 else if x.2.all yar=false then 7 else yc6 k0 (a.take j++[x]) (a.drop (j+1)))=R):=Lh (by
        have:=HC.out;rw[if_neg (by rw[HANY.out];simp)] at this;exact this)
       have hBz2:=ya hBz hBq;have hz2:(X2.size:Int)=(x.2.length:Int):=by omega
       have HPL:Hid (X2.data.toList=x.2):=HD2;clear HC HANY
       by_cases h32:32<X2.size
       ·have HN:Hid (R=2):=Lh (by have:=HC2.out;rw[if_pos (by omega)] at this;exact this.symm)
        obtain rfl:=HN.out;have l32:(32:Int)<(X2.size:Int):=by omega
        clear h32 hz2 s2;go_wp2;go_ret;exact⟨rfl,ya hBz2 hB⟩
       ·have HC3:Hid ((if x.2.all yar=false then 7 else yc6 k0 (a.take j++[x]) (a.drop (j+1)))=R):=Lh (by
          have:=HC2.out;rw[if_neg (by omega)] at this;exact this)
        have l32:¬ (32:Int)<(X2.size:Int):=by omega
        clear h32 hz2 s2 HC2;go_wp2_with fail
        go_loopw [6] (fun mv wy=>∃ m:Nat,m<=X2.size/\mv=.int .i64 m/\(X2.data.toList.take m).all yar=true/\wz=wy) (fun mv _=>X2.size-(intOf mv).toNat)
        case atStart=>exact⟨0,Nat.zero_le _,rfl,rfl,rfl⟩
        case round =>
         obtain⟨m,hm,rfl,hpl,rfl⟩:=hrel;have HW:=Lh hpl;clear hpl
         by_cases hlm:m<X2.size
         ·have HD:=Lh (ys2 X2 m hlm)
          by_cases p1:(X2[m].toNat:Int)<32
          ·have HN:Hid (R=7):=Lh (by
             have hb:x.2.all yar=false:=by
              rw[<- HPL.out,List.all_eq_false];exact⟨X2[m],List.mem_of_getElem? HD.out,by unfold yar;simp;omega⟩
             have:=HC3.out;rw[if_pos hb] at this;exact this.symm)
           obtain rfl:=HN.out;go_wp2;go_ret;exact⟨rfl,ya hBz2 hB⟩
          ·by_cases p2:126<(X2[m].toNat:Int)
           ·have HN:Hid (R=7):=Lh (by
              have hb:x.2.all yar=false:=by
               rw[<- HPL.out,List.all_eq_false];exact⟨X2[m],List.mem_of_getElem? HD.out,by unfold yar;simp;omega⟩
              have:=HC3.out;rw[if_pos hb] at this;exact this.symm)
            obtain rfl:=HN.out;go_wp2;go_ret;exact⟨rfl,ya hBz2 hB⟩
           ·have HN:Hid ((X2.data.toList.take (m+1)).all yar=true):=Lh (by
              rw[List.take_add_one,HD.out,List.all_append,HW.out];unfold yar;simp;omega)
            go_wp2
            go_roundw
            case rel=>exact⟨m+1,by omega,by go_num,HN.out,by trivial⟩
            case measure=>simp[intOf];omega
         ·obtain rfl:m=X2.size:=by omega
          have HN:Hid (yc6 k0 (a.take (j+1)) (a.drop (j+1))=R):=Lh (by
           have hb:x.2.all yar=true:=by
            have:=HW.out;rw[<- yz,List.take_length,HPL.out] at this;exact this
           have:=HC3.out;rw[if_neg (by rw[hb];simp),<- HXE.out,<- ydT hlt] at this;exact this)
          go_wp2
          go_roundw
          case rel=>exact⟨j+1,by omega,by go_num,HN.out,hBz2⟩
          case measure=>simp[intOf];omega
  ·obtain rfl:k=a.length:=by omega
   have HN:Hid (R=0):=Lh (by have:=HX.out;rw[List.drop_length,yjO] at this;exact this.symm);obtain rfl:=HN.out;go_wp2;go_ret;exact⟨rfl,ya hBr hB⟩
def at6 (w:World)(b:Nat)(k:Int)(x:ByteArray)(rv av bv:Value)(lv:Int):Prop:=at5 w b k x rv av bv/\w.cell? ⟨b,5,none⟩=some (.int .i64 lv)
theorem yru (w:World)(k:Int)(x:ByteArray)(rv av bv:Value)(lv:Int)(t:TypeId):at6 (w.alloc (.cells #[.int .i64 k,.string x,rv,av,bv,.int .i64 lv] t)) w.heap.size k x rv av bv lv:=by
 refine⟨⟨?_,?_,?_,?_,?_⟩,?_⟩ <;> go_simp
theorem yjQ {w1 w2:World}{b:Nat}{k:Int}{x:ByteArray}{rv av bv:Value}{lv:Int}(h:at6 w1 b k x rv av bv lv)(h2:Below w1.heap.size w1 w2):at6 w2 b k x rv av bv lv:=⟨yg7 h.1 h2,ye h2 h.2⟩
theorem yes {l:List Pr}{k:Nat}(h:k<l.length)(h1:(l.take k).all ydj=true)(h2:ydj l[k]=true):(l.take (k+1)).all ydj=true:=by rw[ydT h,List.all_append,h1];simp[h2]
theorem yg9 {l:List Pr}{k:Nat}(h:k<l.length)(h2:ydj l[k]=false):l.all ydj=false:=by rw[List.all_eq_false];exact⟨l[k],List.getElem_mem h,by rw[h2];simp⟩
theorem yl9 (s:St)(lv:Int)(rv av bv:Value)(R:Int)(w:World)(h:Hid (fvOk w ⟨s,lv,rv,av,bv⟩))(hR:Hid (ybs s lv=R)) :
    Calls Tryz.prog 58 #[.agg #[.int .i64 s.kind,.string (bb s.name),rv,av,bv,.int .i64 lv]] w fun e w'=>e=.returned (.int .i64 R)/\Below w.heap.size w w':=by
 have hB:=al1 w (.cells #[.int .i64 s.kind,.string (bb s.name),rv,av,bv,.int .i64 lv] 119);have h6:=yru w s.kind (bb s.name) rv av bv lv 119;have hf1:fvOk (w.alloc (.cells #[.int .i64 s.kind,.string (bb s.name),rv,av,bv,.int .i64 lv] 119)) ⟨s,0,rv,av,bv⟩:=fvOk.keep h.out hB;have HF1:=Lh hf1;have hnm:=h.out.1;simp only at hnm;have hr:=hR.out;unfold ybs at hr;obtain⟨E1,hE1⟩:∃ q,ydL s=q:=⟨_,rfl⟩
 have HE1:=Lh hE1;rw[hE1] at hr;have hrv:=h.out.2.1;simp only at hrv;obtain⟨ro,rc,hrve,hrl1,hrl2,_⟩:=id hrv;unfold maxLen at hrl2;have hrlen:s.refs.length<=9223372036854775807:=by omega
 clear hrl1 hrl2;have HRL:=Lh hrve;clear h hR hE1 hf1 hrv hrve
 by_cases g1:E1≠0
 ·rw[if_pos g1] at hr
  subst hr;have b1:(E1 != 0)=true:=by simp[g1]
  obtain⟨⟨c0,c1,c2,c3,c4⟩,c5⟩:=h6;clear g1;go_enter func58,ntmps58
  go_wp2_with (go_at_call 118;refine(yg8 s rv av bv E1 _ HF1 HE1).mono ?_;rintro e w2 ⟨rfl,hb2⟩)
  go_ret;exact⟨rfl,ya hb2 hB⟩
 rw[if_neg g1] at hr;obtain rfl:E1=0:=by simpa using g1
 clear g1;have f5:(s.kind==5)=decide (s.kind=5):=by rw[Bool.eq_iff_iff];simp
 have f2:(s.kind != 2)=decide (s.kind≠2):=by rw[Bool.eq_iff_iff];simp
 have f3:(s.kind != 3)=decide (s.kind≠3):=by rw[Bool.eq_iff_iff];simp
 have HZ:=Lh (show (bb s.name).size<=maxLen by rw[<- yz];exact hnm);obtain⟨nm,hnmv⟩:∃ q,yK s.name=q:=⟨_,rfl⟩
 have HNM:Hid (yK (bb s.name).data.toList=nm):=Lh hnmv;rw[hnmv] at hr
 by_cases g2:s.kind=5/\6<=lv
 ·rw[if_pos g2] at hr
  subst hr;rw[decide_eq_true g2.1] at f5;have l6:=g2.2;have d6:decide (6<=lv)=true:=decide_eq_true l6;clear g2 f2 f3 hnmv hnm;obtain⟨⟨c0,c1,c2,c3,c4⟩,c5⟩:=h6;go_enter func58,ntmps58;go_wp2_with fail
  refine(yg8 s rv av bv 0 _ HF1 HE1).mono ?_;rintro e w2 ⟨rfl,hb2⟩;have c0:=ye hb2 c0;have c5:=ye hb2 c5;go_wp2;go_ret;exact⟨rfl,ya hb2 hB⟩
 rw[if_neg g2] at hr
 by_cases g3:s.kind≠2/\s.kind≠3/\nm=false
 ·obtain⟨g3a,g3b,rfl⟩:=g3
  rw[if_pos ⟨g3a,g3b,rfl⟩] at hr;subst hr;rw[decide_eq_true g3a] at f2;rw[decide_eq_true g3b] at f3
  have hw5:((s.kind==5)=false)\/((s.kind==5)=true/\decide (6<=lv)=false):=by
   by_cases k5:s.kind=5
   ·exact Or.inr ⟨by rw[beq_iff_eq];exact k5,decide_eq_false (fun q=>g2 ⟨k5,q⟩)⟩
   ·exact Or.inl (by rw[beq_eq_false_iff_ne];exact k5)
  clear g2 g3a g3b hnmv hnm f5;obtain⟨⟨c0,c1,c2,c3,c4⟩,c5⟩:=h6
  rcases hw5 with f5 | ⟨f5,d6⟩
  all_goals
   go_enter func58,ntmps58;go_wp2_with fail
   refine(yg8 s rv av bv 0 _ HF1 HE1).mono ?_;rintro e w2 ⟨rfl,hb2⟩;have c0:=ye hb2 c0;have c1:=ye hb2 c1;have c5:=ye hb2 c5
   go_wp2_with (go_at_call 56;refine(yb8 _ _ _ HZ.out HNM).mono ?_;rintro e w' ⟨rfl,rfl⟩)
   go_ret;exact⟨rfl,ya hb2 hB⟩
 rw[if_neg g3] at hr
 have hway:((s.kind==5)=false/\(s.kind != 2)=true/\(s.kind != 3)=true/\nm=true)\/((s.kind==5)=false/\(s.kind != 2)=false)\/((s.kind==5)=false/\(s.kind != 2)=true/\(s.kind != 3)=false)\/((s.kind==5)=true/\decide (6<=lv)=false/\(s.kind != 2)=true/\(s.kind != 3)=true/\nm=true):=by
  have hn:s.kind≠2->s.kind≠3->nm=true:=fun a b=>by
   cases nm
   ·exact absurd ⟨a,b,rfl⟩ g3
   ·rfl
  by_cases k5:s.kind=5
  ·have d6:decide (6<=lv)=false:=decide_eq_false (fun q=>g2 ⟨k5,q⟩)
   rw[f5,f2,f3,decide_eq_true k5,decide_eq_true (show s.kind≠2 by omega),decide_eq_true (show s.kind≠3 by omega)];exact Or.inr (Or.inr (Or.inr ⟨rfl,d6,rfl,rfl,hn (by omega) (by omega)⟩))
  ·rw[f5,f2,f3,decide_eq_false k5]
   by_cases k2:s.kind=2
   ·exact Or.inr (Or.inl ⟨rfl,decide_eq_false (fun q=>q k2)⟩)
   ·by_cases k3:s.kind=3
    ·exact Or.inr (Or.inr (Or.inl ⟨rfl,decide_eq_true k2,decide_eq_false (fun q=>q k3)⟩))
    ·exact Or.inl ⟨rfl,decide_eq_true k2,decide_eq_true k3,hn k2 k3⟩
 have HR:=Lh hr;have HRV:=Lh HF1.out.2.1;clear hr f5 f2 f3 g2 g3 hnmv hnm;have hend:Hid (s.refs.all ydj=true->yjh s=R):=Lh (fun q=>by have:=HR.out;rw[if_neg (by rw[q];simp)] at this;exact this);have hbad:Hid (s.refs.all ydj=false->R=5):=Lh (fun q=>by have:=HR.out;rw[if_pos q] at this;exact this.symm);clear HR;simp only at HRV;obtain⟨r,hre⟩:∃ r,s.refs=r:=⟨_,rfl⟩
 rw[hre] at HRV hend hbad HRL hrlen;clear hre;obtain rfl:=HRL.out
 rcases hway with ⟨f5,f2,f3,rfl⟩ | ⟨f5,f2⟩ | ⟨f5,f2,f3⟩ | ⟨f5,d6,f2,f3,rfl⟩
 all_goals
  obtain⟨⟨c0,c1,c2,c3,c4⟩,c5⟩:=id h6;go_enter func58,ntmps58;go_wp2_with fail
  refine(yg8 s _ av bv 0 _ HF1 HE1).mono ?_;rintro e w2 ⟨rfl,hb2⟩;have g6:=yjQ h6 hb2;clear c0 c1 c2 c3 c4 c5;obtain⟨⟨c0,c1,c2,c3,c4⟩,c5⟩:=id g6
  go_wp2_with (go_at_call 56;refine(yb8 _ _ _ HZ.out HNM).mono ?_;rintro e w' ⟨rfl,rfl⟩)
  clear c0 c1 c2 c3 c4 c5;have hB2:=ya hb2 hB;have HRV2:=Lh (HRV.out.keep hb2);have HF2:=Lh (HF1.out.keep hb2);clear hb2
  go_loopw [4] (fun iv wr=>∃ k:Nat,k<=r.length/\iv=.int .i64 k/\(r.take k).all ydj=true/\Below w2.heap.size w2 wr) (fun iv _=>r.length-(intOf iv).toNat)
  case atStart=>exact⟨0,Nat.zero_le _,rfl,rfl,Below.refl _ _⟩
  case round =>
   obtain⟨k,hk,rfl,hall,hBr⟩:=hrel
   rename World=>wr
   have HALL:=Lh hall;obtain⟨⟨c0,c1,c2,c3,c4⟩,c5⟩:=yjQ g6 hBr;clear hall
   by_cases hlt:k<r.length
   ·obtain⟨A,rfl,p0,p1,z2,z3⟩:=(HRV2.out.keep hBr).get hlt
    obtain⟨x,hxe⟩:∃ x,r[k]=x:=⟨_,rfl⟩
    rw[hxe] at p0 p1 z2 z3;obtain⟨X1,hX1⟩:∃ Y,bb x.1=Y:=⟨_,rfl⟩
    obtain⟨X2,hX2⟩:∃ Y,bb x.2=Y:=⟨_,rfl⟩
    have d1:X1.data.toList=x.1:=by rw[<- hX1]
    have d2:X2.data.toList=x.2:=by rw[<- hX2]
    have HS1:=Lh (show X1.size<=maxLen by rw[<- yz,d1];exact z2);have HS2:=Lh (show X2.size<=maxLen by rw[<- yz,d2];exact z3);rw[hX1] at p0;rw[hX2] at p1;have hBq:=ya (al1 wr (.cells #[.string X1,.string X2] 121)) hBr;obtain⟨v0,v1⟩:=ydg wr X1 X2 121;obtain⟨n1,hn1⟩:∃ b,yK x.1=b:=⟨_,rfl⟩
    obtain⟨n2,hn2⟩:∃ b,yK x.2=b:=⟨_,rfl⟩
    obtain⟨m2,hm2⟩:∃ b,x.2.isEmpty=b:=⟨_,rfl⟩
    have HN1:Hid (yK X1.data.toList=n1):=Lh (by rw[d1];exact hn1);have HN2:Hid (yK X2.data.toList=n2):=Lh (by rw[d2];exact hn2);have he2:X2.toList.isEmpty=m2:=by rw[ByteArray.toList_eq,d2];exact hm2
    have HRB:Hid (ydj r[k]=(n1&&(m2||n2))):=Lh (by rw[hxe];unfold ydj;rw[hn1,hn2,hm2]);have i0:(0:Int)<=(k:Int):=by omega
    have i1:(k:Int)<(r.length:Int):=by omega
    clear hX1 hX2 hn1 hn2 hm2 d1 d2 z2 z3 hxe;have hw:n1=false\/(n1=true/\m2=true)\/(n1=true/\m2=false/\n2=true)\/(n1=true/\m2=false/\n2=false):=by cases n1 <;> cases m2 <;> cases n2 <;> simp
    rcases hw with rfl | ⟨rfl,rfl⟩ | ⟨rfl,rfl,rfl⟩ | ⟨rfl,rfl,rfl⟩
    ·have HN:=Lh (hbad.out (yg9 hlt HRB.out))
     obtain rfl:=HN.out
     go_wp2_with (go_at_call 56;refine(yb8 _ _ _ HS1.out HN1).mono ?_;rintro e w' ⟨rfl,rfl⟩)
     go_ret;exact⟨rfl,ya hBq hB2⟩
    ·have HN:=Lh (yes hlt HALL.out HRB.out)
     go_wp2_with (go_at_call 56;refine(yb8 _ _ _ HS1.out HN1).mono ?_;rintro e w' ⟨rfl,rfl⟩)
     go_roundw
     case rel=>exact⟨k+1,by omega,by go_num,HN.out,hBq⟩
     case measure=>simp[intOf];omega
    ·have HN:=Lh (yes hlt HALL.out HRB.out)
     go_wp2_with (first | (go_at_call 56;(with_reducible refine(yb8 _ _ _ HS1.out HN1).mono ?_);rintro e w' ⟨rfl,rfl⟩) | (go_at_call 56;(with_reducible refine(yb8 _ _ _ HS2.out HN2).mono ?_);rintro e w' ⟨rfl,rfl⟩))
     go_roundw
     case rel=>exact⟨k+1,by omega,by go_num,HN.out,hBq⟩
     case measure=>simp[intOf];omega
    ·have HN:=Lh (hbad.out (yg9 hlt HRB.out))
     obtain rfl:=HN.out
     go_wp2_with (first | (go_at_call 56;(with_reducible refine(yb8 _ _ _ HS1.out HN1).mono ?_);rintro e w' ⟨rfl,rfl⟩) | (go_at_call 56;(with_reducible refine(yb8 _ _ _ HS2.out HN2).mono ?_);rintro e w' ⟨rfl,rfl⟩))
     go_ret;exact⟨rfl,ya hBq hB2⟩
   ·obtain rfl:k=r.length:=by omega
    have HE:Hid (yjh s=R):=Lh (hend.out (by have:=HALL.out;rw[List.take_length] at this;exact this));have HFr:=Lh (HF2.out.keep hBr)
    go_wp2_with (go_at_call 119;refine(yrs s _ av bv R _ HFr HE).mono ?_;rintro e w3 ⟨rfl,hb3⟩)
    go_ret;exact⟨rfl,ya hb3 (ya hBr hB2)⟩
theorem yma {w:World}{B g cap:Nat}{F:List FV}(h:w.ownsRow B 119 6 (.slice (some ⟨g,0,none⟩) F.length cap) F.length (ybf F)){i:Nat}(hi:i<F.length) :
    w.cell? ((⟨g,0,none⟩:Addr).add (i*6))=some (.int .i64 F[i].s.kind)/\w.cell? ⟨((⟨g,0,none⟩:Addr).add (i*6)).block,((⟨g,0,none⟩:Addr).add (i*6)).off+1,none⟩=some (.string (bb F[i].s.name)) /\
    w.cell? ⟨((⟨g,0,none⟩:Addr).add (i*6)).block,((⟨g,0,none⟩:Addr).add (i*6)).off+2,none⟩=some F[i].rv/\w.cell? ⟨((⟨g,0,none⟩:Addr).add (i*6)).block,((⟨g,0,none⟩:Addr).add (i*6)).off+3,none⟩=some F[i].av /\
    w.cell? ⟨((⟨g,0,none⟩:Addr).add (i*6)).block,((⟨g,0,none⟩:Addr).add (i*6)).off+4,none⟩=some F[i].bv/\w.cell? ⟨((⟨g,0,none⟩:Addr).add (i*6)).block,((⟨g,0,none⟩:Addr).add (i*6)).off+5,none⟩=some (.int .i64 F[i].lv):=by
 have c:=World.ownsRow.cells h (g:=g) rfl;have eb:((⟨g,0,none⟩:Addr).add (i*6)).block=g:=by unfold Addr.add;split <;> rfl
 have eo:((⟨g,0,none⟩:Addr).add (i*6)).off=i*6:=by
  unfold Addr.add;split
  ·simp;omega
  ·simp
 have key:∀ j u,(ycu F[i])[j]?=some u->0<j->w.cell? ⟨g,i*6+j,none⟩=some u:=by
  intro j u hj h0;have:=c _ _ (ydA F i hi j u hj);rw[ya5 _ _ (by omega)] at this
  simpa using this
 rw[eb,eo];refine⟨?_,key 1 _ rfl (by decide),key 2 _ rfl (by decide),key 3 _ rfl (by decide),key 4 _ rfl (by decide),key 5 _ rfl (by decide)⟩;have:=c _ _ (ydA F i hi 0 _ rfl)
 simpa using this
theorem yoB {w:World}{B g cap:Nat}{F:List FV}(h:w.ownsRow B 119 6 (.slice (some ⟨g,0,none⟩) F.length cap) F.length (ybf F)){i:Nat}(hi:i<F.length) :
    w.cell? ⟨g,i*6,none⟩=some (.int .i64 F[i].s.kind)/\w.cell? ⟨g,i*6+1,none⟩=some (.string (bb F[i].s.name))/\w.cell? ⟨g,i*6+2,none⟩=some F[i].rv /\
    w.cell? ⟨g,i*6+3,none⟩=some F[i].av/\w.cell? ⟨g,i*6+4,none⟩=some F[i].bv/\w.cell? ⟨g,i*6+5,none⟩=some (.int .i64 F[i].lv):=by
 have c:=World.ownsRow.cells h (g:=g) rfl
 have key:∀ j u,(ycu F[i])[j]?=some u->0<j->w.cell? ⟨g,i*6+j,none⟩=some u:=by
  intro j u hj h0;have:=c _ _ (ydA F i hi j u hj);rw[ya5 _ _ (by omega)] at this
  simpa using this
 obtain⟨h0,-⟩:=yma h hi;refine⟨?_,key 1 _ rfl (by decide),key 2 _ rfl (by decide),key 3 _ rfl (by decide),key 4 _ rfl (by decide),key 5 _ rfl (by decide)⟩;rw[<- h0];unfold Addr.add;split
 ·rename_i hz;have:i=0:=by (try simp at hz);omega
  subst this;rfl
 ·simp
theorem ymb {F:List FV}{l:List St}{lv:Int}(h:F.map (fun f=>(f.s,f.lv))=ybt l lv):F.length=cnt l:=by
 have:=congrArg List.length h;rw[List.length_map] at this;rw[this];exact yc5.2 _ _ _
theorem yiU {L:List (St × Int)}{k:Nat}(h:k<L.length):firstE (L.drop k)=if ybs L[k].1 L[k].2≠0 then ybs L[k].1 L[k].2 else firstE (L.drop (k+1)):=by
 rw[List.drop_eq_getElem_cons h,firstE]
theorem yrv {F:List FV}{L:List (St × Int)}(h:F.map (fun f=>(f.s,f.lv))=L){k:Nat}(hk:k<F.length):∃ hk2:k<L.length,L[k]=(F[k].s,F[k].lv):=by
 subst h;exact⟨by rw[List.length_map];exact hk,by rw[List.getElem_map]⟩
def at3 (w:World)(b:Nat)(x:ByteArray)(d:Bool)(bv:Value):Prop:=w.cell? ⟨b,0,none⟩=some (.string x)/\w.cell? ⟨b,1,none⟩=some (.bool d)/\w.cell? ⟨b,2,none⟩=some bv
theorem yha (w:World)(x:ByteArray)(d:Bool)(bv:Value)(t:TypeId):at3 (w.alloc (.cells #[.string x,.bool d,bv] t)) w.heap.size x d bv:=by
 refine⟨?_,?_,?_⟩ <;> go_simp
theorem yjR {w1 w2:World}{b:Nat}{x:ByteArray}{d:Bool}{bv:Value}(h:at3 w1 b x d bv)(h2:Below w1.heap.size w1 w2):at3 w2 b x d bv:=⟨ye h2 h.1,ye h2 h.2.1,ye h2 h.2.2⟩
theorem ymc (v:Value)(T:Tr)(w:World)(hT:Hid (TrV w v T))(hc:cnt T.body<=600) :
    Calls Tryz.prog 21 #[v] w fun e w'=>e=.returned (.int .i64 (cnt T.body:Int))/\Below w.heap.size w w':=by
 obtain⟨bv,rfl,hnl,hs⟩:=hT.out;have hB:=al1 w (.cells #[.string (bb T.name),.bool T.dir,bv] 33);have HS1:=Lh (hs.keep hB);clear hT hs hnl;go_enter func21,ntmps21;go_wp2_with fail
 refine(ys3 T.body _ _ bv 0 (Below.refl _ _) HS1.out hc (by decide) (by omega)).mono ?_;rintro e w2 ⟨g,oc,F,rfl,_,hF,_,hb2⟩;have hFl:=Lh (ymb hF);clear hF;go_wp2;go_ret;exact⟨ycD (by rw[hFl.out]),ya hb2 hB⟩
end Go.Proofs.YtgmidodmmlmmeaaGreatDoor.tre
namespace Go.Proofs.YtgmidodmmlmmeaaGreatDoor.tre
open Go.RowKit lex
def Nl (w:World)(v:Value)(l:List (List UInt8)):Prop:=∃ (ao:Option Addr) (cap:Nat),v=.slice ao l.length cap/\l.length<=cap/\cap<=maxLen/\(0<l.length->∃ A,ao=some A/\∀ i (h:i<l.length),w.cell? (A.add i)=some (.string (bb l[i])))
theorem Nl.get {w:World}{ao:Option Addr}{n cap:Nat}{l:List (List UInt8)}(h:Nl w (.slice ao n cap) l){i:Nat}(hi:i<l.length):∃ A,ao=some A/\w.cell? (A.add i)=some (.string (bb l[i])):=by
 obtain⟨ao',cap',e,_,_,hA⟩:=h;cases e
 obtain⟨A,rfl,h2⟩:=hA (by omega);exact⟨A,rfl,h2 i hi⟩
def nmC (l:List (List UInt8)):List Value:=l.map fun x=>.string (bb x)
def Nrow (w:World)(B:Nat)(v:Value)(l:List (List UInt8)):Prop:=w.ownsRow B 9 1 v l.length (nmC l)
theorem Nrow.nl {w:World}{B:Nat}{v:Value}{l:List (List UInt8)}(h:Nrow w B v l):Nl w v l:=by
 have h0:=h
 rcases h.2 with ⟨rfl,hz⟩ | ⟨g,cap,cur,rfl,hg,hc,hcap,hm,h3⟩
 ·obtain rfl:l=[]:=List.eq_nil_of_length_eq_zero hz
  exact⟨none,0,rfl,Nat.le_refl _,by decide,fun h=>absurd h (by simp)⟩
 ·refine⟨some ⟨g,0,none⟩,cap,rfl,hcap,hm,fun _=>⟨_,rfl,fun i hi=>?_⟩⟩
  have c:=World.ownsRow.cells h0 (g:=g) rfl;exact c i _ (by unfold nmC;rw[List.getElem?_map,List.getElem?_eq_getElem hi];rfl)
end Go.Proofs.YtgmidodmmlmmeaaGreatDoor.tre
namespace Go.Proofs.YtgmidodmmlmmeaaGreatDoor.tre
open Go.RowKit lex _root_.Go.Proofs.Tryz
theorem yrw:(Tryz.prog.info? 9).map (fun i=>(i.zero,i.size,i.bytes))=some (some (.string ⟨#[]⟩),1,16):=by kernel_rfl
theorem yfi:∃ i,Tryz.prog.info? 9=some i/\i.zero=some (.string ⟨#[]⟩)/\i.size=1/\i.bytes=16:=by
 have h:=yrw
 cases hq:Tryz.prog.info? 9 with
 | none=>rw[hq] at h;cases h
 | some i =>
  rw[hq] at h;simp only[Option.map_some,Option.some.injEq,Prod.mk.injEq] at h;exact⟨i,rfl,h.1,h.2.1,h.2.2⟩
theorem yoC (l:List (List UInt8))(x:List UInt8):nmC (l++[x])=nmC l++[.string (bb x)]:=by simp[nmC]
theorem ymd (w:World)(v:Value)(t:TypeId):∀ j u,[v][j]?=some u->(w.alloc (.cells #[v] t)).cell? ((⟨w.heap.size,0,none⟩:Addr).add j)=some u:=by
 intro j u hj
 match j,hj with
 | 0,hj=>simp at hj;subst hj;simp[Addr.add]
 | (j+1),hj=>simp at hj
theorem yoD {w:World}{ops:Array Oper}{rest:List Oper}{o:Oper}{a:Act}{Q:Exit->Act->World->Prop}(hg:o.guard=none)(p y:Operand)(ho:o.op=.call { callee:=.builtin .append,args:=#[p,y],argTypes:=#[50,50] })
    (B:Nat) (v:Value) (l:List (List UInt8)) (x:List UInt8) (hs:a.eval p=v) (hx:a.eval y=.slice (some ⟨w.heap.size,0,none⟩) 1 1) (h:Hid (Nrow w B v l)) (hl:l.length<=1000000) (hB:B<=w.heap.size)
    (hK:∀ v' w',Nrow w' B v' (l++[x])->w.grownBy w' v.ownBlock->wpList Tryz.prog ops Q rest (a.put o.dst v') w'):wpList Tryz.prog ops Q (o::rest) a (w.alloc (.cells #[.string (bb x)] 9)):=by
 obtain⟨i0,hi,hz0,hz1,hz2⟩:=yfi;refine wpList_append_own _ hg p y 50 ho B 9 i0 (.string ⟨#[]⟩) 1 16 underlying50 hi hz0 hz1 hz2 rfl (by decide) v l.length _ hs (World.ownsRow.alloc h.out _) ⟨w.heap.size,0,none⟩ 1 1 [.string (bb x)] hx rfl (ymd _ _ _) (by simp[Value.oneCell']) (by unfold maxLen;omega) (by omega) (by simp;omega) ?_;intro v' w' hown hgrow _;refine hK v' w' ?_ ?_
 ·unfold Nrow;rw[yoC,List.length_append];exact hown
 ·refine⟨hgrow.os,hgrow.tape,hgrow.output,Nat.le_trans (by simp) hgrow.size,fun k hk hne=>?_⟩
  rw[hgrow.block k (by simp;omega) hne,heap_alloc_old w _ hk]
theorem yrx {w:World}{B1 B2 s1 s2 n1 n2:Nat}{e1 e2:TypeId}{v1 v2:Value}{xs1 xs2:List Value}(h1:w.ownsRow B1 e1 s1 v1 n1 xs1)(h2:w.ownsRow B2 e2 s2 v2 n2 xs2)(he:e1≠e2):v1.ownBlock=none\/v1.ownBlock≠v2.ownBlock:=by
 rcases h1.2 with ⟨rfl,_⟩ | ⟨g,_,cur,rfl,_,hg,_⟩
 ·exact Or.inl rfl
 ·refine Or.inr fun e=>?_
  rcases h2.2 with ⟨rfl,_⟩ | ⟨g2,_,cur2,rfl,_,hg2,_⟩
  ·cases e
  ·have e3:g=g2:=Option.some.inj e
   rw[<- e3,hg] at hg2
   injection hg2 with hg2
   injection hg2 with _ h5 _
   exact he h5
end Go.Proofs.YtgmidodmmlmmeaaGreatDoor.tre
namespace Go.Proofs.YtgmidodmmlmmeaaGreatDoor.tre
open Go.RowKit lex
theorem yat {W w:World}(h:Below W.heap.size W w):Below W.heap.size W w.drew:=h.drew
end Go.Proofs.YtgmidodmmlmmeaaGreatDoor.tre
namespace Go.Proofs.YtgmidodmmlmmeaaGreatDoor.tre
open Go.RowKit lex _root_.Go.Proofs.Tryz
def yi0 (l:List St):Prop:=∀ (w0 w:World) (v:Value) (lv:Int),Below w0.heap.size w0 w->Sts w0 v l->cnt l<=1000000000000->0<=lv->lv+cnt l<=2000000000000 ->
 Calls Tryz.prog 57 #[v,.int .i64 lv] w (yqw w0 l lv w)
theorem ymv (l:List St)(ih:∀ s∈l,yi0 s.body):yi0 l:=by
 intro w0 w v lv hw hs hcn h0 h1;obtain⟨i0,hi,hz0,hz1,hz2⟩:=ygk;have hs':=hs;obtain⟨ao,cap,rfl,hc,hm,_⟩:=hs';have HS:=Lh hs;have IH:=Lh ih;unfold maxLen at hm;have hlm:l.length<=9223372036854775807:=by omega
 clear hs ih hc hm;go_enter func57,ntmps57;go_wp2_with fail
 go_loopw [5,6] (fun out iv wr=>∃ (g oc:Nat) (F:List FV) (k:Nat),out=.slice (some ⟨g,0,none⟩) F.length oc/\iv=.int .i64 k/\k<=l.length/\wr.ownsRow w.heap.size 119 6 (.slice (some ⟨g,0,none⟩) F.length oc) F.length (ybf F) /\
  F.map (fun f=>(f.s,f.lv))=ybt (l.take k) lv/\(∀ f∈F,fvOk w0 f)/\Below w.heap.size w wr) (fun _ iv _=>l.length-(intOf iv).toNat)
 case atStart =>
  exact⟨w.heap.size,0,[],0,rfl,rfl,Nat.zero_le _,World.ownsRow_lit (e:=119) (size:=6) w #[] 0 (Nat.le_refl _) (by decide) rfl,rfl,fun f hf=>(by cases hf),al1 ..⟩
 case round =>
  obtain⟨g,oc,F,k,rfl,rfl,hk,hown,hF,hfv,hB⟩:=hrel
  rename World=>wr
  have HO:=Lh hown;have HF:=Lh hF;have HFV:=Lh hfv;have hsz:=hB.size;clear hown hF hfv;have hFl:F.length=cnt (l.take k):=by have:=congrArg List.length HF.out;rw[List.length_map] at this;rw[this];exact yc5.2 _ _ _
  by_cases hlt:k<l.length
  ·obtain⟨hct,htk⟩:=yer hlt
   have hB0:Below w0.heap.size w0 wr:=hw.trans (hB.mono hw.size);obtain⟨A,rfl,hst0⟩:=HS.out.get hlt;have hst:=(yeZ hB0).1 _ _ hst0;obtain⟨c0,c1,hnl,⟨rv,c2,hrv⟩,⟨av,c3,hav⟩,bv,c4,hbv⟩:=(yap _ _ _).1 hst;obtain⟨_,_,_,⟨rv',c2',hrv0⟩,⟨av',c3',hav0⟩,bv',c4',hbv0⟩:=(yap _ _ _).1 hst0;obtain rfl:rv'=rv:=Option.some.inj ((yb hB0 c2').symm.trans c2);obtain rfl:av'=av:=Option.some.inj ((yb hB0 c3').symm.trans c3);obtain rfl:bv'=bv:=Option.some.inj ((yb hB0 c4').symm.trans c4);have HNF:Hid (fvOk w0 ⟨l[k],lv,rv',av',bv'⟩):=Lh ⟨hnl,hrv0,hav0,hbv0⟩;have HBV0:=Lh hbv0;have hone:=ydS HNF.out;have HONE:=Lh hone;have hPre:=IH.out l[k] (List.getElem_mem hlt);have HPRE:=Lh hPre
   have HPL:Hid (ybt (l.take (k+1)) lv=ybt (l.take k) lv++((l[k],lv)::ybt l[k].body (if l[k].kind=5 then lv+1 else lv))):=Lh (by
    rw[htk,yba,yH,yef,List.append_nil,y6])
   have k0:=((yap _ _ _).1 hst0).1;have k4:=c4';clear hrv hav hbv hrv0 hav0 hbv0 hst hst0 c2' c3' c4' hone hPre htk;have z0:(0:Int)<=(k:Int):=by omega
   have z1:(k:Int)<(l.length:Int):=by omega
   obtain⟨s,hse⟩:∃ s,l[k]=s:=⟨_,rfl⟩
   rw[hse] at c0 c1 HNF HBV0 HONE HPRE HPL hct hnl k0;clear hse;have hFb:F.length+1+cnt s.body<=1000000000000:=by omega
   have hlvb:lv+1+cnt s.body<=2000000000000:=by omega
   have hB1:=ya (al1 wr (.cells #[.int .i64 s.kind,.string (bb s.name),rv',av',bv',.int .i64 lv] 119)) hB;have HK0:=Lh k0;have HK4:=Lh k4;clear k0 k4 hFl hct;obtain⟨lw,hlw⟩:∃ q:Int,(if s.kind=5 then lv+1 else lv)=q:=⟨_,rfl⟩
   rw[hlw] at HPL;have hl0:0<=lw:=by rw[<- hlw];split <;> omega
   have hl1:lw+cnt s.body<=2000000000000:=by rw[<- hlw];split <;> omega
   have hway:((s.kind==5)=true/\lw=lv+1)\/((s.kind==5)=false/\lv=lw):=by
    by_cases h5:s.kind=5
    ·rw[if_pos h5] at hlw;exact Or.inl ⟨by rw[beq_iff_eq];exact h5,hlw.symm⟩
    ·rw[if_neg h5] at hlw;exact Or.inr ⟨by rw[beq_eq_false_iff_ne];exact h5,hlw⟩
   clear hlw
   rcases hway with ⟨b5,rfl⟩ | ⟨b5,rfl⟩
   all_goals
    go_wp2_with (first
     | (at_builtin;refine wpList_append_own _ rfl (.tmp 15) (.tmp 22) 115 rfl w.heap.size 119 i0 (.agg #[.int .i64 0,.string ⟨#[]⟩,.slice none 0 0,.slice none 0 0,.slice none 0 0,.int .i64 0]) 6 104 underlying115 hi hz0 hz1 hz2 rfl (by decide) _ _ _ rfl (World.ownsRow.alloc HO.out _) ⟨wr.heap.size,0,none⟩ 1 1 [.int .i64 s.kind,.string (bb s.name),rv',av',bv',.int .i64 lv] rfl rfl (yh9 _ _ _ _ _ _ _ _) (fun u hu=>HONE.out u hu) (by unfold maxLen;omega) (by omega) (by simp;omega) ?_;intro v3 w3 hown3 hgrow3 hnil3;have hB3:=(hB.alloc hsz (.cells #[.int .i64 s.kind,.string (bb s.name),rv',av',bv',.int .i64 lv] 119)).grown hgrow3 (by simp;omega) (fun q hq=>(World.ownsRow.lt HO.out q hq).1);have hs3:=hB3.size;have hBw:=hw.trans (hB3.mono hw.size);have d0:=yb hBw HK0.out;have d4:=yb hBw HK4.out;have HO3:=Lh hown3;clear hown3 hgrow3 hnil3)
     | (go_at_call 57;refine(HPRE.out w0 w3 bv' _ hBw HBV0.out (by omega) hl0 hl1).mono ?_;rintro e w4 ⟨g4,oc4,G,rfl,hown4,hG,hGv,hb4⟩;have HO4:=Lh (own_keep HO3.out hb4);have HG:=Lh hG;have HGV:=Lh hGv;have HOG:=Lh hown4;have hB4:=ya hb4 hB3;have hs4:=hB4.size;have hGl:G.length=cnt s.body:=(by have:=congrArg List.length hG;rw[List.length_map] at this;rw[this];exact yc5.2 _ _ _);have hGb:F.length+1+G.length<=1000000000000:=(by omega);clear hown4 hG hGv hb4 hGl)
     | (at_builtin;refine wpList_append_own _ rfl (.tmp 33) (.tmp 40) 115 rfl w.heap.size 119 i0 (.agg #[.int .i64 0,.string ⟨#[]⟩,.slice none 0 0,.slice none 0 0,.slice none 0 0,.int .i64 0]) 6 104 underlying115 hi hz0 hz1 hz2 rfl (by decide) _ _ _ rfl HO4.out ⟨g4,0,none⟩ G.length oc4 (ybf G) rfl (yea G) (World.ownsRow.cells HOG.out (g:=g4) rfl) (ygj HGV.out) (by unfold maxLen;omega) (by omega) hs4 ?_;intro v5 w5 hown5 hgrow5 hnil5;have hB5:=hB4.grown hgrow5 hs4 (fun q hq=>(World.ownsRow.lt HO4.out q hq).1);have HO5:=Lh hown5;clear hown5 hgrow5 hnil5))
    have hcat:ybf F++[.int .i64 s.kind,.string (bb s.name),rv',av',bv',.int .i64 lv]++ybf G=ybf (F++[(⟨s,lv,rv',av',bv'⟩:FV)]++G):=by rw[ydz,ydz,yh8];rfl
    have hlen:(F++[(⟨s,lv,rv',av',bv'⟩:FV)]++G).length=F.length+1+G.length:=by simp;omega
    have hO5:=HO5.out;rw[hcat,<- hlen] at hO5
    obtain⟨g5,oc5,rfl⟩:∃ g5 oc5,v5=.slice (some ⟨g5,0,none⟩) (F++[(⟨s,lv,rv',av',bv'⟩:FV)]++G).length oc5:=by
     rcases hO5.2 with ⟨_,h0⟩ | ⟨g5,oc5,_,rfl,_⟩
     ·rw[hlen] at h0;omega
     ·exact⟨g5,oc5,rfl⟩
    have HO6:=Lh hO5;clear HO5 hO5 hcat hlen
    go_roundw
    case rel=>exact⟨g5,oc5,F++[(⟨s,lv,rv',av',bv'⟩:FV)]++G,k+1,rfl,by go_num,by omega,HO6.out,by rw[List.map_append,List.map_append,HF.out,HG.out,HPL.out,List.append_assoc];rfl,fun f hf=>by
     rcases List.mem_append.1 hf with hf | hf
     ·rcases List.mem_append.1 hf with hf | hf
      ·exact HFV.out f hf
      ·rw[List.mem_singleton.1 hf];exact HNF.out
     ·exact HGV.out f hf,hB5⟩
    case measure=>simp[intOf];omega
  ·obtain rfl:k=l.length:=by omega
   have HL:Hid (l.take l.length=l):=Lh (List.take_length);go_wp2;go_ret;exact⟨g,oc,F,rfl,HO.out,by rw[HF.out,HL.out],HFV.out,hB⟩
theorem yo4 (l:List St):yi0 l:=ydR ymv l
theorem yfo (v:Value)(T:Tr)(R:Int)(w:World)(hT:Hid (TrV w v T))(hc:cnt T.body<=1000000000000)(hR:Hid (yab T=R)) :
    Calls Tryz.prog 20 #[v] w fun e w'=>e=.returned (.int .i64 R)/\Below w.heap.size w w':=by
 obtain⟨bv,rfl,hnl,hs⟩:=hT.out;have hr:=hR.out;unfold yab at hr;obtain⟨X,hX⟩:∃ X,bb T.name=X:=⟨_,rfl⟩
 have hXd:X.data.toList=T.name:=by rw[<- hX]
 have HZ:=Lh (show X.size<=maxLen by rw[<- yz,hXd];exact hnl);obtain⟨nm,hnm⟩:∃ q,yK T.name=q:=⟨_,rfl⟩
 have HNM:Hid (yK X.data.toList=nm):=Lh (by rw[hXd];exact hnm);rw[hX];rw[hnm] at hr;have hB:=al1 w (.cells #[.string X,.bool T.dir,bv] 33);have h3:=yha w X T.dir bv 33;have HS1:=Lh (hs.keep hB);have hsz1:w.heap.size<(w.alloc (.cells #[.string X,.bool T.dir,bv] 33)).heap.size:=by simp
 clear hT hR hX hXd hnm hs hnl;cases nm
 ·rw[if_pos rfl] at hr
  subst hr;obtain⟨c0,c1,c2⟩:=h3;go_enter func20,ntmps20
  go_wp2_with (go_at_call 56;refine(yb8 _ _ _ HZ.out HNM).mono ?_;rintro e w' ⟨rfl,rfl⟩)
  go_ret;exact⟨rfl,hB⟩
 rw[if_neg (by decide)] at hr;have HR:=Lh hr;clear hr;obtain⟨c0,c1,c2⟩:=id h3;go_enter func20,ntmps20;go_wp2_with fail
 refine(yb8 _ _ _ HZ.out HNM).mono ?_;rintro e w' ⟨rfl,rfl⟩;go_wp2_with fail
 refine(yo4 T.body _ _ bv 0 (Below.refl _ _) HS1.out hc (by decide) (by omega)).mono ?_;rintro e w2 ⟨g,oc,F,rfl,hown,hF,hfv,hb2⟩;have hFl:=ymb hF;have hB2:=ya hb2 hB;have HO:=Lh hown;have HF:=Lh hF;have HFV:Hid (∀ f∈F,fvOk w2 f):=Lh (fun f hf=>(hfv f hf).keep hb2);clear c0 c1 c2 h3 hown hF hfv hb2 hsz1
 by_cases g5:512<F.length
 ·have HN:Hid (R=2):=Lh (by have:=HR.out;rw[if_pos (by omega)] at this;exact this.symm)
  obtain rfl:=HN.out;have l5:(512:Int)<(F.length:Int):=by omega
  clear g5 hFl;go_wp2;go_ret;exact⟨rfl,hB2⟩
 have HR2:Hid (firstE (ybt T.body 0)=R):=Lh (by have:=HR.out;rw[if_neg (by omega)] at this;exact this);have l5:¬ (512:Int)<(F.length:Int):=by omega
 have hF512:F.length<=512:=by omega
 clear g5 hFl HR;go_wp2_with fail
 go_loopw [4] (fun iv wr=>∃ k:Nat,k<=F.length/\iv=.int .i64 k/\firstE ((ybt T.body 0).drop k)=R/\Below w2.heap.size w2 wr) (fun iv _=>F.length-(intOf iv).toNat)
 case atStart=>exact⟨0,Nat.zero_le _,rfl,HR2.out,Below.refl _ _⟩
 case round =>
  obtain⟨k,hk,rfl,hfe,hBr⟩:=hrel
  rename World=>wr
  have HFE:=Lh hfe;clear hfe HR2
  by_cases hlt:k<F.length
  ·obtain⟨p0,p1,p2,p3,p4,p5⟩:=yma (own_keep HO.out hBr) hlt
   obtain⟨r0,r1,r2,r3,r4,r5⟩:=yoB (own_keep HO.out hBr) hlt;obtain⟨hk2,hgk⟩:=yrv HF.out hlt;have hst:=HFE.out;rw[yiU hk2,hgk] at hst;have hfk:=(HFV.out _ (List.getElem_mem hlt)).keep hBr;obtain⟨f,hfe⟩:∃ f,F[k]=f:=⟨_,rfl⟩
   rw[hfe] at p0 p1 p2 p3 p4 p5 r0 r1 r2 r3 r4 r5 hst hfk;obtain⟨s,lv,rv,av,bv'⟩:=f;have HFK:=Lh hfk;obtain⟨E,hE⟩:∃ E,ybs s lv=E:=⟨_,rfl⟩
   simp only at p0 p1 p2 p3 p4 p5 r0 r1 r2 r3 r4 r5 hst;rw[hE] at hst;have HE:=Lh hE;have i0:(0:Int)<=(k:Int):=by omega
   have i1:(k:Int)<(F.length:Int):=by omega
   clear hE hfk hfe hgk HFE
   by_cases he:E=0
   ·rw[if_neg (by simp[he])] at hst
    have HN:=Lh hst;subst he;clear hst
    go_wp2_with (go_at_call 58;refine(yl9 s lv rv av bv' 0 _ HFK HE).mono ?_;rintro e w3 ⟨rfl,hb3⟩)
    go_roundw
    case rel=>exact⟨k+1,by omega,by go_num,HN.out,ya hb3 hBr⟩
    case measure=>simp[intOf];omega
   ·rw[if_pos he] at hst
    subst hst;have b1:(E != 0)=true:=by simp[he]
    clear he
    go_wp2_with (go_at_call 58;refine(yl9 s lv rv av bv' E _ HFK HE).mono ?_;rintro e w3 ⟨rfl,hb3⟩)
    go_ret;exact⟨rfl,ya hb3 (ya hBr hB2)⟩
  ·obtain rfl:k=F.length:=by omega
   have HN:Hid (R=0):=Lh (by
    have:=HFE.out;rw[<- HF.out,List.drop_of_length_le (by rw[List.length_map];exact Nat.le_refl _)] at this
    exact this.symm)
   obtain rfl:=HN.out;go_wp2;go_ret;exact⟨rfl,ya hBr hB2⟩
end Go.Proofs.YtgmidodmmlmmeaaGreatDoor.tre
