/-
  Contracts and plain facts of the layers below; conditions as each theorem states them.
-/
import Derived.Test.YtgmidodmmlmmeaaGreatDoorMac
import Derived.Test.YtgmidodmmlmmeaaGreatDoorGraPlain
import Derived.Lib.QuietBelow
set_option maxHeartbeats 16000000
set_option maxRecDepth 100000
namespace Go.Proofs.YtgmidodmmlmmeaaGreatDoor.gra
open Go.ChangeShapes Go.WideShapes Go.ChangeAt Go.RowKit Go.Joins lex
abbrev bb (l:List UInt8):ByteArray:=⟨l.toArray⟩
theorem ycE (s:ByteArray):bb s.data.toList=s:=by cases s;simp
def Rw {α:Type}(c:Nat)(P:World->Addr->α->Prop)(w:World)(v:Value)(l:List α):Prop :=
 ∃ (ao:Option Addr) (cap:Nat),v=.slice ao l.length cap/\l.length<=cap/\cap<=maxLen/\(0<l.length->∃ A,ao=some A/\∀ i (h:i<l.length),P w (A.add (i*c)) l[i])
theorem Rw.nil {α:Type}(c:Nat)(P:World->Addr->α->Prop)(w:World):Rw c P w (.slice none 0 0) []:=⟨none,0,rfl,Nat.le_refl _,by decide,fun h=>absurd h (by simp)⟩
theorem Rw.keep {α:Type}{c:Nat}{P:World->Addr->α->Prop}(hP:∀ {w1 w2:World} {A:Addr} {x:α},P w1 A x->Below w1.heap.size w1 w2->P w2 A x){w1 w2:World}{v:Value}{l:List α}(h:Rw c P w1 v l)(hb:Below w1.heap.size w1 w2):Rw c P w2 v l:=by
 obtain⟨ao,cap,rfl,hc,hm,hA⟩:=h;exact⟨ao,cap,rfl,hc,hm,fun hn=>by obtain⟨A,rfl,h2⟩:=hA hn;exact⟨A,rfl,fun i hi=>hP (h2 i hi) hb⟩⟩
def ptAt (w:World)(A:Addr)(r:Pt):Prop :=
 w.cell? A=some (.string (bb r.1))/\w.cell? ⟨A.block,A.off+1,none⟩=some (.int .i64 r.2)/\r.1.length<=maxLen/\(Lit.int .i64 r.2).wf=true
theorem ptAt.keep {w1 w2:World}{A:Addr}{r:Pt}(h:ptAt w1 A r)(hb:Below w1.heap.size w1 w2):ptAt w2 A r:=⟨yb hb h.1,yb hb h.2.1,h.2.2⟩
abbrev Pts:=Rw 2 ptAt
theorem Pts.keep {w1 w2:World}{v:Value}{l:List Pt}(h:Pts w1 v l)(hb:Below w1.heap.size w1 w2):Pts w2 v l:=Rw.keep (P:=ptAt) (fun h hb=>ptAt.keep h hb) h hb
def ndAt (w:World)(A:Addr)(x:Nd):Prop :=
 w.cell? A=some (.string (bb x.nm))/\w.cell? ⟨A.block,A.off+1,none⟩=some (.string (bb x.lb))/\w.cell? ⟨A.block,A.off+2,none⟩=some (.int .i64 x.w)/\w.cell? ⟨A.block,A.off+3,none⟩=some (.int .i64 x.h) /\
 w.cell? ⟨A.block,A.off+4,none⟩=some (.int .i64 x.cl)/\(∃ pv,w.cell? ⟨A.block,A.off+5,none⟩=some pv/\Pts w pv x.ps)/\x.nm.length<=maxLen/\x.lb.length<=maxLen /\
 (Lit.int .i64 x.w).wf=true/\(Lit.int .i64 x.h).wf=true/\(Lit.int .i64 x.cl).wf=true
theorem ndAt.keep {w1 w2:World}{A:Addr}{x:Nd}(h:ndAt w1 A x)(hb:Below w1.heap.size w1 w2):ndAt w2 A x:=by
 obtain⟨h0,h1,h2,h3,h4,⟨pv,h5,h6⟩,h7⟩:=h;exact⟨yb hb h0,yb hb h1,yb hb h2,yb hb h3,yb hb h4,⟨pv,yb hb h5,h6.keep hb⟩,h7⟩
abbrev Nds:=Rw 6 ndAt
theorem Nds.keep {w1 w2:World}{v:Value}{l:List Nd}(h:Nds w1 v l)(hb:Below w1.heap.size w1 w2):Nds w2 v l:=Rw.keep (P:=ndAt) (fun h hb=>ndAt.keep h hb) h hb
def edAt (w:World)(A:Addr)(x:Ed):Prop :=
 w.cell? A=some (.int .i64 x.fr)/\w.cell? ⟨A.block,A.off+1,none⟩=some (.int .i64 x.to)/\w.cell? ⟨A.block,A.off+2,none⟩=some (.int .i64 x.fp)/\w.cell? ⟨A.block,A.off+3,none⟩=some (.int .i64 x.tp) /\
 w.cell? ⟨A.block,A.off+4,none⟩=some (.string (bb x.lb))/\w.cell? ⟨A.block,A.off+5,none⟩=some (.int .i64 x.wt)/\w.cell? ⟨A.block,A.off+6,none⟩=some (.int .i64 x.ln)/\x.lb.length<=maxLen /\
 (Lit.int .i64 x.fr).wf=true/\(Lit.int .i64 x.to).wf=true/\(Lit.int .i64 x.fp).wf=true/\(Lit.int .i64 x.tp).wf=true/\(Lit.int .i64 x.wt).wf=true/\(Lit.int .i64 x.ln).wf=true
theorem edAt.keep {w1 w2:World}{A:Addr}{x:Ed}(h:edAt w1 A x)(hb:Below w1.heap.size w1 w2):edAt w2 A x:=by
 obtain⟨h0,h1,h2,h3,h4,h5,h6,h7⟩:=h;exact⟨yb hb h0,yb hb h1,yb hb h2,yb hb h3,yb hb h4,yb hb h5,yb hb h6,h7⟩
abbrev Eds:=Rw 7 edAt
theorem Eds.keep {w1 w2:World}{v:Value}{l:List Ed}(h:Eds w1 v l)(hb:Below w1.heap.size w1 w2):Eds w2 v l:=Rw.keep (P:=edAt) (fun h hb=>edAt.keep h hb) h hb
abbrev Cls:=Rw 2 ptAt
theorem Cls.keep {w1 w2:World}{v:Value}{l:List Cl}(h:Cls w1 v l)(hb:Below w1.heap.size w1 w2):Cls w2 v l:=Pts.keep h hb
def GrV (w:World)(v:Value)(g:Gr):Prop :=
 ∃ nv ev cv,v=.agg #[.string (bb g.nm),.bool g.dir,nv,ev,cv]/\g.nm.length<=maxLen/\Nds w nv g.ns/\Eds w ev g.es/\Cls w cv g.cs
theorem GrV.keep {w1 w2:World}{v:Value}{g:Gr}(h:GrV w1 v g)(hb:Below w1.heap.size w1 w2):GrV w2 v g:=by
 obtain⟨nv,ev,cv,rfl,hm,h1,h2,h3⟩:=h;exact⟨nv,ev,cv,rfl,hm,h1.keep hb,h2.keep hb,h3.keep hb⟩
instance:Inhabited Nd:=⟨⟨[],[],0,0,0,[]⟩⟩
instance:Inhabited Ed:=⟨⟨0,0,0,0,[],0,0⟩⟩
section
variable {H:Type} {enc:TypeId × Value->H} {w:World} {base:Nat} {spare:Nat->Bool} {held:Bool}
end
end Go.Proofs.YtgmidodmmlmmeaaGreatDoor.gra
namespace Go.Proofs.YtgmidodmmlmmeaaGreatDoor.gra
open Go.RowKit lex _root_.Go.Proofs.Tryz
theorem Rw.get {α:Type}{c:Nat}{P:World->Addr->α->Prop}{w:World}{ao:Option Addr}{n cap:Nat}{l:List α}(h:Rw c P w (.slice ao n cap) l){k:Nat}(hk:k<l.length):∃ A,ao=some A/\P w (A.add (k*c)) l[k]:=by
 obtain⟨ao',cap',e,_,_,hA⟩:=h;cases e
 obtain⟨A,rfl,h2⟩:=hA (by omega);exact⟨A,rfl,h2 k hk⟩
theorem ykJ (s:ByteArray)(w:World)(hs:s.size<=maxLen) :
    Calls Tryz.prog 144 #[.string s] w fun e w'=>e=.returned (.bool (s.data.toList.all yar))/\w=w':=by
 unfold maxLen at hs;obtain⟨v,hv⟩:∃ v:Bool,s.data.toList.all yar=v:=⟨_,rfl⟩
 rw[hv];have HV:=Lh hv;clear hv;go_enter func144,ntmps144;go_wp2
 go_loop [3] (fun v=>∃ k:Nat,k<=s.size/\v=.int .i64 k/\(s.data.toList.take k).all yar=true) (fun v=>s.size-(intOf v).toNat)
 case atStart=>exact⟨0,Nat.zero_le _,rfl,rfl⟩
 case round =>
  obtain⟨k,hk,rfl,hw⟩:=hrel;have HW:=Lh hw;clear hw
  by_cases hlt:k<s.size
  ·by_cases h1:(s[k].toNat:Int)<32
   ·have HP:=Lh (yeX hlt (by unfold yar;simp;omega))
    go_wp2;go_ret;exact⟨yaf (by rw[<- HV.out,HP.out]),rfl⟩
   ·by_cases h2:126<(s[k].toNat:Int)
    ·have HP:=Lh (yeX hlt (by unfold yar;simp;omega))
     go_wp2;go_ret;exact⟨yaf (by rw[<- HV.out,HP.out]),rfl⟩
    ·have HP:=Lh (yf2 HW.out hlt (by unfold yar;simp;omega))
     go_wp2
     go_round
     case rel=>exact⟨k+1,by omega,by go_num,HP.out⟩
     case measure=>simp[intOf];omega
  ·obtain rfl:k=s.size:=by omega
   have HP:Hid (s.data.toList.all yar=true):=Lh (by have:=HW.out;rw[List.take_of_length_le (by rw[yp];omega)] at this;exact this);go_wp2;go_ret;exact⟨yaf (by rw[<- HV.out,HP.out]),rfl⟩
theorem yeY (s:ByteArray)(v:Bool)(w:World)(hs:s.size<=maxLen)(h:Hid (plainB s.data.toList=v)) :
    Calls Tryz.prog 144 #[.string s] w fun e w'=>e=.returned (.bool v)/\w=w':=by rw[<- h.out];exact ykJ s w hs
theorem yjw (v:Value)(g:Gr)(s:ByteArray)(R:Int)(w:World)(h:Hid (GrV w v g))(hr:Hid (ykH g s.data.toList=R)) :
    Calls Tryz.prog 143 #[v,.string s] w fun e w'=>e=.returned (.int .i64 R)/\Below w.heap.size w w':=by
 obtain⟨nv,ev,cv,rfl,hnl,hn,he,hc⟩:=h.out;have HR:Hid (findG (g.ns.drop 0) s.data.toList 0=R):=hr;have hB:=al1 w (.cells #[.string (bb g.nm),.bool g.dir,nv,ev,cv] 26);have HN:=Lh (hn.keep hB);clear hn he hc h hr hnl;obtain⟨ao,cap,rfl,hc,hm,_⟩:=id HN.out;unfold maxLen at hm;have hlm:g.ns.length<=9223372036854775807:=by omega
 clear hc hm;go_enter func143,ntmps143;go_wp2_with fail
 go_loop [5] (fun iv=>∃ k:Nat,iv=.int .i64 k/\k<=g.ns.length/\findG (g.ns.drop k) s.data.toList k=R) (fun iv=>g.ns.length-(intOf iv).toNat)
 case atStart=>exact⟨0,rfl,Nat.zero_le _,HR.out⟩
 case round =>
  obtain⟨k,rfl,hk,hfe⟩:=hrel;clear HR
  by_cases hlt:k<g.ns.length
  ·rw[yjp hlt] at hfe
   obtain⟨A,rfl,q0,-⟩:=HN.out.get hlt;obtain⟨Y,hY⟩:∃ Y,bb g.ns[k].nm=Y:=⟨_,rfl⟩
   rw[hY] at q0;have hY2:Y.data.toList=g.ns[k].nm:=by rw[<- hY]
   have i0:(0:Int)<=(k:Int):=by omega
   have i1:(k:Int)<(g.ns.length:Int):=by omega
   by_cases hxy:g.ns[k].nm=s.data.toList
   ·have b1:(Y.toList==s.toList)=true:=by rw[ByteArray.toList_eq,ByteArray.toList_eq,hY2,beq_iff_eq];exact hxy
    rw[if_pos hxy] at hfe;subst hfe;clear hY hY2 hxy;go_wp2;go_ret;exact⟨rfl,hB⟩
   ·have b1:(Y.toList==s.toList)=false:=by rw[ByteArray.toList_eq,ByteArray.toList_eq,hY2,beq_eq_false_iff_ne];exact hxy
    rw[if_neg hxy] at hfe;have HF:=Lh hfe;clear hY hY2 hxy hfe;go_wp2
    go_round
    case rel=>exact⟨k+1,by go_num,by omega,HF.out⟩
    case measure=>simp[intOf];omega
  ·rw[yhF (by omega)] at hfe
   subst hfe;go_wp2;go_ret;exact⟨rfl,hB⟩
theorem yF (w:World):∀ n,Below w.heap.size w (w.drewN n)
 | 0=>Below.refl _ _
 | n+1=>(yF w n).drew
theorem ylw (v:Value)(l:List Pt)(R:Int)(w:World)(h:Hid (Pts w v l))(hr:Hid (firstE portE [] l=R)) :
    Calls Tryz.prog 145 #[v] w fun e w'=>e=.returned (.int .i64 R)/\Below w.heap.size w w':=by
 obtain⟨ao,cap,rfl,hc,hm,_⟩:=id h.out;unfold maxLen at hm;have hlm:l.length<=9223372036854775807:=by omega
 clear hc hm;have HR:Hid (firstE portE (l.take 0) (l.drop 0)=R):=hr;clear hr;go_enter func145,ntmps145;go_wp2_with fail
 go_loopw [3] (fun iv wr=>∃ i:Nat,iv=.int .i64 i/\i<=l.length/\firstE portE (l.take i) (l.drop i)=R/\Below w.heap.size w wr) (fun iv _=>l.length-(intOf iv).toNat)
 case atStart=>exact⟨0,rfl,Nat.zero_le _,HR.out,Below.refl _ _⟩
 case round =>
  obtain⟨i,rfl,hi,hfe,hB⟩:=hrel
  rename World=>wr
  clear HR
  by_cases hlt:i<l.length
  ·rw[ybo hlt] at hfe
   have hq:=(h.out.keep hB).get hlt;obtain⟨A,rfl,q0,q1,q2,-⟩:=hq;obtain⟨Y,hY⟩:∃ Y,bb l[i].1=Y:=⟨_,rfl⟩
   rw[hY] at q0;have hY2:Y.data.toList=l[i].1:=by rw[<- hY]
   have hYs:Y.size<=maxLen:=by rw[<- yp,hY2];exact q2
   have i0:(0:Int)<=(i:Int):=by omega
   have i1:(i:Int)<(l.length:Int):=by omega
   obtain⟨nm,hnm⟩:∃ b,yK l[i].1=b:=⟨_,rfl⟩
   have HNM:Hid (yK Y.data.toList=nm):=Lh (by rw[hY2];exact hnm);have hb0:=hB;have HB:=Lh hB;cases nm
   ·have e5:portE (l.take i) l[i]=5:=by unfold portE;rw[if_pos hnm]
    rw[e5,if_pos (by decide)] at hfe;subst hfe;clear hY hY2 hnm e5 hB hb0;go_wp2_with fail
    refine(ybk _ _ _ hYs HNM).mono ?_;rintro e w1 ⟨rfl,rfl⟩;go_wp2;go_ret;exact⟨rfl,HB.out⟩
   ·have HF:=Lh hfe
    have HNN:=Lh hnm;clear hfe hnm hB hb0;go_wp2_with fail
    refine(ybk _ _ _ hYs HNM).mono ?_;rintro e w1 ⟨rfl,rfl⟩;go_wp2_with fail
    go_loopw [4] (fun kv wq=>∃ k:Nat,kv=.int .i64 k/\k<=i/\(l.take k).any (fun q=>q.1==l[i].1)=false/\Below w.heap.size w wq) (fun kv _=>i-(intOf kv).toNat)
    case atStart=>exact⟨0,rfl,Nat.zero_le _,by simp,HB.out⟩
    case round =>
     obtain⟨k,rfl,hk,hany,hB2⟩:=hrel
     rename World=>wq
     by_cases hki:k<i
     ·obtain⟨A1,e1,p0,-⟩:=(h.out.keep hB2).get (k:=k) (by omega)
      cases e1
      obtain⟨A2,e2,s0,-⟩:=(h.out.keep hB2).get hlt;cases e2
      rw[hY] at s0;obtain⟨X,hX⟩:∃ X,bb (l[k]'(by omega)).1=X:=⟨_,rfl⟩
      rw[hX] at p0;have hX2:X.data.toList=(l[k]'(by omega)).1:=by rw[<- hX]
      have k0:(0:Int)<=(k:Int):=by omega
      have k1:(k:Int)<(l.length:Int):=by omega
      obtain⟨b,hb⟩:∃ b,(X.toList==Y.toList)=b:=⟨_,rfl⟩
      have hb2:((l[k]'(by omega)).1==l[i].1)=b:=by rw[<- hb,ByteArray.toList_eq,ByteArray.toList_eq,hX2,hY2]
      have HB2:=Lh hB2;cases b
      ·have HA:Hid ((l.take (k+1)).any (fun q=>q.1==l[i].1)=false):=Lh (by rw[yjn (by omega),hany,hb2];rfl)
       clear hX hX2 hb2 hany hB2;go_wp2_with fail
       go_quiet (fail)
       have HB3:=Lh (ya (yF wq nq) HB2.out);generalize wq.drewN nq=w3 at HB3 |-;go_wp2
       go_roundw
       case rel=>exact⟨k+1,by go_num,by omega,HA.out,HB3.out⟩
       case measure=>simp[intOf];omega
      ·have HA:Hid ((l.take i).any (fun q=>q.1==l[i].1)=true):=Lh (yjo (by omega) hki hb2)
       have e6:portE (l.take i) l[i]=6:=by unfold portE;rw[if_neg (by rw[HNN.out];decide),if_pos HA.out]
       have hfe:=HF.out;rw[e6,if_pos (by decide)] at hfe;subst hfe;clear hX hX2 hb2 hany hB2 HF e6;go_wp2_with fail
       go_quiet (fail)
       have HB3:=Lh (ya (yF wq nq) HB2.out);generalize wq.drewN nq=w3 at HB3 |-;go_wp2;go_ret;exact⟨rfl,HB3.out⟩
     ·obtain rfl:k=i:=by omega
      obtain⟨A2,e2,-,s1,-⟩:=(h.out.keep hB2).get hlt;cases e2
      obtain⟨u,hu⟩:∃ u,l[k].2=u:=⟨_,rfl⟩
      rw[hu] at s1;have HB2:=Lh hB2
      have hE:portE (l.take k) l[k]=if u<0\/3<u then 7 else 0:=by
       unfold portE;rw[if_neg (by rw[HNN.out];decide),if_neg (by rw[hany];decide),hu]
      have hfe:=HF.out;rw[hE] at hfe;clear HF hany hB2 hu hE hY hY2
      by_cases h1:u<0
      ·rw[if_pos (Or.inl h1),if_pos (by decide)] at hfe
       subst hfe;go_wp2;go_ret;exact⟨rfl,HB2.out⟩
      ·by_cases h2:3<u
       ·rw[if_pos (Or.inr h2),if_pos (by decide)] at hfe
        subst hfe;go_wp2;go_ret;exact⟨rfl,HB2.out⟩
       ·rw[show (if u<0\/3<u then (7:Int) else 0)=0 from if_neg (by omega),if_neg (by decide)] at hfe
        have HF2:=Lh hfe;clear hfe;go_wp2
        go_roundw
        case rel=>exact⟨k+1,by go_num,by omega,HF2.out,HB2.out⟩
        case measure=>simp[intOf];omega
  ·rw[ya4 (by omega)] at hfe
   subst hfe;go_wp2;go_ret;exact⟨rfl,hB⟩
end Go.Proofs.YtgmidodmmlmmeaaGreatDoor.gra
namespace Go.Proofs.YtgmidodmmlmmeaaGreatDoor.gra
open Go.RowKit lex
def inAt (w:World)(A:Addr)(n:Int):Prop:=w.cell? A=some (.int .i64 n)
theorem inAt.keep {w1 w2:World}{A:Addr}{n:Int}(h:inAt w1 A n)(hb:Below w1.heap.size w1 w2):inAt w2 A n:=yb hb h
abbrev Ins:=Rw 1 inAt
theorem Ins.keep {w1 w2:World}{v:Value}{l:List Int}(h:Ins w1 v l)(hb:Below w1.heap.size w1 w2):Ins w2 v l:=Rw.keep (P:=inAt) (fun h hb=>inAt.keep h hb) h hb
end Go.Proofs.YtgmidodmmlmmeaaGreatDoor.gra
namespace Go.Proofs.YtgmidodmmlmmeaaGreatDoor.gra
open Go.RowKit lex _root_.Go.Proofs.Tryz
theorem ylx (v:Value)(g:Gr)(n:Nat)(c R:Int)(w:World)(h:Hid (GrV w v g))(hn:n<=g.cs.length)(hw:Hid (Wf (g.cs.take n)))(hc0:-1<=c)(hc1:c<(n:Int))(hr:Hid (dep (g.cs.take n) c=R)) :
    Calls Tryz.prog 146 #[v,.int .i64 c] w fun e w'=>e=.returned (.int .i64 R)/\Below w.heap.size w w':=by
 obtain⟨nv,ev,cv,rfl,hnl,hns,he,hc⟩:=h.out;have hB:=al1 w (.cells #[.string (bb g.nm),.bool g.dir,nv,ev,cv] 26);have HC:=Lh (hc.keep hB);clear hns he hc h hnl;obtain⟨ao,cap,rfl,hc,hm,_⟩:=id HC.out;unfold maxLen at hm;have hlm:g.cs.length<=9223372036854775807:=by omega
 have hln:(g.cs.take n).length=n:=by rw[List.length_take];omega
 clear hc hm
 have hR0:R<=(n:Int):=by
  have:=yeQ hw.out n c hc1 hc0;have:=hr.out;omega
 go_enter func146,ntmps146;go_wp2_with fail
 go_loop [1,5] (fun kv mv=>∃ (k m:Int),kv=.int .i64 k/\mv=.int .i64 m/\-1<=k/\k<(n:Int)/\0<=m/\m+dep (g.cs.take n) k=R) (fun kv _=>(intOf kv+1).toNat)
 case atStart=>exact⟨c,0,rfl,rfl,hc0,hc1,by omega,by rw[hr.out];omega⟩
 case round =>
  obtain⟨k,m,rfl,rfl,hk0,hk1,hm0,hfe⟩:=hrel;clear hr
  by_cases hlt:k<0
  ·rw[ygI _ _ hlt] at hfe
   obtain rfl:m=R:=by omega
   go_wp2;go_ret;exact⟨rfl,hB⟩
  ·obtain⟨i,rfl⟩:∃ i:Nat,k=(i:Int):=⟨k.toNat,by omega⟩
   have hi:i<g.cs.length:=by omega
   obtain⟨A,rfl,-,q1,-⟩:=HC.out.get hi;obtain⟨u,hu⟩:∃ u,g.cs[i].2=u:=⟨_,rfl⟩
   rw[hu] at q1;have hup:up (g.cs.take n) (i:Int)=u:=by rw[up_at (by omega),List.getElem_take,hu]
   have hun:=up_neg _ hw.out (i:Int) (by omega);rw[ylo hw.out _ (by omega),hup] at hfe;rw[hup] at hun;have hd:=yfY (g.cs.take n) u;have i0:(0:Int)<=(i:Int):=by omega
   have i1:(i:Int)<(g.cs.length:Int):=by omega
   have HF:=Lh hfe;have hm9:m<9223372036854775807:=by omega
   clear hu hup hfe hd;go_wp2
   go_round
   case rel=>exact⟨u,m+1,rfl,by go_num,hun.1,by omega,by omega,by have:=HF.out;omega⟩
   case measure=>simp[intOf];omega
theorem yq1 (v:Value)(g:Gr)(c:Int)(n:Nat)(R:Bool)(w:World)(h:Hid (GrV w v g))(hn:n<g.ns.length)(hw:Hid (Wf g.cs))(hr:Hid (-1<=clOf g n/\clOf g n<(g.cs.length:Int)))(hR:Hid (has g c n=R)) :
    Calls Tryz.prog 59 #[v,.int .i64 c,.int .i64 n] w fun e w'=>e=.returned (.bool R)/\Below w.heap.size w w':=by
 obtain⟨nv,ev,cv,rfl,hnl,hns,he,hc⟩:=h.out;have hB:=al1 w (.cells #[.string (bb g.nm),.bool g.dir,nv,ev,cv] 26);have HC:=Lh (hc.keep hB);have HN:=Lh (hns.keep hB);clear hns he hc h hnl;obtain⟨ao,cap,rfl,hc,hm,_⟩:=id HC.out;obtain⟨no,ncap,rfl,hc',hm',_⟩:=id HN.out;unfold maxLen at hm hm';have hlm:g.cs.length<=9223372036854775807:=by omega
 have hln:g.ns.length<=9223372036854775807:=by omega
 clear hc hm hc' hm';have hh:=hR.out;unfold has at hh
 by_cases h1:c=-1
 ·have b1:(c == -1)=true:=by rw[beq_iff_eq];exact h1
  rw[decide_eq_true h1,Bool.true_or] at hh;subst hh;clear hR;go_enter func59,ntmps59;go_wp2;go_ret;exact⟨rfl,hB⟩
 have b1:(c == -1)=false:=by rw[beq_eq_false_iff_ne];exact h1
 rw[decide_eq_false h1,Bool.false_or] at hh;obtain⟨A,rfl,-,-,-,-,q4,-⟩:=HN.out.get hn;have hcl:clOf g n=g.ns[n].cl:=by unfold clOf;rw[List.getElem?_eq_getElem hn]
 have hrr:=hr.out;obtain⟨u,hu⟩:∃ u,g.ns[n].cl=u:=⟨_,rfl⟩
 rw[hcl,hu] at hrr hh;rw[hu] at q4;have HH:=Lh hh;have i0:(0:Int)<=(n:Int):=by omega
 have i1:(n:Int)<(g.ns.length:Int):=by omega
 clear hh hcl hu h1 hR hr;go_enter func59,ntmps59;go_wp2_with fail
 go_loop [7] (fun kv=>∃ (k:Int),kv=.int .i64 k/\-1<=k/\k<(g.cs.length:Int)/\decide (c∈ch g.cs k)=R) (fun kv=>(intOf kv+1).toNat)
 case atStart=>exact⟨u,rfl,hrr.1,hrr.2,HH.out⟩
 case round =>
  obtain⟨k,rfl,hk0,hk1,hfe⟩:=hrel;clear HH
  by_cases hlt:k<0
  ·rw[ch_neg _ _ hlt] at hfe
   obtain rfl:false=R:=by simpa using hfe
   go_wp2;go_ret;exact⟨rfl,hB⟩
  ·obtain⟨i,rfl⟩:∃ i:Nat,k=(i:Int):=⟨k.toNat,by omega⟩
   have hi:i<g.cs.length:=by omega
   rw[ch_cons hw.out _ (by omega)] at hfe
   by_cases hic:(i:Int)=c
   ·have b2:((i:Int)==c)=true:=by rw[beq_iff_eq];exact hic
    rw[decide_eq_true (by rw[hic];exact List.mem_cons_self ..)] at hfe;subst hfe;clear hic;go_wp2;go_ret;exact⟨rfl,hB⟩
   ·have b2:((i:Int)==c)=false:=by rw[beq_eq_false_iff_ne];exact hic
    obtain⟨A',rfl,-,q1,-⟩:=HC.out.get hi;obtain⟨x,hx⟩:∃ x,g.cs[i].2=x:=⟨_,rfl⟩
    rw[hx] at q1;have hup:up g.cs (i:Int)=x:=by rw[up_at hi,hx]
    have hun:=up_neg _ hw.out (i:Int) (by omega);rw[hup] at hun hfe;have HF:Hid (decide (c∈ch g.cs x)=R):=Lh (by rw[<- hfe,decide_eq_decide,List.mem_cons];exact⟨Or.inr,fun h=>h.resolve_left fun e=>hic e.symm⟩);have j0:(0:Int)<=(i:Int):=by omega
    have j1:(i:Int)<(g.cs.length:Int):=by omega
    clear hx hup hfe hic;go_wp2
    go_round
    case rel=>exact⟨x,rfl,hun.1,by omega,HF.out⟩
    case measure=>simp[intOf];omega
def gat (w:World)(b:Nat)(x:ByteArray)(d:Bool)(nv ev cv:Value):Prop:=w.cell? ⟨b,0,none⟩=some (.string x)/\w.cell? ⟨b,1,none⟩=some (.bool d)/\w.cell? ⟨b,2,none⟩=some nv/\w.cell? ⟨b,3,none⟩=some ev/\w.cell? ⟨b,4,none⟩=some cv
theorem ybh (w:World)(x:ByteArray)(d:Bool)(nv ev cv:Value)(t:TypeId):gat (w.alloc (.cells #[.string x,.bool d,nv,ev,cv] t)) w.heap.size x d nv ev cv:=by
 refine⟨?_,?_,?_,?_,?_⟩ <;> go_simp
theorem yx {w1 w2:World}{b:Nat}{x:ByteArray}{d:Bool}{nv ev cv:Value}(h:gat w1 b x d nv ev cv)(h2:Below w1.heap.size w1 w2):gat w2 b x d nv ev cv :=
 ⟨ye h2 h.1,ye h2 h.2.1,ye h2 h.2.2.1,ye h2 h.2.2.2.1,ye h2 h.2.2.2.2⟩
def kat (w:World)(b:Nat)(x:ByteArray)(u:Int):Prop:=w.cell? ⟨b,0,none⟩=some (.string x)/\w.cell? ⟨b,1,none⟩=some (.int .i64 u)
theorem yq2 (w:World)(x:ByteArray)(u:Int)(t:TypeId):kat (w.alloc (.cells #[.string x,.int .i64 u] t)) w.heap.size x u:=by
 refine⟨?_,?_⟩ <;> go_simp
theorem ynV {w1 w2:World}{b:Nat}{x:ByteArray}{u:Int}(h:kat w1 b x u)(h2:Below w1.heap.size w1 w2):kat w2 b x u:=⟨ye h2 h.1,ye h2 h.2⟩
theorem ygK {cs:List Cl}{i:Nat}(hi:i<cs.length)(h:Wf (cs.take i))(h1:-1<=cs[i].2)(h2:cs[i].2<(i:Int)):Wf (cs.take (i+1)):=by
 intro j x hx;rw[List.getElem?_take] at hx
 split at hx
 ·rename_i hj
  by_cases he:j=i
  ·subst he
   rw[List.getElem?_eq_getElem hi] at hx;cases hx
   exact⟨h1,h2⟩
  ·exact h j x (by rw[List.getElem?_take,if_pos (by omega)];exact hx)
 ·exact nomatch hx
theorem yiO (v:Value)(g:Gr)(i:Nat)(R:Int)(w:World)(h:Hid (GrV w v g))(hi:i<g.cs.length)(hw:Hid (Wf (g.cs.take i)))(hr:Hid (clusterE g (g.cs.take i) g.cs[i]=R)) :
    Calls Tryz.prog 79 #[v,.int .i64 i] w fun e w'=>e=.returned (.int .i64 R)/\Below w.heap.size w w':=by
 have hg:=h.out;obtain⟨nv,ev,cv,rfl,hnl,hns,he,hc⟩:=h.out;have hB:=al1 w (.cells #[.string (bb g.nm),.bool g.dir,nv,ev,cv] 26);have HC:=Lh (hc.keep hB);obtain⟨ao,cap,rfl,hc',hm,_⟩:=id HC.out;unfold maxLen at hm;have hlm:g.cs.length<=9223372036854775807:=by omega
 clear hns he hc hnl hc' hm;obtain⟨A,rfl,q0,q1,q2,-⟩:=HC.out.get hi;obtain⟨Y,hY⟩:∃ Y,bb g.cs[i].1=Y:=⟨_,rfl⟩
 obtain⟨u,hu⟩:∃ u,g.cs[i].2=u:=⟨_,rfl⟩
 rw[hY] at q0;rw[hu] at q1;have hY2:Y.data.toList=g.cs[i].1:=by rw[<- hY]
 have hYs:Y.size<=maxLen:=by rw[<- yp,hY2];exact q2
 have i0:(0:Int)<=(i:Int):=by omega
 have i1:(i:Int)<(g.cs.length:Int):=by omega
 obtain⟨nm,hnm⟩:∃ b,yK g.cs[i].1=b:=⟨_,rfl⟩
 have HNM:Hid (yK Y.data.toList=nm):=Lh (by rw[hY2];exact hnm);have hfe:=hr.out;obtain⟨cv,hcv⟩:∃ cv:Value,Value.slice (some A) g.cs.length cap=cv:=⟨_,rfl⟩
 have HG0:=yx (ybh w (bb g.nm) g.dir nv ev cv 26) (al1 _ (.cells #[.string Y,.int .i64 u] 63));have HK0:=yq2 (w.alloc (.cells #[.string (bb g.nm),.bool g.dir,nv,ev,cv] 26)) Y u 63;have HB0:=ya (al1 (w.alloc (.cells #[.string (bb g.nm),.bool g.dir,nv,ev,cv] 26)) (.cells #[.string Y,.int .i64 u] 63)) (al1 w _);rw[show (w.alloc (.cells #[.string (bb g.nm),.bool g.dir,nv,ev,cv] 26)).heap.size=w.heap.size+1 by simp] at HK0;subst hcv;have HG:=Lh HG0;have HK:=Lh HK0;have HB:=Lh HB0;clear hY hr HG0 HK0 HB0;cases nm
 ·have e5:clusterE g (g.cs.take i) g.cs[i]=5:=by unfold clusterE;rw[if_pos hnm]
  rw[e5] at hfe;subst hfe;clear e5 hnm hu hY2;go_enter func79,ntmps79;go_wp2_with fail
  refine(ybk _ _ _ hYs HNM).mono ?_;rintro e w1 ⟨rfl,rfl⟩;go_wp2;go_ret;exact⟨rfl,HB.out⟩
 have HF:=Lh hfe;have HNN:=Lh hnm;have HU:=Lh hu;clear hfe hnm hB hu;go_enter func79,ntmps79;go_wp2_with fail
 refine(ybk _ _ _ hYs HNM).mono ?_;rintro e w1 ⟨rfl,rfl⟩;generalize ((w.alloc (.cells #[.string (bb g.nm),.bool g.dir,nv,ev,.slice (some A) g.cs.length cap] 26)).alloc (.cells #[.string Y,.int .i64 u] 63))=w1 at HG HK HB |-;go_wp2_with fail
 go_loopw [6] (fun kv wq=>∃ k:Nat,kv=.int .i64 k/\k<=i/\(g.cs.take k).any (fun q=>q.1==g.cs[i].1)=false/\Below w1.heap.size w1 wq) (fun kv _=>i-(intOf kv).toNat)
 case atStart=>exact⟨0,rfl,Nat.zero_le _,by simp,Below.refl _ _⟩
 case round =>
  obtain⟨k,rfl,hk,hany,hB2⟩:=hrel
  rename World=>wq
  have hBw:=ya hB2 HB.out;have HBw:=Lh hBw;have HGQ:=Lh (yx HG.out hB2);have HKQ:=Lh (ynV HK.out hB2);obtain⟨g0,g1,g2,g3,g4⟩:=HGQ.out;obtain⟨c0,c1⟩:=HKQ.out
  by_cases hki:k<i
  ·obtain⟨nv',ev',cv',e0,_,_,_,hcs⟩:=hg.keep hBw
   cases e0
   obtain⟨A1,e1,p0,-⟩:=hcs.get (k:=k) (by omega);cases e1
   obtain⟨X,hX⟩:∃ X,bb (g.cs[k]'(by omega)).1=X:=⟨_,rfl⟩
   rw[hX] at p0;have hX2:X.data.toList=(g.cs[k]'(by omega)).1:=by rw[<- hX]
   have k0:(0:Int)<=(k:Int):=by omega
   have k1:(k:Int)<(g.cs.length:Int):=by omega
   obtain⟨b,hb⟩:∃ b,(X.toList==Y.toList)=b:=⟨_,rfl⟩
   have hb2:((g.cs[k]'(by omega)).1==g.cs[i].1)=b:=by rw[<- hb,ByteArray.toList_eq,ByteArray.toList_eq,hX2,hY2]
   have HB2:=Lh hB2;clear hBw;cases b
   ·have HA:Hid ((g.cs.take (k+1)).any (fun q=>q.1==g.cs[i].1)=false):=Lh (by rw[yjn (by omega),hany,hb2];rfl)
    clear hX hX2 hb2 hany hB2;go_wp2_with fail
    go_quiet (fail)
    have HB3:=Lh (ya (yF wq nq) HB2.out);generalize wq.drewN nq=w3 at HB3 |-;go_wp2
    go_roundw
    case rel=>exact⟨k+1,by go_num,by omega,HA.out,HB3.out⟩
    case measure=>simp[intOf];omega
   ·have HA:Hid ((g.cs.take i).any (fun q=>q.1==g.cs[i].1)=true):=Lh (yjo (by omega) hki hb2)
    have e6:clusterE g (g.cs.take i) g.cs[i]=6:=by unfold clusterE;rw[if_neg (by rw[HNN.out];decide),if_pos HA.out]
    have hfe:=HF.out;rw[e6] at hfe;subst hfe;clear hX hX2 hb2 hany hB2 HF e6;go_wp2_with fail
    go_quiet (fail)
    have HB3:=Lh (ya (yF wq nq) HBw.out);generalize wq.drewN nq=w3 at HB3 |-;go_wp2;go_ret;exact⟨rfl,HB3.out⟩
  ·obtain rfl:k=i:=by omega
   obtain⟨F,hF⟩:∃ F,ykH g Y.data.toList=F:=⟨_,rfl⟩
   have HFI:=Lh hF;have hF2:=yhG (s:=g.cs[k].1) g.ns 0;have hF3:findG g.ns g.cs[k].1 0=F:=by rw[<- hY2];exact hF
   rw[hF3] at hF2;have HGK:=Lh (hg.keep hBw);have HANY:=Lh hany;clear hBw hF hF3 hany hB2;go_wp2_with fail
   refine(yjw _ g Y F wq HGK HFI).mono ?_;rintro e w4 ⟨rfl,hb4⟩;have HB4:=Lh (ya hb4 HBw.out);have g0:=ye hb4 g0;have g1:=ye hb4 g1;have g2:=ye hb4 g2;have g3:=ye hb4 g3;have g4:=ye hb4 g4;have c1:=ye hb4 c1;have HGK4:=Lh (hg.keep HB4.out);have hfe:=HF.out;unfold clusterE at hfe;rw[if_neg (by rw[HNN.out];decide),if_neg (by rw[HANY.out];decide)] at hfe;clear hb4
   by_cases f0:0<=F
   ·rw[if_pos (hF2.1 f0)] at hfe
    subst hfe;clear hF2 HF;go_wp2;go_ret;exact⟨rfl,HB4.out⟩
   rw[if_neg (fun e=>f0 (hF2.2 e)),HU.out,List.length_take,Nat.min_eq_left (by omega)] at hfe;clear hF2 HF
   by_cases u0:u < -1
   ·rw[if_pos (Or.inl u0)] at hfe
    subst hfe;go_wp2;go_ret;exact⟨rfl,HB4.out⟩
   by_cases u1:(k:Int)<=u
   ·rw[if_pos (Or.inr u1)] at hfe
    subst hfe;go_wp2;go_ret;exact⟨rfl,HB4.out⟩
   rw[if_neg (by omega)] at hfe;have HWN:=Lh (ygK hi hw.out (by rw[HU.out];omega) (by rw[HU.out];omega));rw[show g.cs.take k++[g.cs[k]]=g.cs.take (k+1) from (List.take_succ_eq_append_getElem hi).symm] at hfe;obtain⟨D,hD⟩:∃ D,dep (g.cs.take (k+1)) (k:Int)=D:=⟨_,rfl⟩
   have HD:=Lh hD;rw[hD] at hfe;clear hD;go_wp2_with fail
   refine(ylx _ g (k+1) (k:Int) D w4 HGK4 (by omega) HWN (by omega) (by omega) HD).mono ?_;rintro e w5 ⟨rfl,hb5⟩;have HB5:=Lh (ya hb5 HB4.out);clear hb5
   by_cases d6:6<D
   ·rw[if_pos d6] at hfe
    subst hfe;go_wp2;go_ret;exact⟨rfl,HB5.out⟩
   ·rw[if_neg d6] at hfe
    subst hfe;go_wp2;go_ret;exact⟨rfl,HB5.out⟩
theorem add_at (b o j:Nat):(⟨b,o,none⟩:Addr).add j=⟨b,o+j,none⟩:=by
 unfold Addr.add;split
 ·subst_vars;rfl
 ·rfl
def blk (W:World)(g:Nat)(t:TypeId)(arr:Array Value):Prop:=W.heap[g]?=some (.cells arr t (0,0))
theorem yd {W:World}{g o:Nat}{t:TypeId}{arr:Array Value}(h:blk W g t arr):W.cell? ⟨g,o,none⟩=arr[o]?:=by
 unfold blk at h;simp[World.cell?,h]
theorem yl (w:World)(c:Array Value)(t:TypeId):blk (w.alloc (.cells c t)) w.heap.size t c:=heap_alloc_new w _
theorem yel {X:Type}(f:X->List Value)(k:Nat)(hk:∀ x,(f x).length=k)(l:List X):(l.flatMap f).length=l.length*k:=by
 induction l with
 | nil=>simp
 | cons x t ih=>rw[List.flatMap_cons,List.length_append,ih,hk,List.length_cons,Nat.add_mul];omega
theorem yac {X:Type}(f:X->List Value)(k:Nat)(hk:∀ x,(f x).length=k):∀ (l:List X) (i j:Nat) (h:i<l.length),j<k->(l.flatMap f)[i*k+j]?=(f l[i])[j]?:=by
 intro l
 induction l with
 | nil=>intro i j h;simp at h
 | cons x t ih =>
  intro i j h hj;rw[List.flatMap_cons]
  cases i with
  | zero=>rw[Nat.zero_mul,Nat.zero_add,List.getElem?_append_left (by rw[hk];exact hj)];rfl
  | succ i =>
   rw[List.getElem?_append_right (by rw[hk,Nat.add_mul];omega),hk,show (i+1)*k+j-k=i*k+j by rw[Nat.add_mul];omega];exact ih i j (by simpa using h) hj
theorem yaE {w:World}{B s n:Nat}{t:TypeId}{v:Value}{xs:List Value}(h:w.ownsRow B t s v n xs)(hn:0<n):∃ g cap arr,v=.slice (some ⟨g,0,none⟩) n cap/\B<=g/\blk w g t arr/\n<=cap/\cap<=maxLen/\∀ j,j<n*s->arr[j]?=xs[j]?:=by
 rcases h.2 with ⟨_,rfl⟩ | ⟨g,cap,cur,rfl,hB,hk,h1,h2,h3,h4⟩
 ·omega
 ·refine⟨g,cap,cur,rfl,hB,hk,h1,h2,fun j hj=>?_⟩
  rw[<- h4,List.getElem?_take_of_lt hj,Array.getElem?_toList]
theorem yu {w:World}{B s n:Nat}{t:TypeId}{v:Value}{xs:List Value}(h:w.ownsRow B t s v n xs):∃ ao cap,v=.slice ao n cap/\n<=cap/\cap<=maxLen:=by
 rcases h.2 with ⟨rfl,rfl⟩ | ⟨g,cap,cur,rfl,_,_,h1,h2,_⟩
 ·exact⟨_,0,rfl,Nat.le_refl _,by decide⟩
 ·exact⟨_,cap,rfl,h1,h2⟩
theorem ygL (w:World)(B:Nat)(t:TypeId)(s:Nat):w.ownsRow B t s (.slice none 0 0) 0 []:=⟨by simp,.inl ⟨rfl,rfl⟩⟩
theorem ysO {α:Type}{c:Nat}{P:World->Addr->α->Prop}{f:α->List Value}(hf:∀ x,(f x).length=c){w:World}(hP:∀ (b o:Nat) (x:α),(∀ j,j<c->w.cell? ⟨b,o+j,none⟩=(f x)[j]?)->P w ⟨b,o,none⟩ x)
    {B:Nat} {t:TypeId} {v:Value} {l:List α} (h:w.ownsRow B t c v l.length (l.flatMap f)):Rw c P w v l:=by
 by_cases h0:l.length=0
 ·obtain⟨ao,cap,rfl,h1,h2⟩:=yu h
  exact⟨ao,cap,rfl,h1,h2,fun hn=>by omega⟩
 ·obtain⟨g,cap,arr,rfl,hB',hk,h1,h2,h3⟩:=yaE h (by omega)
  refine⟨_,cap,rfl,h1,h2,fun _=>⟨_,rfl,fun i hi=>?_⟩⟩;rw[add_at,Nat.zero_add];refine hP _ _ _ fun j hj=>?_
  have hlt:i*c+j<l.length*c:=by
   have:(i+1)*c<=l.length*c:=Nat.mul_le_mul_right c hi;rw[Nat.add_mul] at this;omega
  rw[yd hk,h3 _ hlt,yac f c hf l i j hi hj]
def inC (n:Int):List Value:=[.int .i64 n]
def Irow (w:World)(B:Nat)(v:Value)(l:List Int):Prop:=w.ownsRow B 3 1 v l.length (l.flatMap inC)
theorem Irow.ins {w:World}{B:Nat}{v:Value}{l:List Int}(h:Irow w B v l):Ins w v l :=
 ysO (f:=inC) (fun _=>rfl) (fun b o x hx=>by have:=hx 0 (by decide);exact this) h
theorem ynW:(Tryz.prog.info? 3).map (fun i=>(i.zero,i.size,i.bytes))=some (some (.int .i64 0),1,8):=by kernel_rfl
theorem yiP:∃ i,Tryz.prog.info? 3=some i/\i.zero=some (.int .i64 0)/\i.size=1/\i.bytes=8:=by
 have h:=ynW
 cases hq:Tryz.prog.info? 3 with
 | none=>rw[hq] at h;cases h
 | some i =>
  rw[hq] at h;simp only[Option.map_some,Option.some.injEq,Prod.mk.injEq] at h;exact⟨i,rfl,h.1,h.2.1,h.2.2⟩
theorem yqo {w:World}{ops:Array Oper}{rest:List Oper}{o:Oper}{a:Act}{Q:Exit->Act->World->Prop}(hg:o.guard=none)(p y:Operand)(ho:o.op=.call { callee:=.builtin .append,args:=#[p,y],argTypes:=#[53,53] })
    (B:Nat) (v:Value) (l:List Int) (x:Int) (H:Nat) (hH:w.heap.size=H) (hs:a.eval p=v) (hx:a.eval y=.slice (some ⟨H,0,none⟩) 1 1) (h:Hid (Irow w B v l)) (hl:l.length<=1000000) (hB:B<=w.heap.size)
    (hK:∀ ao cap w',Irow w' B (.slice ao (l.length+1) cap) (l++[x])->w.grownBy w' v.ownBlock->wpList Tryz.prog ops Q rest (a.put o.dst (.slice ao (l.length+1) cap)) w'):wpList Tryz.prog ops Q (o::rest) a (w.alloc (.cells #[.int .i64 x] 3)):=by
 subst hH;obtain⟨i0,hi,hz0,hz1,hz2⟩:=yiP;refine wpList_append_own _ hg p y 53 ho B 3 i0 _ 1 8 underlying53 hi hz0 hz1 hz2 rfl (by decide) v l.length _ hs (World.ownsRow.alloc h.out _) ⟨w.heap.size,0,none⟩ 1 1 [.int .i64 x] hx rfl ?_ (by simp[Value.oneCell']) (by unfold maxLen;omega) (by omega) (by simp;omega) ?_
 ·intro j u hj
  rw[add_at,Nat.zero_add,yd (yl w #[.int .i64 x] 3),<- hj];simp
 ·intro v' w' hown hgrow _
  obtain⟨ao,cap,rfl,_,_⟩:=yu hown;refine hK ao cap w' ?_ ?_
  ·unfold Irow;rw[List.length_append,List.flatMap_append];exact hown
  ·refine⟨hgrow.os,hgrow.tape,hgrow.output,Nat.le_trans (by simp) hgrow.size,fun k hk hne=>?_⟩
   rw[hgrow.block k (by simp;omega) hne,heap_alloc_old w _ hk]
def nat6 (w:World)(b:Nat)(x y:ByteArray)(p q r:Int)(pv:Value):Prop:=w.cell? ⟨b,0,none⟩=some (.string x)/\w.cell? ⟨b,1,none⟩=some (.string y)/\w.cell? ⟨b,2,none⟩=some (.int .i64 p)/\w.cell? ⟨b,3,none⟩=some (.int .i64 q)/\w.cell? ⟨b,4,none⟩=some (.int .i64 r)/\w.cell? ⟨b,5,none⟩=some pv
theorem yoY (w:World)(x y:ByteArray)(p q r:Int)(pv:Value)(t:TypeId):nat6 (w.alloc (.cells #[.string x,.string y,.int .i64 p,.int .i64 q,.int .i64 r,pv] t)) w.heap.size x y p q r pv:=by
 refine⟨?_,?_,?_,?_,?_,?_⟩ <;> go_simp
theorem yoZ (v:Value)(g:Gr)(i:Nat)(R:Int)(w:World)(h:Hid (GrV w v g))(hi:i<g.ns.length)(hr:Hid (nodeE g (g.ns.take i) g.ns[i]=R)) :
    Calls Tryz.prog 78 #[v,.int .i64 i] w fun e w'=>e=.returned (.int .i64 R)/\Below w.heap.size w w':=by
 have hg:=h.out;obtain⟨nv,ev,cv,rfl,hnl,hns,he,hc⟩:=h.out;have hB:=al1 w (.cells #[.string (bb g.nm),.bool g.dir,nv,ev,cv] 26);have HN:=Lh (hns.keep hB);obtain⟨ao,cap,rfl,hc',hm,_⟩:=id HN.out;obtain⟨co,cc,rfl,-,-,-⟩:=hc;unfold maxLen at hm;have hlm:g.ns.length<=9223372036854775807:=by omega
 clear hns he hnl hc' hm;have hget:=HN.out.get hi;obtain⟨x,hx⟩:∃ x,g.ns[i]=x:=⟨_,rfl⟩
 have hxi:g.ns[i]?=some x:=by rw[List.getElem?_eq_getElem hi,hx]
 rw[hx] at hget hr;obtain⟨A,rfl,q0,q1,q2,q3,q4,⟨pv,q5,hps⟩,z0,z1,-⟩:=hget;obtain⟨xn,xl,xw,xh,xc,xp⟩:=x;simp only at q0 q1 q2 q3 q4 hps z0 z1;obtain⟨po,pc,rfl,-,-,-⟩:=id hps;obtain⟨Y,hY⟩:∃ Y,bb xn=Y:=⟨_,rfl⟩
 obtain⟨Z,hZ⟩:∃ Z,bb xl=Z:=⟨_,rfl⟩
 rw[hY] at q0;rw[hZ] at q1;have hY2:Y.data.toList=xn:=by rw[<- hY]
 have hZ2:Z.data.toList=xl:=by rw[<- hZ]
 have hYs:Y.size<=maxLen:=by rw[<- yp,hY2];exact z0
 have hZs:Z.size<=maxLen:=by rw[<- yp,hZ2];exact z1
 have HZ2:=Lh hZ2;have hZl:xl.length=Z.size:=by rw[<- hZ2,yp]
 have i0:(0:Int)<=(i:Int):=by omega
 have i1:(i:Int)<(g.ns.length:Int):=by omega
 obtain⟨nm,hnm⟩:∃ b,yK xn=b:=⟨_,rfl⟩
 have HNM:Hid (yK Y.data.toList=nm):=Lh (by rw[hY2];exact hnm);have hfe:=hr.out;unfold nodeE at hfe;simp only at hfe;rw[hnm] at hfe;obtain⟨gv,hgv⟩:∃ gv:Value,Value.slice (some A) g.ns.length cap=gv:=⟨_,rfl⟩
 have HG0:=yx (ybh w (bb g.nm) g.dir gv ev (.slice co g.cs.length cc) 26) (al1 _ (.cells #[.string Y,.string Z,.int .i64 xw,.int .i64 xh,.int .i64 xc,.slice po xp.length pc] 59));have HK0:=yoY (w.alloc (.cells #[.string (bb g.nm),.bool g.dir,gv,ev,.slice co g.cs.length cc] 26)) Y Z xw xh xc (.slice po xp.length pc) 59;have HB0:=ya (al1 (w.alloc (.cells #[.string (bb g.nm),.bool g.dir,gv,ev,.slice co g.cs.length cc] 26)) (.cells #[.string Y,.string Z,.int .i64 xw,.int .i64 xh,.int .i64 xc,.slice po xp.length pc] 59)) (al1 w _);have HP0:=hps.keep (by rw[hgv];exact al1 (w.alloc (.cells #[.string (bb g.nm),.bool g.dir,gv,ev,.slice co g.cs.length cc] 26)) (.cells #[.string Y,.string Z,.int .i64 xw,.int .i64 xh,.int .i64 xc,.slice po xp.length pc] 59));rw[show (w.alloc (.cells #[.string (bb g.nm),.bool g.dir,gv,ev,.slice co g.cs.length cc] 26)).heap.size=w.heap.size+1 by simp] at HK0;subst hgv;have HG:=Lh HG0;have HK:=Lh HK0;have HB:=Lh HB0;have HP:=Lh HP0;clear hY hZ hr HG0 HK0 HB0 HP0 hps hB hZ2;cases nm
 ·rw[if_pos rfl] at hfe
  subst hfe;clear hnm hY2;go_enter func78,ntmps78;go_wp2_with fail
  refine(ybk _ _ _ hYs HNM).mono ?_;rintro e w1 ⟨rfl,rfl⟩;go_wp2;go_ret;exact⟨rfl,HB.out⟩
 rw[if_neg (by decide)] at hfe;obtain⟨F,hF⟩:∃ F,ykH g Y.data.toList=F:=⟨_,rfl⟩
 have HFI:=Lh hF;have hdup:=yeP (s:=xn) 0 hxi rfl;have hF3:findG g.ns xn 0=F:=by rw[<- hY2];exact hF
 rw[hF3,Nat.zero_add] at hdup;have HD:=Lh hdup;have HF:=Lh hfe;clear hfe hnm hdup hF hF3 hY2 hx hxi;go_enter func78,ntmps78;go_wp2_with fail
 refine(ybk _ _ _ hYs HNM).mono ?_;rintro e w1 ⟨rfl,rfl⟩;generalize ((w.alloc (.cells #[.string (bb g.nm),.bool g.dir,.slice (some A) g.ns.length cap,ev,.slice co g.cs.length cc] 26)).alloc (.cells #[.string Y,.string Z,.int .i64 xw,.int .i64 xh,.int .i64 xc,.slice po xp.length pc] 59))=w1 at HG HK HB HP |-;have HGR1:=Lh (hg.keep HB.out);obtain⟨g0,g1,g2,g3,g4⟩:=HG.out;obtain⟨c0,c1,c2,c3,c4,c5⟩:=HK.out;go_wp2_with fail
 refine(yjw _ g Y F w1 HGR1 HFI).mono ?_;rintro e w4 ⟨rfl,hb4⟩;have HB4:=Lh (ya hb4 HB.out);have HP4:=Lh (HP.out.keep hb4);have g4:=ye hb4 g4;have c1:=ye hb4 c1;have c2:=ye hb4 c2;have c3:=ye hb4 c3;have c4:=ye hb4 c4;have c5:=ye hb4 c5;clear hb4 c0 g0 g1 g2 g3 HGR1 HG HK HP;have hfe:=HF.out;clear HF
 by_cases f0:F=(i:Int)
 case neg =>
  have b0:(F != (i:Int))=true:=by rw[bne_iff_ne];exact f0
  have ha:(g.ns.take i).any (fun y=>y.nm==xn)=true:=by
   cases hq:(g.ns.take i).any (fun y=>y.nm==xn)
   ·exact absurd (HD.out.2 hq) f0
   ·rfl
  rw[if_pos ha] at hfe;subst hfe;clear ha f0 HD;go_wp2;go_ret;exact⟨rfl,HB4.out⟩
 have b0:(F != (i:Int))=false:=by rw[f0];simp
 rw[if_neg (by rw[HD.out.1 f0];decide)] at hfe;clear HD f0;rw[hZl] at hfe
 by_cases l0:32<Z.size
 ·rw[if_pos l0] at hfe
  subst hfe;have l1:(32:Int)<(Z.size:Int):=by omega
  clear l0;go_wp2;go_ret;exact⟨rfl,HB4.out⟩
 rw[if_neg l0] at hfe;have l1:¬ (32:Int)<(Z.size:Int):=by omega
 clear l0;obtain⟨pb,hpb⟩:∃ b,plainB Z.data.toList=b:=⟨_,rfl⟩
 have HPB:=Lh hpb;have HZE:Hid (plainB xl=pb):=Lh (by rw[<- hpb];congr 1;rw[<- HZ2.out]);rw[HZE.out] at hfe;clear hpb;cases pb
 ·rw[if_pos rfl] at hfe
  subst hfe;go_wp2_with fail
  refine(yeY _ _ _ hZs HPB).mono ?_;rintro e w5 ⟨rfl,rfl⟩;go_wp2;go_ret;exact⟨rfl,HB4.out⟩
 rw[if_neg (by decide)] at hfe;go_wp2_with fail
 refine(yeY _ _ _ hZs HPB).mono ?_;rintro e w5 ⟨rfl,rfl⟩
 by_cases r0:xw<1
 ·rw[if_pos (Or.inl r0)] at hfe
  subst hfe;go_wp2;go_ret;exact⟨rfl,HB4.out⟩
 by_cases r1:1048576<xw
 ·rw[if_pos (Or.inr (Or.inl r1))] at hfe
  subst hfe;go_wp2;go_ret;exact⟨rfl,HB4.out⟩
 by_cases r2:xh<1
 ·rw[if_pos (Or.inr (Or.inr (Or.inl r2)))] at hfe
  subst hfe;go_wp2;go_ret;exact⟨rfl,HB4.out⟩
 by_cases r3:1048576<xh
 ·rw[if_pos (Or.inr (Or.inr (Or.inr (Or.inl r3))))] at hfe
  subst hfe;go_wp2;go_ret;exact⟨rfl,HB4.out⟩
 by_cases r4:xc < -1
 ·rw[if_pos (Or.inr (Or.inr (Or.inr (Or.inr (Or.inl r4)))))] at hfe
  subst hfe;go_wp2;go_ret;exact⟨rfl,HB4.out⟩
 by_cases r5:(g.cs.length:Int)<=xc
 ·rw[if_pos (Or.inr (Or.inr (Or.inr (Or.inr (Or.inr r5)))))] at hfe
  subst hfe;go_wp2;go_ret;exact⟨rfl,HB4.out⟩
 rw[if_neg (by omega)] at hfe
 by_cases p8:8<xp.length
 ·rw[if_pos p8] at hfe
  subst hfe;have p9:(8:Int)<(xp.length:Int):=by omega
  clear p8;go_wp2;go_ret;exact⟨rfl,HB4.out⟩
 rw[if_neg p8] at hfe;have p9:¬ (8:Int)<(xp.length:Int):=by omega
 have HFE:=Lh hfe;clear p8 hfe;go_wp2_with fail
 refine(ylw _ xp R w4 HP4 HFE).mono ?_;rintro e w6 ⟨rfl,hb6⟩;have HB6:=Lh (ya hb6 HB4.out);clear hb6;go_wp2;go_ret;exact⟨rfl,HB6.out⟩
end Go.Proofs.YtgmidodmmlmmeaaGreatDoor.gra
