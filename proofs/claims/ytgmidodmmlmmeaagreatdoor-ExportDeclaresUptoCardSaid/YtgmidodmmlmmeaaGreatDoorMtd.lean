/-
  Contracts and plain facts of the layers below; conditions as each theorem states them.
-/
import Derived.Test.YtgmidodmmlmmeaaGreatDoorMtc
set_option maxHeartbeats 8000000
set_option maxRecDepth 100000
namespace Go.Proofs.YtgmidodmmlmmeaaGreatDoor.tre
open Go.RowKit lex
end Go.Proofs.YtgmidodmmlmmeaaGreatDoor.tre
namespace Go.Proofs.YtgmidodmmlmmeaaGreatDoor.tre
open Go.RowKit lex _root_.Go.Proofs.Tryz
inductive Sa where
 | mk (s:St) (A:Addr) (bv:Value) (kids:List Sa)
def Sa.s:Sa->St | .mk s _ _ _=>s
def Sa.A:Sa->Addr | .mk _ A _ _=>A
def Sa.bv:Sa->Value | .mk _ _ v _=>v
def Sa.kids:Sa->List Sa | .mk _ _ _ k=>k
mutual
def ytw:Sa->Int->List (Sa × Int)
 | .mk s A bv ks,lv=>(.mk s A bv ks,lv)::ya0 ks (if s.kind=5 then lv+1 else lv)
def ya0:List Sa->Int->List (Sa × Int)
 | [],_=>[]
 | x::t,lv=>ytw x lv++ya0 t lv
end
mutual
def okX:Sa->Prop
 | .mk s _ bv ks=>ks.map Sa.s=s.body/\∃ ao cap,bv=.slice ao ks.length cap/\(0<ks.length->∃ B,ao=some B/\ytx ks B 0)
def ytx:List Sa->Addr->Nat->Prop
 | [],_,_=>True
 | x::t,B,i=>x.A=B.add (i*5)/\okX x/\ytx t B (i+1)
end
def SlX (v:Value)(ks:List Sa):Prop:=∃ ao cap,v=.slice ao ks.length cap/\(0<ks.length->∃ B,ao=some B/\ytx ks B 0)
theorem yko (x:Sa):okX x↔x.kids.map Sa.s=x.s.body/\SlX x.bv x.kids:=by cases x;rfl
theorem yhm {B:Addr}:∀ {l:List Sa} {i:Nat},ytx l B i->∀ j (h:j<l.length),l[j].A=B.add ((i+j)*5)/\okX l[j]:=by
 intro l
 induction l with
 | nil=>intro i _ j h;simp at h
 | cons s t ih =>
  intro i h j hj
  cases j with
  | zero=>exact⟨h.1,h.2.1⟩
  | succ j =>
   have:=ih h.2.2 j (by simpa using hj);rw[show i+1+j=i+(j+1) by omega] at this;exact this
theorem ysb {B:Addr}:∀ {l:List Sa} {i:Nat},(∀ j (h:j<l.length),l[j].A=B.add ((i+j)*5)/\okX l[j])->ytx l B i:=by
 intro l
 induction l with
 | nil=>intro i _;trivial
 | cons s t ih =>
  intro i h;refine⟨(h 0 (by simp)).1,(h 0 (by simp)).2,ih fun j hj=>?_⟩;have:=h (j+1) (by simpa using hj);rw[show i+(j+1)=i+1+j by omega] at this;exact this
theorem ymX {P:Sa->Prop}{Q:List Sa->Prop}(hS:∀ s A bv ks,Q ks->P (.mk s A bv ks))(h0:Q [])(h1:∀ s t,P s->Q t->Q (s::t)):(∀ s,P s)/\∀ l,Q l :=
 ⟨fun s=>Sa.rec (motive_1:=P) (motive_2:=Q) (fun s A bv ks hb=>hS s A bv ks hb) h0 (fun s t hs ht=>h1 s t hs ht) s,
  fun l=>Sa.rec_1 (motive_1:=P) (motive_2:=Q) (fun s A bv ks hb=>hS s A bv ks hb) h0 (fun s t hs ht=>h1 s t hs ht) l⟩
theorem yty {P:List Sa->Prop}(h:∀ l,(∀ x∈l,P x.kids)->P l)(l:List Sa):P l :=
 h l ((ymX (P:=fun x=>P x.kids) (Q:=fun l=>∀ x∈l,P x.kids) (fun _ _ _ ks hb=>h ks hb) (fun _ hx=>by cases hx) (fun s t hs ht x hx=>by
  rcases List.mem_cons.1 hx with rfl | hx
  ·exact hs
  ·exact ht x hx)).2 l)
theorem ymY (lv:Int):ya0 [] lv=[]:=rfl
theorem yca (x:Sa)(t:List Sa)(lv:Int):ya0 (x::t) lv=ytw x lv++ya0 t lv:=rfl
theorem yi5 (x:Sa)(lv:Int):ytw x lv=(x,lv)::ya0 x.kids (if x.s.kind=5 then lv+1 else lv):=by cases x;rfl
theorem yiq (a b:List Sa)(lv:Int):ya0 (a++b) lv=ya0 a lv++ya0 b lv:=by
 induction a with
 | nil=>rfl
 | cons s t ih=>rw[List.cons_append,yca,yca,ih,List.append_assoc]
theorem ymZ:(∀ x:Sa,okX x->∀ lv,(ytw x lv).map (fun x=>(x.1.s,x.2))=ykD x.s lv)/\∀ l:List Sa,(∀ x∈l,okX x)->∀ lv,(ya0 l lv).map (fun x=>(x.1.s,x.2))=ybt (l.map Sa.s) lv:=by
 refine ymX (fun s A bv ks hb h lv=>?_) (fun _ _=>rfl) (fun s t hs ht h lv=>?_)
 ·obtain⟨h1,ao,cap,rfl,h2⟩:=h
  rw[yi5,y6,List.map_cons]
  have hk:∀ x∈ks,okX x:=by
   intro x hx;obtain⟨i,hi,rfl⟩:=List.mem_iff_getElem.1 hx;obtain⟨B,rfl,h3⟩:=h2 (by omega);exact(yhm h3 i hi).2
  show (s,lv)::List.map (fun x=>(x.1.s,x.2)) (ya0 ks (if s.kind=5 then lv+1 else lv))=(s,lv)::ybt s.body (if s.kind=5 then lv+1 else lv)
  rw[hb hk,h1]
 ·rw[yca,List.map_append,hs (h s (by simp)),ht (fun x hx=>h x (by simp[hx]))]
  rfl
theorem SlX.ok {v:Value}{l:List Sa}(h:SlX v l):∀ x∈l,okX x:=by
 obtain⟨ao,cap,rfl,h2⟩:=h;intro x hx;obtain⟨i,hi,rfl⟩:=List.mem_iff_getElem.1 hx;obtain⟨B,rfl,h3⟩:=h2 (by omega);exact(yhm h3 i hi).2
theorem SlX.pre {v:Value}{l:List Sa}(h:SlX v l)(lv:Int):(ya0 l lv).map (fun x=>(x.1.s,x.2))=ybt (l.map Sa.s) lv:=ymZ.2 l h.ok lv
theorem SlX.len {v:Value}{l:List Sa}(h:SlX v l)(lv:Int):(ya0 l lv).length=cnt (l.map Sa.s):=by
 have:=congrArg List.length (h.pre lv);rw[List.length_map] at this;rw[this];exact yc5.2 _ _ _
def ycw {X σ:Type}(f:X->σ->σ × Bool):List X->σ->σ × Bool
 | [],s=>(s,true)
 | x::t,s=>if (f x s).2=true then ycw f t (f x s).1 else f x s
theorem yew {X σ:Type}(f:X->σ->σ × Bool)(a b:List X)(s:σ):ycw f (a++b) s=if (ycw f a s).2=true then ycw f b (ycw f a s).1 else ycw f a s:=by
 induction a generalizing s with
 | nil=>rfl
 | cons x t ih =>
  rw[List.cons_append]
  show (if (f x s).2=true then ycw f (t++b) (f x s).1 else f x s)=_
  rw[show ycw f (x::t) s=if (f x s).2=true then ycw f t (f x s).1 else f x s from rfl]
  by_cases h:(f x s).2=true
  ·rw[if_pos h,if_pos h,ih]
  ·rw[if_neg h,if_neg h,if_neg h]
theorem ym0 {X σ:Type}{f:X->σ->σ × Bool}{a t:List X}{x:X}{s s' s1:σ}(h:ycw f a s=(s',true))(hx:f x s'=(s1,false)):ycw f (a++(x::t)) s=(s1,false):=by
 rw[yew,h,if_pos rfl]
 show (if (f x s').2=true then ycw f t (f x s').1 else f x s')=_
 rw[hx,if_neg Bool.false_ne_true]
theorem ykp {X σ:Type}{f:X->σ->σ × Bool}{a t:List X}{x:X}{s s' s1 s2:σ}{c:Bool}(h:ycw f a s=(s',true))(hx:f x s'=(s1,true))(ht:ycw f t s1=(s2,c)):ycw f (a++(x::t)) s=(s2,c):=by
 rw[yew,h,if_pos rfl]
 show (if (f x s').2=true then ycw f t (f x s').1 else f x s')=_
 rw[hx,if_pos rfl,ht]
def skel (w:World)(x:Sa):Prop:=w.cell? x.A=some (.int .i64 x.s.kind)/\w.cell? ⟨x.A.block,x.A.off+4,none⟩=some x.bv
structure Visit (σ:Type) where
 f:Sa × Int->σ->σ × Bool
 I:σ->World->Prop
 In:Sa->Prop
 g:Nat
 lb:Array Value
 /-- So many more statements may come. -/
 Bd:σ->Nat->Prop
structure Visit.Ok {σ:Type}(V:Visit σ):Prop where
 eg:∀ args w,(callFunc V.g args).run Tryz.prog w=.ok (.enter V.g args) w
 kids:∀ x,V.In x->∀ y∈x.kids,V.In y
 skel:∀ s w,V.I s w->∀ x,V.In x->skel w x
 mono:∀ s m n,m<=n->V.Bd s n->V.Bd s m
 less:∀ x l s n,V.In x->V.Bd s (n+1)->V.Bd (V.f (x,l) s).1 n
 run:∀ (x:Sa) (l:Int) (s:σ) (W:World),V.In x->0<=l->l<=4000000000000->V.Bd s 1->V.I s W->Calls Tryz.prog V.g (#[.pointer (some x.A),.int .i64 l]++V.lb) W fun e w'=>e=.returned (.bool (V.f (x,l) s).2)/\V.I (V.f (x,l) s).1 w'
theorem ytz {σ:Type}{V:Visit σ}(HV:V.Ok)(m:Nat):∀ (l:List (Sa × Int)) (s:σ),(∀ x∈l,V.In x.1)->V.Bd s (l.length+m)->(ycw V.f l s).2=true->V.Bd (ycw V.f l s).1 m:=by
 intro l
 induction l with
 | nil=>intro s _ h _;exact HV.mono _ _ _ (by simp) h
 | cons x t ih =>
  intro s hin h h2;have e:ycw V.f (x::t) s=if (V.f x s).2=true then ycw V.f t (V.f x s).1 else V.f x s:=rfl
  rw[e] at h2 |-
  by_cases q:(V.f x s).2=true
  ·rw[if_pos q] at h2 |-
   exact ih _ (fun y hy=>hin y (by simp[hy])) (HV.less x.1 x.2 s _ (hin x (by simp)) (by rw[List.length_cons] at h;rw[show t.length+m+1=t.length+1+m by omega];exact h)) h2
  ·rw[if_neg q] at h2;exact absurd h2 q
theorem ypz {P:Sa->Prop}(hP:∀ x,P x->∀ y∈x.kids,P y):(∀ x,P x->∀ lv,∀ y∈ytw x lv,P y.1)/\∀ l,(∀ x∈l,P x)->∀ lv,∀ y∈ya0 l lv,P y.1:=by
 refine ymX (fun s A bv ks hb h lv y hy=>?_) (fun _ _ y hy=>(by cases hy)) (fun s t hs ht h lv y hy=>?_)
 ·rw[yi5] at hy
  rcases List.mem_cons.1 hy with rfl | hy
  ·exact h
  ·exact hb (hP _ h) _ y hy
 ·rw[yca] at hy
  rcases List.mem_append.1 hy with hy | hy
  ·exact hs (h s (by simp)) lv y hy
  ·exact ht (fun x hx=>h x (by simp[hx])) lv y hy
def WalkAt {σ:Type}(V:Visit σ)(g:Nat)(lb:Array Value)(L:List Sa):Prop:=∀ (v:Value) (lv:Int) (s:σ) (w:World) (R:σ) (b:Bool),Hid (SlX v L)->Hid (∀ x∈L,V.In x)->0<=lv->lv+cnt (L.map Sa.s)<=4000000000000->cnt (L.map Sa.s)<=2000000000000->Hid (V.Bd s (cnt (L.map Sa.s)))->Hid (V.I s w)->Hid (ycw V.f (ya0 L lv) s=(R,b)) ->
 Calls Tryz.prog 74 #[v,.int .i64 lv,.func (.func g) #[] lb] w fun e w'=>e=.returned (.bool b)/\V.I R w'
theorem WalkAt.use {σ:Type}{V:Visit σ}{g:Nat}{lb:Array Value}{L:List Sa}(h:Hid (WalkAt V g lb L)){v:Value}{lv:Int}{s:σ}{w:World}{R:σ}{b:Bool}(h1:Hid (SlX v L))(h2:Hid (∀ x∈L,V.In x))(h3:0<=lv)(h4:lv+cnt (L.map Sa.s)<=4000000000000)(h5:cnt (L.map Sa.s)<=2000000000000)(hbd:Hid (V.Bd s (cnt (L.map Sa.s))))(h6:Hid (V.I s w))(h7:Hid (ycw V.f (ya0 L lv) s=(R,b))) :
    Calls Tryz.prog 74 #[v,.int .i64 lv,.func (.func g) #[] lb] w fun e w'=>e=.returned (.bool b)/\V.I R w':=h.out v lv s w R b h1 h2 h3 h4 h5 hbd h6 h7
def ym1 {σ:Type}(V:Visit σ)(L:List Sa):Prop:=WalkAt V V.g V.lb L
theorem yci (l:List St):l.length<=cnt l:=by
 induction l with
 | nil=>simp
 | cons s t ih=>rw[yaI,List.length_cons];omega
theorem ym2 {l:List Sa}{k:Nat}(h:k<l.length)(hx:l[k].kids.map Sa.s=l[k].s.body):cnt ((l.take k).map Sa.s)+1+cnt (l[k].kids.map Sa.s)<=cnt (l.map Sa.s)/\l.take (k+1)=l.take k++[l[k]]:=by
 have h2:k<(l.map Sa.s).length:=by rw[List.length_map];exact h
 have:=yer h2;have e:l.take (k+1)=l.take k++[l[k]]:=by rw[List.take_add_one,List.getElem?_eq_getElem h];rfl
 refine⟨?_,e⟩;rw[hx,List.map_take];have e2:(l.map Sa.s)[k].body=l[k].s.body:=by rw[List.getElem_map]
 rw[e2] at this;exact this.1
theorem ym3 {σ:Type}(V:Visit σ)(HV:V.Ok)(L:List Sa)(ih:∀ x∈L,ym1 V x.kids):ym1 V L:=by
 intro v lv s w R b HS HIn h0 h1 h2 HBD HI HR;obtain⟨ao,cap,rfl,_⟩:=id HS.out;have IH:=Lh ih;have eg:=HV.eg;have hlm:L.length<=2000000000000:=by have:=yci (L.map Sa.s);rw[List.length_map] at this;omega
 clear ih;obtain⟨g,hg⟩:∃ g,V.g=g:=⟨_,rfl⟩
 obtain⟨lb,hlb⟩:∃ lb,V.lb=lb:=⟨_,rfl⟩
 have hrun:=HV.run;rw[hg] at eg hrun |-;rw[hlb] at hrun |-;have HRUN:=Lh hrun;clear hrun;go_enter func74,ntmps74;go_wp2_with fail
 go_loopw [12] (fun iv wr=>∃ (k:Nat) (s':σ),iv=.int .i64 k/\k<=L.length/\V.Bd s' (cnt ((L.drop k).map Sa.s))/\V.I s' wr/\ycw V.f (ya0 (L.take k) lv) s=(s',true)) (fun iv _=>L.length-(intOf iv).toNat)
 case atStart=>exact⟨0,s,rfl,Nat.zero_le _,HBD.out,HI.out,rfl⟩
 case round =>
  obtain⟨k,s',rfl,hk,hbd,hI,hrl⟩:=hrel
  rename World=>wr
  have HIr:=Lh hI;have HRL:=Lh hrl;have HBk:=Lh hbd;clear hI hrl hbd HBD
  by_cases hlt:k<L.length
  ·have hx:=List.getElem_mem hlt
   have hok:=HS.out.ok _ hx;obtain⟨_,_,e,hA⟩:=HS.out;cases e
   obtain⟨B,rfl,hXL⟩:=hA (by omega);obtain⟨hAd,_⟩:=yhm hXL k hlt;rw[Nat.zero_add] at hAd;obtain⟨hct,htk⟩:=ym2 hlt ((yko _).1 hok).1
   have HPL:Hid (ya0 (L.take (k+1)) lv=ya0 (L.take k) lv++((L[k],lv)::ya0 L[k].kids (if L[k].s.kind=5 then lv+1 else lv))):=Lh (by
    rw[htk,yiq,yca,ymY,List.append_nil,yi5])
   have HPA:Hid (ya0 L lv=ya0 (L.take (k+1)) lv++ya0 (L.drop (k+1)) lv):=Lh (by rw[<- yiq,List.take_append_drop]);have hIn:=HIn.out _ hx
   have hdr:cnt ((L.drop k).map Sa.s)=cnt (L[k].kids.map Sa.s)+cnt ((L.drop (k+1)).map Sa.s)+1:=by
    rw[List.drop_eq_getElem_cons hlt,List.map_cons,yaI,((yko _).1 hok).1];omega
   have hbk:=HBk.out;rw[hdr] at hbk;have hk0:=HV.skel _ _ HIr.out _ hIn;have hw:WalkAt V g lb L[k].kids:=by rw[<- hg,<- hlb];exact IH.out _ hx
   have hkid:=HV.kids _ hIn;have hsl:=((yko _).1 hok).2;obtain⟨x,hxe⟩:∃ x,L[k]=x:=⟨_,rfl⟩
   rw[hxe] at hAd hct HPL hIn hk0 hw hkid hsl hbk;have HW:=Lh hw;have HKID:=Lh hkid;have HSL:=Lh hsl;have HIN:=Lh hIn;clear hx hok hA hXL hw hkid hsl hIn hxe htk IH HIn HS HI hdr HBk;have hb1:=HV.mono s' 1 _ (by omega) hbk;have hbl:=HV.less x lv s' _ HIN.out hbk;have hkin:=(ypz HV.kids).2 x.kids HKID.out;have hplen:=HSL.out.len;obtain⟨k0,k4⟩:=hk0;rw[hAd] at k0 k4;have z0:(0:Int)<=(k:Int):=by omega
   have z1:(k:Int)<(L.length:Int):=by omega
   obtain⟨p,hp⟩:∃ p,V.f (x,lv) s'=p:=⟨_,rfl⟩
   obtain⟨s1,b1⟩:=p;have hc:=HRUN.out x lv s' wr HIN.out h0 (by omega) hb1 HIr.out;rw[hp,hAd] at hc;rw[hp] at hbl;simp only at hbl;have HC:=Lh hc;have HP:=Lh hp;have HAD:=Lh hAd;clear hc hp hAd;obtain⟨lw,hlw⟩:∃ q:Int,(if x.s.kind=5 then lv+1 else lv)=q:=⟨_,rfl⟩
   rw[hlw] at HPL;have hl0:0<=lw:=by rw[<- hlw];split <;> omega
   have hl1:lw+cnt (x.kids.map Sa.s)<=4000000000000:=by rw[<- hlw];split <;> omega
   have hcb:cnt (x.kids.map Sa.s)<=2000000000000:=by omega
   have hway:((x.s.kind==5)=true/\lw=lv+1)\/((x.s.kind==5)=false/\lv=lw):=by
    by_cases h5:x.s.kind=5
    ·rw[if_pos h5] at hlw;exact Or.inl ⟨by rw[beq_iff_eq];exact h5,hlw.symm⟩
    ·rw[if_neg h5] at hlw;exact Or.inr ⟨by rw[beq_eq_false_iff_ne];exact h5,hlw⟩
   obtain⟨q,hq⟩:∃ q,ycw V.f (ya0 x.kids lw) s1=q:=⟨_,rfl⟩
   obtain⟨s2,c⟩:=q;have HQ:=Lh hq;have HBK:Hid (V.Bd s1 (cnt (x.kids.map Sa.s))):=Lh (HV.mono _ _ _ (by omega) hbl)
   have HBN:Hid (c=true->V.Bd s2 (cnt ((L.drop (k+1)).map Sa.s))):=Lh (fun hc2=>by
    have:=ytz HV (cnt ((L.drop (k+1)).map Sa.s)) (ya0 x.kids lw) s1 (hkin lw) (by rw[hplen];exact hbl) (by rw[hq];exact hc2);rw[hq] at this
    exact this)
   clear hlw hq hct hbk hb1 hbl hkin hplen;cases b1
   ·have hfin:Hid (R=s1/\b=false):=Lh (by
      have:=HR.out;rw[HPA.out,HPL.out,yew,ym0 HRL.out HP.out,if_neg Bool.false_ne_true] at this
      exact⟨(Prod.mk.inj this).1.symm,(Prod.mk.inj this).2.symm⟩)
    rcases hway with ⟨b5,rfl⟩ | ⟨b5,rfl⟩
    all_goals
     go_wp2_with fail
     refine HC.out.mono ?_;rintro e w1 ⟨rfl,hI1⟩;clear b5 hl0 hl1 z0 z1 k0 k4;go_wp2_with fail
     go_ret;obtain⟨rfl,rfl⟩:=hfin.out;exact⟨rfl,hI1⟩
   ·cases c
    ·have hfin:Hid (R=s2/\b=false):=Lh (by
       have:=HR.out;rw[HPA.out,HPL.out,yew,ykp HRL.out HP.out HQ.out,if_neg Bool.false_ne_true] at this
       exact⟨(Prod.mk.inj this).1.symm,(Prod.mk.inj this).2.symm⟩)
     rcases hway with ⟨b5,rfl⟩ | ⟨b5,rfl⟩
     all_goals
      go_wp2_with fail
      refine HC.out.mono ?_;rintro e w1 ⟨rfl,hI1⟩;have hs1:=HV.skel _ _ hI1 _ HIN.out;have HI1:=Lh hI1;clear hI1 k0 k4 b5;obtain⟨j0,j4⟩:=hs1;rw[HAD.out] at j0 j4;go_wp2_with fail
      with_reducible refine(WalkAt.use HW HSL HKID hl0 hl1 hcb HBK HI1 HQ).mono ?_
      rintro e w2 ⟨rfl,hI2⟩;clear j0 j4 hl0 hl1;go_wp2_with fail
      go_ret;obtain⟨rfl,rfl⟩:=hfin.out;exact⟨rfl,hI2⟩
    ·rcases hway with ⟨b5,rfl⟩ | ⟨b5,rfl⟩
     all_goals
      go_wp2_with fail
      refine HC.out.mono ?_;rintro e w1 ⟨rfl,hI1⟩;have hs1:=HV.skel _ _ hI1 _ HIN.out;have HI1:=Lh hI1;clear hI1 k0 k4 b5;obtain⟨j0,j4⟩:=hs1;rw[HAD.out] at j0 j4;go_wp2_with fail
      with_reducible refine(WalkAt.use HW HSL HKID hl0 hl1 hcb HBK HI1 HQ).mono ?_
      rintro e w2 ⟨rfl,hI2⟩;clear j0 j4 hl0 hl1;go_wp2_with fail
      go_roundw
      case rel=>exact⟨k+1,s2,by go_num,by omega,HBN.out trivial,hI2,by rw[HPL.out];exact ykp HRL.out HP.out HQ.out⟩
      case measure=>simp[intOf];omega
  ·obtain rfl:k=L.length:=by omega
   have HL:Hid (L.take L.length=L):=Lh (List.take_length)
   have hfin:Hid (R=s'/\b=true):=Lh (by
    have:=HR.out;rw[<- HL.out,HRL.out] at this
    exact⟨(Prod.mk.inj this).1.symm,(Prod.mk.inj this).2.symm⟩)
   go_wp2;go_ret;obtain⟨rfl,rfl⟩:=hfin.out;exact⟨rfl,HIr.out⟩
theorem ym4 {σ:Type}(V:Visit σ)(HV:V.Ok)(L:List Sa):ym1 V L:=yty (ym3 V HV) L
end Go.Proofs.YtgmidodmmlmmeaaGreatDoor.tre
namespace Go.Proofs.YtgmidodmmlmmeaaGreatDoor.tre
open Go.RowKit lex
mutual
def ypA (w:World):Sa->Prop
 | .mk s A bv ks=>yhM w s A/\w.cell? ⟨A.block,A.off+4,none⟩=some bv/\yir w ks
def yir (w:World):List Sa->Prop
 | []=>True
 | x::t=>ypA w x/\yir w t
end
theorem yhn (w:World)(x:Sa):ypA w x↔yhM w x.s x.A/\w.cell? ⟨x.A.block,x.A.off+4,none⟩=some x.bv/\yir w x.kids:=by cases x;rfl
theorem ydH (w:World)(l:List Sa):yir w l ↔ ∀ x∈l,ypA w x:=by
 induction l with
 | nil=>exact⟨fun _ x hx=>(by cases hx),fun _=>trivial⟩
 | cons x t ih =>
  constructor
  ·rintro⟨h1,h2⟩ y hy
   rcases List.mem_cons.1 hy with rfl | hy
   ·exact h1
   ·exact ih.1 h2 y hy
  ·intro h;exact⟨h x (by simp),ih.2 fun y hy=>h y (by simp[hy])⟩
theorem yis {w:World}{x:Sa}(h:ypA w x):∀ y∈x.kids,ypA w y:=(ydH w _).1 ((yhn w x).1 h).2.2
theorem yit {w W:World}(hb:Below w.heap.size w W){x:Sa}(h:ypA w x):skel W x:=by
 obtain⟨h1,h2,_⟩:=(yhn w x).1 h;exact⟨yb hb ((yap _ _ _).1 h1).1,yb hb h2⟩
theorem ysc {w W:World}(hb:Below w.heap.size w W){x:Sa}(h:ypA w x):yhM W x.s x.A:=(yeZ hb).1 _ _ ((yhn w x).1 h).1
theorem yqG (l:List St):∀ (w:World) (v:Value),Sts w v l->∃ L:List Sa,L.map Sa.s=l/\SlX v L/\yir w L:=by
 refine ydR (P:=fun l=>∀ (w:World) (v:Value),Sts w v l->∃ L:List Sa,L.map Sa.s=l/\SlX v L/\yir w L) (fun l ih w v h=>?_) l
 by_cases h0:l.length=0
 ·obtain rfl:l=[]:=List.length_eq_zero_iff.1 h0
  obtain⟨ao,cap,rfl,_⟩:=h;exact⟨[],rfl,⟨ao,cap,rfl,fun h=>absurd h (by simp)⟩,trivial⟩
 ·obtain⟨ao,cap,rfl,_,_,hA⟩:=h
  obtain⟨B,rfl,hB⟩:=hA (by omega)
  have key:∀ i,i<l.length->∃ x:Sa,∀ hi:i<l.length,x.s=l[i]/\x.A=B.add (i*5)/\okX x/\ypA w x:=by
   intro i hi;have h1:=ycG hB i hi;rw[Nat.zero_add] at h1;obtain⟨_,_,_,_,_,bv,h4,hs⟩:=(yap _ _ _).1 h1;obtain⟨ks,e1,e2,e3⟩:=ih l[i] (List.getElem_mem hi) w bv hs;exact⟨.mk l[i] (B.add (i*5)) bv ks,fun _=>⟨rfl,rfl,(yko _).2 ⟨e1,e2⟩,(yhn _ _).2 ⟨h1,h4,e3⟩⟩⟩
  haveI:Inhabited Sa:=⟨.mk (.mk 0 [] [] [] []) ⟨0,0,none⟩ (.bool false) []⟩
  obtain⟨f,hf⟩:=Deep.choose_lt key;have hlen:((List.range l.length).map f).length=l.length:=by simp
  refine⟨(List.range l.length).map f,?_,⟨some B,cap,by rw[hlen],fun _=>⟨B,rfl,ysb fun j hj=>?_⟩⟩,(ydH _ _).2 fun x hx=>?_⟩
  ·refine List.ext_getElem (by simp) fun i h1 h2=>?_
   have:=(hf i h2 h2).1
   simpa using this
  ·rw[hlen] at hj
   have:=hf j hj hj;rw[Nat.zero_add]
   simpa using ⟨this.2.1,this.2.2.1⟩
  ·obtain⟨i,hi,rfl⟩:=List.mem_map.1 hx
   rw[List.mem_range] at hi;exact(hf i hi hi).2.2.2
theorem ypB {X Y σ:Type}(F:Y->σ->σ × Bool)(g:X->Y)(l:List X)(s:σ):ycw (fun x=>F (g x)) l s=ycw F (l.map g) s:=by
 induction l generalizing s with
 | nil=>rfl
 | cons x t ih =>
  rw[List.map_cons]
  show (if (F (g x) s).2=true then ycw (fun x=>F (g x)) t (F (g x) s).1 else F (g x) s)=(if (F (g x) s).2=true then ycw F (t.map g) (F (g x) s).1 else F (g x) s)
  by_cases h:(F (g x) s).2=true
  ·rw[if_pos h,if_pos h,ih]
  ·rw[if_neg h,if_neg h]
theorem yiu {X σ:Type}(f:X->σ->σ × Bool)(x:X)(t:List X)(s:σ):ycw f (x::t) s=if (f x s).2=true then ycw f t (f x s).1 else f x s:=rfl
theorem yk2 {n:Int}(h0:0<=n)(h1:n<=4000000000000):wrap64 (n+1)=n+1:=by unfold wrap64;omega
theorem ym5 {X:Type}(l:List X)(n:Int)(h0:0<=n)(h1:n<=512):(ycw (fun _ (n:Int)=>(wrap64 (n+1),decide (wrap64 (n+1)<=512))) l n).2=decide (n+l.length<=512):=by
 induction l generalizing n with
 | nil=>rw[show (ycw (fun _ (n:Int)=>(wrap64 (n+1),decide (wrap64 (n+1)<=512))) ([]:List X) n).2=true from rfl,List.length_nil];symm;rw[decide_eq_true_eq];omega
 | cons x t ih =>
  rw[yiu,yk2 h0 (by omega),List.length_cons]
  by_cases h:n+1<=512
  ·rw[if_pos (by rw[decide_eq_true_eq];exact h),ih (n+1) (by omega) h,Bool.eq_iff_iff,decide_eq_true_eq,decide_eq_true_eq];omega
  ·rw[if_neg (by rw[decide_eq_true_eq];exact h)]
   show decide (n+1<=512)=_
   rw[Bool.eq_iff_iff,decide_eq_true_eq,decide_eq_true_eq];omega
theorem ym6 (l:List (St × Int)):(ycw (fun x (_:Int)=>(ybs x.1 x.2,decide (ybs x.1 x.2=0))) l 0).1=firstE l:=by
 induction l with
 | nil=>rfl
 | cons x t ih =>
  rw[yiu];unfold firstE
  by_cases h:ybs x.1 x.2=0
  ·rw[if_pos (by rw[decide_eq_true_eq];exact h),if_neg (by simpa using h),<- ih]
   show (ycw _ t (ybs x.1 x.2)).1=_
   rw[h]
  ·rw[if_neg (by rw[decide_eq_true_eq];exact h),if_pos (by simpa using h)]
end Go.Proofs.YtgmidodmmlmmeaaGreatDoor.tre
namespace Go.Proofs.YtgmidodmmlmmeaaGreatDoor.tre
open Go.RowKit lex _root_.Go.Proofs.Tryz
def bx (W:World)(c:Nat)(v:Value):Prop:=W.cell? ⟨c,0,none⟩=some v/\W.frozen? ⟨c,0,none⟩=false
theorem yqH {W:World}{c:Nat}{v u:Value}(h:bx W c v):bx (W.setCell ⟨c,0,none⟩ u) c u:=by
 obtain⟨h0,h1⟩:=h;refine⟨?_,?_⟩ <;> go_simp
theorem ym7 (w:World)(v:Value)(t:TypeId):bx (w.alloc (.cells #[v] t)) w.heap.size v:=by
 refine⟨?_,?_⟩ <;> go_simp
theorem yi6 {w1 w2:World}{c:Nat}{v:Value}(h:bx w1 c v)(hb:Below w1.heap.size w1 w2):bx w2 c v:=⟨ye hb h.1,yqX hb h.1 h.2⟩
def VInt (W0:World)(c:Nat)(g:Nat)(more:Array Value)(f:Sa × Int->Int->Int × Bool):Visit Int where
 f:=f
 I:=fun n W=>Below W0.heap.size W0 W/\bx W c (.int .i64 n)
 In:=ypA W0
 g:=g
 lb:=#[.pointer (some ⟨c,0,none⟩)]++more
 Bd:=fun _ _=>True
theorem ysd (L:List Sa)(l:List St)(v:Value)(h:L.map Sa.s=l)(hS:SlX v L):((ya0 L 0).length:Int)=cnt l:=by rw[hS.len 0,h]
def limX (_:Sa × Int)(n:Int):Int × Bool:=(wrap64 (n+1),decide (wrap64 (n+1)<=512))
theorem yse (W0:World)(c b:Nat)(hc:W0.heap.size<=c)(hL:W0.cell? ⟨b,0,none⟩=some (.int .i64 512)):(VInt W0 c 137 #[.pointer (some ⟨b,0,none⟩)] limX).Ok where
 eg:=enters_of func137 (by kernel_rfl) rfl
 kids:=fun _ h=>yis h
 skel:=fun _ _ h _ hx=>yit h.1 hx
 mono:=fun _ _ _ _ _=>trivial
 less:=fun _ _ _ _ _ _=>trivial
 run:=by
  intro x l n W hx h0 h1 _ hI;obtain⟨hB,hb⟩:=hI;have HB:=Lh hB;have HX:=Lh hb;have l0:=ye hB hL
  have hbc:b≠c:=by
   have:=World.block_lt_of_cell? W0 _ hL
   change b<W0.heap.size at this
   omega
  obtain⟨q,hq⟩:∃ q,wrap64 (n+1)=q:=⟨_,rfl⟩
  show Calls Tryz.prog 137 #[.pointer (some x.A),.int .i64 l,.pointer (some ⟨c,0,none⟩),.pointer (some ⟨b,0,none⟩)] W fun e w'=>e=.returned (.bool (decide (wrap64 (n+1)<=512)))/\Below W0.heap.size W0 w'/\bx w' c (.int .i64 (wrap64 (n+1)))
  rw[hq];obtain⟨c0,c1⟩:=hb;obtain⟨z,hz⟩:∃ z,decide (q<=512)=z:=⟨_,rfl⟩
  have HZ:=Lh hz;rw[hz];clear hx hB hL;cases z
  all_goals
   clear HZ;go_enter func137,ntmps137;go_wp2;go_ret;exact⟨rfl,HB.out.setCell hc _,yqH HX.out⟩
theorem ysf (W0:World)(c b:Nat)(hc:W0.heap.size<=c)(hL:W0.cell? ⟨b,0,none⟩=some (.int .i64 512))(L:List Sa)(l:List St)(v:Value)(w:World)(r:Bool)(hl:Hid (L.map Sa.s=l))(hS:Hid (SlX v L))(hM:Hid (yir W0 L))(hn:cnt l<=2000000000000)(hB:Hid (Below W0.heap.size W0 w))(hb:Hid (bx w c (.int .i64 0)))(hr:Hid (decide (512<cnt l)=r)) :
    Calls Tryz.prog 74 #[v,.int .i64 0,.func (.func 137) #[] #[.pointer (some ⟨c,0,none⟩),.pointer (some ⟨b,0,none⟩)]] w fun e w'=>e=.returned (.bool (!r))/\Below W0.heap.size W0 w':=by
 have h2:=ym5 (ya0 L 0) 0 (Int.le_refl _) (by omega);obtain⟨q,hq⟩:∃ q,ycw limX (ya0 L 0) 0=q:=⟨_,rfl⟩
 obtain⟨R,b2⟩:=q
 have hb2:b2=!r:=by
  have e:(ycw limX (ya0 L 0) 0).2=b2:=by rw[hq]
  rw[<- e];refine h2.trans ?_;rw[ysd L l v hl.out hS.out,<- hr.out,Bool.eq_iff_iff];simp;omega
 subst hb2;refine(ym4 _ (yse W0 c b hc hL) L v 0 0 w R (!r) hS (Lh ((ydH _ _).1 hM.out)) (Int.le_refl _) (by rw[hl.out];omega) (by rw[hl.out];exact hn) (Lh trivial) (Lh ⟨hB.out,hb.out⟩) (Lh hq)).mono ?_;rintro e w' ⟨he,hI⟩;exact⟨he,hI.1⟩
theorem ysg (v:Value)(T:Tr)(r:Bool)(w:World)(h:Hid (TrV w v T))(hn:cnt T.body<=2000000000000)(hr:Hid (decide (512<cnt T.body)=r)) :
    Calls Tryz.prog 73 #[.int .i64 512,v] w fun e w'=>e=.returned (.bool r)/\Below w.heap.size w w':=by
 obtain⟨bv,rfl,_,hs⟩:=h.out;clear h;obtain⟨X,hX⟩:∃ X,bb T.name=X:=⟨_,rfl⟩
 obtain⟨d,hd⟩:∃ d,T.dir=d:=⟨_,rfl⟩
 rw[hX,hd];have hB1:=al1 w (.cells #[.int .i64 512] 3);have HZ1:Hid ((w.alloc (.cells #[.int .i64 512] 3)).heap.size=w.heap.size+1):=Lh (by simp);have hl0:=(ym7 w (.int .i64 512) 3);have hB2:=al1 (w.alloc (.cells #[.int .i64 512] 3)) (.cells #[.string X,.bool d,bv] 33);have hB:=ya hB2 hB1;have HZ:Hid (((w.alloc (.cells #[.int .i64 512] 3)).alloc (.cells #[.string X,.bool d,bv] 33)).heap.size=w.heap.size+1+1):=Lh (by simp);have h3:=yha (w.alloc (.cells #[.int .i64 512] 3)) X d bv 33;rw[HZ1.out] at h3;have hl1:=(yi6 hl0 hB2).1;have hs0:=hs.keep hB;obtain⟨L,e1,e2,e3⟩:=yqG _ _ _ hs0;have HB1:=al1 ((w.alloc (.cells #[.int .i64 512] 3)).alloc (.cells #[.string X,.bool d,bv] 33)) (.cells #[.int .i64 0] 3);have hbx:=ym7 ((w.alloc (.cells #[.int .i64 512] 3)).alloc (.cells #[.string X,.bool d,bv] 33)) (.int .i64 0) 3;rw[HZ.out] at hbx;have C:=Lh (ysf _ (w.heap.size+1+1) w.heap.size (by rw[HZ.out];exact Nat.le_refl _) hl1 L T.body bv _ r (Lh e1) (Lh e2) (Lh e3) hn (Lh HB1) (Lh hbx) hr);obtain⟨c0,c1,c2⟩:=h3;have hB0:=Lh hB;clear hX hd hs hs0 e1 e2 e3 hbx HB1 hB hB1 hB2 hl0 hl1 hr HZ1;go_enter func73,ntmps73;go_wp2_with fail
 refine C.out.mono ?_;rintro e w2 ⟨rfl,hb2⟩;go_wp2;go_ret;exact⟨yaf (by simp),ya hb2 hB0.out⟩
end Go.Proofs.YtgmidodmmlmmeaaGreatDoor.tre
namespace Go.Proofs.YtgmidodmmlmmeaaGreatDoor.tre
open Go.RowKit Go.Shelf lex _root_.Go.Proofs.Tryz
theorem fld01 (s:St):ydL s=0\/ydL s=1:=by
 unfold ydL
 repeat' split
 all_goals simp
theorem ypC {s:St}(h:ydL s=0):1<=s.kind/\s.kind<=5:=by
 by_cases hk:s.kind<1\/5<s.kind
 ·unfold ydL at h;rw[if_pos hk] at h;exact absurd h (by decide)
 ·omega
theorem ysh (s:St)(lv:Int):ybs s lv=if decide (ydL s=0)=false then 1 else if s.kind=5/\6<=lv then 2 else if yip s=false then 5 else yjh s:=by
 unfold ybs
 rcases fld01 s with h | h
 ·rw[h,if_neg (show ¬ ((0:Int)≠0) from fun e=>e rfl),if_neg (show ¬ (decide ((0:Int)=0)=false) by decide)]
  obtain⟨k1,k5⟩:=ypC h
  by_cases h2:s.kind=5/\6<=lv
  ·rw[if_pos h2,if_pos h2]
  ·rw[if_neg h2,if_neg h2]
   unfold yip
   by_cases h3:s.kind=1\/s.kind=4\/s.kind=5
   ·rw[if_pos h3]
    cases hn:yK s.name
    ·rw[if_pos ⟨by omega,by omega,rfl⟩,if_pos (by simp)]
    ·rw[if_neg (by simp),Bool.true_and]
   ·rw[if_neg h3,if_neg (by omega),Bool.true_and]
 ·rw[h,if_pos (show (1:Int)≠0 by decide),if_pos (show decide ((1:Int)=0)=false by decide)]
theorem ypD (s:St)(A:Addr)(lv:Int)(R:Int)(w:World)(h:Hid (yhM w s A))(hR:Hid (ybs s lv=R)) :
    Calls Tryz.prog 76 #[.pointer (some A),.int .i64 lv] w fun e w'=>e=.returned (.int .i64 R)/\Below w.heap.size w w':=by
 have hr:=hR.out;rw[ysh] at hr;obtain⟨c0,_⟩:=(yap _ _ _).1 h.out;obtain⟨b1,hb1⟩:∃ q,decide (ydL s=0)=q:=⟨_,rfl⟩
 obtain⟨b3,hb3⟩:∃ q,yip s=q:=⟨_,rfl⟩
 obtain⟨E,hE⟩:∃ q,yjh s=q:=⟨_,rfl⟩
 have H1:=Lh hb1;have H3:=Lh hb3;have HE:=Lh hE;obtain⟨k,hk⟩:∃ q,s.kind=q:=⟨_,rfl⟩
 rw[hb1,hb3,hE,hk] at hr;rw[hk] at c0;clear hb1 hb3 hE hk hR;cases b1
 case false =>
  rw[if_pos rfl] at hr;subst hr;go_enter func76,ntmps76;go_wp2_with fail
  refine(ydZ s A false w h H1).mono ?_;rintro e w' ⟨rfl,rfl⟩;go_wp2;go_ret;exact⟨rfl,Below.refl _ _⟩
 rw[if_neg (by simp)] at hr
 by_cases g2:k=5/\6<=lv
 case pos =>
  rw[if_pos g2] at hr;subst hr;obtain⟨rfl,l6⟩:=g2;have d6:decide (6<=lv)=true:=decide_eq_true l6;go_enter func76,ntmps76;go_wp2_with fail
  refine(ydZ s A true w h H1).mono ?_;rintro e w' ⟨rfl,rfl⟩;go_wp2;go_ret;exact⟨rfl,Below.refl _ _⟩
 rw[if_neg g2] at hr;have HR:=Lh hr
 have hway:(k==5)=false\/(k=5/\decide (6<=lv)=false/\¬ 6<=lv):=by
  by_cases k5:k=5
  ·exact Or.inr ⟨k5,decide_eq_false (fun q=>g2 ⟨k5,q⟩),fun q=>g2 ⟨k5,q⟩⟩
  ·exact Or.inl (by rw[beq_eq_false_iff_ne];exact k5)
 clear hr g2
 rcases hway with k5 | ⟨rfl,d6,l6⟩
 all_goals
  cases b3
  ·have HN:Hid ((5:Int)=R):=Lh (by have:=HR.out;rw[if_pos rfl] at this;exact this)
   obtain rfl:=HN.out;go_enter func76,ntmps76;go_wp2_with fail
   refine(ydZ s A true w h H1).mono ?_;rintro e w' ⟨rfl,rfl⟩;go_wp2_with fail
   refine(ykn s A false w h H3).mono ?_;rintro e w2 ⟨rfl,hb2⟩;go_wp2;go_ret;exact⟨rfl,hb2⟩
  ·have HN:Hid (E=R):=Lh (by have:=HR.out;rw[if_neg (by simp)] at this;exact this)
   obtain rfl:=HN.out;go_enter func76,ntmps76;go_wp2_with fail
   refine(ydZ s A true w h H1).mono ?_;rintro e w' ⟨rfl,rfl⟩;go_wp2_with fail
   refine(ykn s A true w h H3).mono ?_;rintro e w2 ⟨rfl,hb2⟩;go_wp2_with fail
   refine(ytv s A E w2 (Lh ((yeZ hb2).1 _ _ h.out)) HE).mono ?_;rintro e w3 ⟨rfl,hb3⟩;go_wp2;go_ret;exact⟨rfl,ya hb3 hb2⟩
def errX (x:Sa × Int)(_:Int):Int × Bool:=(ybs x.1.s x.2,decide (ybs x.1.s x.2=0))
theorem ysi (W0:World)(c:Nat)(hc:W0.heap.size<=c):(VInt W0 c 75 #[] errX).Ok where
 eg:=enters_of func75 (by kernel_rfl) rfl
 kids:=fun _ h=>yis h
 skel:=fun _ _ h _ hx=>yit h.1 hx
 mono:=fun _ _ _ _ _=>trivial
 less:=fun _ _ _ _ _ _=>trivial
 run:=by
  intro x l n W hx h0 h1 _ hI;obtain⟨hB,hb⟩:=hI;have HB:=Lh hB;have HX:=Lh hb;have HS:=Lh (ysc hB hx)
  show Calls Tryz.prog 75 #[.pointer (some x.A),.int .i64 l,.pointer (some ⟨c,0,none⟩)] W fun e w'=>e=.returned (.bool (decide (ybs x.s l=0)))/\Below W0.heap.size W0 w'/\bx w' c (.int .i64 (ybs x.s l))
  obtain⟨E,hE⟩:∃ q,ybs x.s l=q:=⟨_,rfl⟩
  have HE:=Lh hE;rw[hE];have hz:(E==0)=decide (E=0):=by rw[Bool.eq_iff_iff,beq_iff_eq,decide_eq_true_eq]
  obtain⟨z,hz0⟩:∃ z,decide (E=0)=z:=⟨_,rfl⟩
  rw[hz0] at hz |-;clear hx hB hb hE hz0;go_enter func75,ntmps75;go_wp2_with fail
  refine(ypD x.s x.A l E W HS HE).mono ?_;rintro e w2 ⟨rfl,hb2⟩;have HX2:=Lh (yi6 HX.out hb2);obtain⟨g0,g1⟩:=HX2.out;have HB2:=Lh (ya hb2 HB.out);go_wp2;go_ret;exact⟨rfl,HB2.out.setCell hc _,yqH HX2.out⟩
theorem ysj (W0:World)(c:Nat)(hc:W0.heap.size<=c)(L:List Sa)(l:List St)(v:Value)(w:World)(R:Int)(hl:Hid (L.map Sa.s=l))(hS:Hid (SlX v L))(hM:Hid (yir W0 L))(hn:cnt l<=2000000000000)(hB:Hid (Below W0.heap.size W0 w))(hb:Hid (bx w c (.int .i64 0)))(hR:Hid (firstE (ybt l 0)=R)) :
    Calls Tryz.prog 74 #[v,.int .i64 0,.func (.func 75) #[] #[.pointer (some ⟨c,0,none⟩)]] w fun e w'=>(∃ b,e=.returned (.bool b))/\Below W0.heap.size W0 w'/\bx w' c (.int .i64 R):=by
 have h2:=(ypB (fun (y:St × Int) (_:Int)=>(ybs y.1 y.2,decide (ybs y.1 y.2=0))) (fun x:Sa × Int=>(x.1.s,x.2)) (ya0 L 0) 0);rw[hS.out.pre,hl.out] at h2;obtain⟨q,hq⟩:∃ q,ycw errX (ya0 L 0) 0=q:=⟨_,rfl⟩
 have h3:=ym6 (ybt l 0);rw[<- h2] at h3;have h4:q.1=R:=by rw[<- hR.out,<- h3,<- hq];rfl
 obtain⟨R',b⟩:=q;obtain rfl:R'=R:=h4;refine(ym4 _ (ysi W0 c hc) L v 0 0 w R' b hS (Lh ((ydH _ _).1 hM.out)) (Int.le_refl _) (by rw[hl.out];omega) (by rw[hl.out];exact hn) (Lh trivial) (Lh ⟨hB.out,hb.out⟩) (Lh hq)).mono ?_;rintro e w' ⟨he,hI⟩;exact⟨⟨b,he⟩,hI⟩
theorem yho (v:Value)(T:Tr)(R:Int)(w:World)(h:Hid (TrV w v T))(hn:cnt T.body<=2000000000000)(hR:Hid (yab T=R)) :
    Calls Tryz.prog 32 #[v] w fun e w'=>e=.returned (.int .i64 R)/\Below w.heap.size w w':=by
 obtain⟨bv,rfl,hnm,hs⟩:=h.out;have hr:=hR.out;unfold yab at hr;obtain⟨X,hX⟩:∃ X,bb T.name=X:=⟨_,rfl⟩
 have hXd:X.data.toList=T.name:=by rw[<- hX]
 have HZ:Hid (X.size<=maxLen):=Lh (by rw[<- yz,hXd];exact hnm);obtain⟨nm,hnv⟩:∃ q,yK T.name=q:=⟨_,rfl⟩
 obtain⟨mr,hmr⟩:∃ q,decide (512<cnt T.body)=q:=⟨_,rfl⟩
 have HMR:=Lh hmr;have HNM:Hid (yK X.data.toList=nm):=Lh (by rw[hXd];exact hnv);have hT:Hid (TrV w (.agg #[.string X,.bool T.dir,bv]) T):=Lh (by rw[<- hX];exact h.out);obtain⟨d,hd⟩:∃ d,T.dir=d:=⟨_,rfl⟩
 rw[hd] at hT;rw[hX,hd]
 have hr2:(if nm=false then (5:Int) else if mr=true then 2 else firstE (ybt T.body 0))=R:=by
  rw[<- hr,hnv,<- hmr]
  by_cases q:512<cnt T.body
  ·rw[if_pos q,if_pos (decide_eq_true q)]
  ·rw[if_neg q,if_neg (show ¬ (decide (512<cnt T.body)=true) by rw[decide_eq_true_eq];exact q)]
 have HR:=Lh hr2;have hB:=al1 w (.cells #[.string X,.bool d,bv] 33);have h3:=yha w X d bv 33;have HS:=Lh (hs.keep hB);have HT1:=Lh (hT.out.keep hB);have HB0:=Lh hB;obtain⟨c0,c1,c2⟩:=id h3;clear hR hr hr2 hX hXd hnv hmr hd hnm hs h hT hB;go_enter func32,ntmps32;go_wp2_with fail
 refine(yS _ _ _ HZ.out HNM).mono ?_;rintro e w2 ⟨rfl,hb2⟩;have hB2:=ya hb2 HB0.out;have h3:=yjR h3 hb2;clear c0 c1 c2;obtain⟨c0,c1,c2⟩:=id h3;have HS2:=Lh (HS.out.keep hb2);have HT2:=Lh (HT1.out.keep hb2);cases nm
 case false =>
  have HN:Hid ((5:Int)=R):=Lh (by have:=HR.out;rw[if_pos rfl] at this;exact this);obtain rfl:=HN.out;go_wp2;go_ret;exact⟨rfl,hB2⟩
 go_wp2_with fail
 refine(ysg _ T mr _ HT2 hn HMR).mono ?_;rintro e w3 ⟨rfl,hb3⟩;have hB3:=ya hb3 hB2;have h3:=yjR h3 hb3;clear c0 c1 c2;obtain⟨c0,c1,c2⟩:=id h3;have hs3:=HS2.out.keep hb3;cases mr
 case true =>
  have HN:Hid ((2:Int)=R):=Lh (by have:=HR.out;rw[if_neg (by simp),if_pos rfl] at this;exact this);obtain rfl:=HN.out;go_wp2;go_ret;exact⟨rfl,hB3⟩
 have HF:Hid (firstE (ybt T.body 0)=R):=Lh (by have:=HR.out;rw[if_neg (by simp),if_neg (by simp)] at this;exact this);obtain⟨L,e1,e2,e3⟩:=yqG _ _ _ hs3;have HB1:=al1 w3 (.cells #[.int .i64 0] 34);have hbx:=ym7 w3 (.int .i64 0) 34;have C:=Lh (ysj w3 w3.heap.size (Nat.le_refl _) L T.body bv _ R (Lh e1) (Lh e2) (Lh e3) hn (Lh HB1) (Lh hbx) HF);have hz3:=World.block_lt_of_cell? w3 _ c0
 change w.heap.size<w3.heap.size at hz3
 have hn3:w.heap.size≠w3.heap.size:=by omega
 clear hs3 e1 e2 e3 HB1 hbx;go_wp2_with fail
 refine C.out.mono ?_;rintro e w4 ⟨⟨bb4,rfl⟩,hb4,hx4⟩;obtain⟨g0,g1⟩:=hx4;go_wp2;go_ret;exact⟨rfl,ya hb4 hB3⟩
end Go.Proofs.YtgmidodmmlmmeaaGreatDoor.tre
