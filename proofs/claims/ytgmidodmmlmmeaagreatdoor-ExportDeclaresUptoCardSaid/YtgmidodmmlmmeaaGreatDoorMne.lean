/-
  Contracts and plain facts of the layers below; conditions as each theorem states them.
-/
import Derived.Test.YtgmidodmmlmmeaaGreatDoorMnd
namespace Go.Proofs.YtgmidodmmlmmeaaGreatDoor.nor
open lex tre att
theorem yfx {l:List UInt8}(h:yK l=true):l.length<=16:=by
 unfold yK at h;simp only[Bool.and_eq_true,decide_eq_true_eq] at h;omega
def NmS (s:Bs):Prop:=(∀ x∈s.ns,x.1.length<=16)/\∀ c∈s.ch,2<=c.1.length/\∀ r∈c.1,r.1.length<=16/\r.2.length<=16
theorem ynt {s:St}(h:okS s):(∀ r∈s.refs,r.1.length<=16/\r.2.length<=16)/\(s.kind=1->s.name.length<=16):=by
 obtain⟨⟨lv,h⟩,-⟩:=h;unfold ybs at h
 split at h
 ·rename_i hne;exact absurd h hne
 split at h
 ·exact absurd h (by decide)
 split at h
 ·exact absurd h (by decide)
 rename_i hn
 split at h
 ·exact absurd h (by decide)
 rename_i hr
 have hr':s.refs.all ydj=true:=by simpa using hr
 rw[List.all_eq_true] at hr';refine⟨fun r hm=>?_,fun hk=>?_⟩
 ·have:=hr' r hm
  unfold ydj at this;simp only[Bool.and_eq_true,Bool.or_eq_true] at this;refine⟨yfx this.1,?_⟩
  rcases this.2 with q | q
  ·rw[List.isEmpty_iff] at q;rw[q];exact Nat.zero_le _
  ·exact yfx q
 ·cases hq:yK s.name
  ·exact absurd ⟨by omega,by omega,hq⟩ hn
  ·exact yfx hq
theorem yp7 {s:St}(h:okS s)(h2:s.kind=2):2<=s.refs.length:=by
 obtain⟨⟨lv,h⟩,-⟩:=h;unfold ybs at h
 split at h
 ·rename_i hne;exact absurd h hne
 rename_i hf
 have hf0:ydL s=0:=by simpa using hf
 unfold ydL at hf0
 split at hf0
 ·exact absurd hf0 (by decide)
 split at hf0
 ·exact absurd hf0 (by decide)
 split at hf0
 ·exact absurd hf0 (by decide)
 rename_i q
 exact Nat.le_of_not_lt fun e=>q (Or.inr ⟨h2,by omega⟩)
theorem NmS.ment {s:Bs}(h:NmS s){n:Nm}(hn:n.length<=16)(p:Pl):NmS (yaS s n p):=by
 unfold yaS
 split
 ·refine⟨fun x hx=>?_,h.2⟩
  rcases List.mem_append.1 hx with q | q
  ·exact h.1 x q
  ·rw[List.mem_singleton] at q;subst q;exact hn
 ·exact h
theorem NmS.refs {p:Pl}:∀ (l:List Pr) (s:Bs),NmS s->(∀ r∈l,r.1.length<=16/\r.2.length<=16)->NmS (y8 l s p).1
 | [],_,h,_=>h
 | r::t,s,h,hr=>by
  unfold y8
  split
  ·exact h
  ·exact NmS.refs t _ (h.ment (hr r (List.mem_cons_self ..)).1 p) fun q hq=>hr q (List.mem_cons_of_mem _ hq)
theorem ysv:(∀ x:St,∀ (p:Pl) (s:Bs),okS x->okB x.body->NmS s->NmS (ydq x p s).1) /\
    ∀ l:List St,∀ (p:Pl) (s:Bs),okB l->NmS s->NmS (yhS l p s).1:=by
 refine ya2 (fun k n r a b hb p s ho hk hs=>?_) (fun p s _ hs=>?_) (fun x t hx ht p s ho hs=>?_)
 ·obtain⟨hr,hn⟩:=ynt ho
  have hr1:=yp7 ho;simp only[St.body,St.refs,St.name,St.kind] at hk hr hn hr1
  by_cases h1:k=1
  ·subst h1
   rw[yf3]
   split
   ·exact hs
   ·have:=hs.ment (hn rfl) p
    exact⟨this.1,this.2⟩
  by_cases h2:k=2
  ·subst h2
   rw[yf4];have:=NmS.refs (p:=p) r s hs hr
   split
   ·exact this
   ·refine⟨this.1,fun c hc=>?_⟩
    rcases List.mem_append.1 hc with q | q
    ·exact this.2 c q
    ·rw[List.mem_singleton] at q;subst q;exact⟨hr1 rfl,hr⟩
  by_cases h5:k=5
  ·subst h5
   rw[yf5]
   split
   ·exact hs
   ·exact hb _ _ hk ⟨hs.1,hs.2⟩
  ·rw[yf6 h1 h2 h5];exact hs
 ·rw[ycT];exact hs
 ·obtain⟨o1,o2,o3⟩:=ybN ho
  rw[yb5]
  split
  ·exact hs
  ·have q:=hx (dflt x.kind x.name x.attrs p) s o1 o2 hs
   split
   ·exact q
   ·exact ht _ _ o3 q
theorem yfy:∀ (l:List (List UInt8)) (out:List (List UInt8 × Int)),(out.length<=8/\∀ p∈out,p.1.length<=16)->((ybM l out).1.length<=8/\∀ p∈(ybM l out).1,p.1.length<=16)
 | [],_,h=>h
 | s::t,out,h=>by
  unfold ybM
  split
  ·exact⟨Nat.zero_le _,fun p hp=>by cases hp⟩
  rename_i h1
  split
  ·exact⟨Nat.zero_le _,fun p hp=>by cases hp⟩
  split
  ·exact⟨Nat.zero_le _,fun p hp=>by cases hp⟩
  rename_i h3
  refine yfy t _ ⟨by rw[List.length_append,List.length_singleton];omega,fun p hp=>?_⟩
  rcases List.mem_append.1 hp with q | q
  ·exact h.2 p q
  ·rw[List.mem_singleton] at q
   subst q
   show (ybB s).2.1.length<=16
   unfold ybB at h1 |-
   split
   ·exact Nat.zero_le _
   ·split
    ·exact Nat.zero_le _
    ·split
     ·exact Nat.zero_le _
     ·rename_i hn
      exact yfx (by simpa using hn)
theorem yfz (s:List UInt8):(yaQ s).1.length<=8/\∀ p∈(yaQ s).1,p.1.length<=16:=by
 unfold yaQ
 split
 ·exact⟨Nat.zero_le _,fun p hp=>by cases hp⟩
 ·exact yfy _ _ ⟨Nat.zero_le _,fun p hp=>by cases hp⟩
theorem yp8 {s:Bs}(h:NmS s):∀ x∈ylH s,x.nm.length<=16/\x.ps.length<=8/\∀ p∈x.ps,p.1.length<=16:=fun x hx=>by
 unfold ylH at hx;obtain⟨i,hi,e⟩:=List.getElem_of_mem hx;rw[List.getElem_zipWith] at e;subst e;rw[yqp];exact⟨h.1 _ (List.getElem_mem _),yfz _⟩
def Sml (n:Int):Prop:=-1<=n/\n<=60000000
def WfS (s:Bs):Prop:=(∀ x∈s.ns,Sml x.2)/\∀ x∈s.cs,x.1.length<=16/\Sml x.2
theorem WfS.ment {s:Bs}(h:WfS s)(n:Nm){p:Pl}(hp:Sml p.cl):WfS (yaS s n p):=by
 unfold yaS
 split
 ·refine⟨fun x hx=>?_,h.2⟩
  rcases List.mem_append.1 hx with q | q
  ·exact h.1 x q
  ·rw[List.mem_singleton] at q;subst q;exact hp
 ·exact h
theorem WfS.refs {p:Pl}(hp:Sml p.cl):∀ (l:List Pr) (s:Bs),WfS s->WfS (y8 l s p).1
 | [],_,h=>h
 | r::t,s,h=>by
  unfold y8
  split
  ·exact h
  ·exact WfS.refs hp t _ (h.ment _ hp)
theorem ysw {s:St}(h:okS s)(h5:s.kind=5):s.name.length<=16:=by
 obtain⟨⟨lv,h⟩,-⟩:=h;unfold ybs at h
 split at h
 ·rename_i hne;exact absurd h hne
 split at h
 ·exact absurd h (by decide)
 split at h
 ·exact absurd h (by decide)
 rename_i hn
 cases hq:yK s.name
 ·exact absurd ⟨by omega,by omega,hq⟩ hn
 ·exact yfx hq
theorem yde (k:Int)(n:Nm)(a:List Pr)(p:Pl):(dflt k n a p).cl=p.cl:=by
 unfold dflt
 repeat' split
 all_goals rfl
theorem ysx:(∀ x:St,∀ (p:Pl) (s:Bs),okS x->okB x.body->sz s+(2+x.refs.length+wl x.body)<=3000000->Sml p.cl->WfS s->WfS (ydq x p s).1) /\
    ∀ l:List St,∀ (p:Pl) (s:Bs),okB l->sz s+wl l<=3000000->Sml p.cl->WfS s->WfS (yhS l p s).1:=by
 refine ya2 (fun k n r a b hb p s ho hk hz hp hs=>?_) (fun p s _ _ _ hs=>?_) (fun x t hx ht p s ho hz hp hs=>?_)
 ·simp only[St.body] at hk hz
  by_cases h1:k=1
  ·subst h1
   rw[yf3]
   split
   ·exact hs
   ·have:=hs.ment n hp
    exact⟨this.1,this.2⟩
  by_cases h2:k=2
  ·subst h2
   rw[yf4];have:=WfS.refs hp r s hs
   split
   ·exact this
   ·exact⟨this.1,this.2⟩
  by_cases h5:k=5
  ·subst h5
   rw[yf5]
   split
   ·exact hs
   ·have hn:n.length<=16:=ysw ho rfl
    refine hb _ _ hk ?_ ?_ ⟨hs.1,fun x hx=>?_⟩
    ·unfold sz at hz |-
     simp only[List.length_append,List.length_singleton];omega
    ·unfold sz at hz
     unfold Sml;simp only;omega
    ·rcases List.mem_append.1 hx with q | q
     ·exact hs.2 x q
     ·rw[List.mem_singleton] at q;subst q;exact⟨hn,hp⟩
  ·rw[yf6 h1 h2 h5];exact hs
 ·rw[ycT];exact hs
 ·obtain⟨o1,o2,o3⟩:=ybN ho
  rw[ydd] at hz;rw[yb5];have hp':Sml (dflt x.kind x.name x.attrs p).cl:=by rw[yde];exact hp
  split
  ·exact hs
  ·have q:=hx (dflt x.kind x.name x.attrs p) s o1 o2 (by omega) hp' hs
   have q2:=ysU.1 x (dflt x.kind x.name x.attrs p) s o1 o2
   split
   ·exact q
   ·exact ht _ _ o3 (by omega) hp' q
theorem yfA {k:Int}(hk:k=1\/k=2){l:List Pr}(h:∀ a∈l,yaa k a=0):(yai l yE).1.length<=32:=by
 induction l with
 | nil=>exact Nat.zero_le _
 | cons a t ih =>
  rw[yae]
  split
  ·exact ih fun q hq=>h q (List.mem_cons_of_mem _ hq)
  ·split
   ·rename_i e
    have hc:=h a (List.mem_cons_self ..);unfold yaa at hc;rw[e] at hc;refine Nat.le_of_not_lt fun hl=>?_
    rcases hk with rfl | rfl
    ·rw[if_neg (by decide),if_neg (by decide),if_pos ⟨by decide,hl⟩] at hc
     exact absurd hc (by decide)
    ·rw[if_neg (by decide),if_neg (by decide),if_pos ⟨by decide,hl⟩] at hc
     exact absurd hc (by decide)
   ·exact Nat.zero_le _
theorem yhx {k:Int}{l:List Pr}{c:List UInt8}(h:(yo k c).form=2\/(yo k c).form=3):Sml (ycA k l c):=by
 obtain⟨h1,h2,-⟩:=ysL k l c h;exact⟨by omega,by omega⟩
theorem ynu (s:List UInt8):∀ (l:List (List UInt8)) (i:Int),yiL s l i=-1\/(i<=yiL s l i/\yiL s l i<i+l.length)
 | [],_=>Or.inl rfl
 | x::t,i=>by
  unfold yiL
  split
  ·right;simp only[List.length_cons];omega
  ·rcases ynu s t (i+1) with h | h
   ·exact Or.inl h
   ·right;simp only[List.length_cons];omega
theorem yp9 (s:List UInt8):Sml (ygG s):=by
 unfold ygG Sml
 rcases ynu s yeN 0 with h | h
 ·rw[h];decide
 ·have:yeN.length=4:=rfl
  omega
theorem ygv:∀ (l:List (List UInt8)) (out:List (List UInt8 × Int)),(∀ p∈out,Sml p.2)->∀ p∈(ybM l out).1,Sml p.2
 | [],_,h=>h
 | s::t,out,h=>by
  unfold ybM
  split
  ·exact fun p hp=>by cases hp
  split
  ·exact fun p hp=>by cases hp
  split
  ·exact fun p hp=>by cases hp
  refine ygv t _ fun p hp=>?_
  rcases List.mem_append.1 hp with q | q
  ·exact h p q
  ·rw[List.mem_singleton] at q
   subst q
   show Sml (ybB s).2.2
   unfold ybB
   split
   ·exact⟨by decide,by decide⟩
   ·split
    ·exact⟨by decide,by decide⟩
    ·split
     ·exact⟨by decide,by decide⟩
     ·exact yp9 _
theorem yk8 (s:List UInt8):∀ p∈(yaQ s).1,Sml p.2:=by
 unfold yaQ
 split
 ·exact fun p hp=>by cases hp
 ·exact ygv _ _ fun p hp=>by cases hp
def WfN (x:gra.Nd):Prop:=x.nm.length<=16/\x.lb.length<=32/\Sml x.w/\Sml x.h/\Sml x.cl/\∀ p∈x.ps,p.1.length<=16/\Sml p.2
theorem nd_wf {s:Bs}(h1:NmS s)(h2:WfS s)(h3:GaS s):∀ x∈ylH s,WfN x:=fun x hx=>by
 unfold ylH at hx;obtain⟨i,hi,e⟩:=List.getElem_of_mem hx;rw[List.length_zipWith] at hi;rw[List.getElem_zipWith] at e;subst e;have g1:=h1.1 _ (List.getElem_mem (show i<s.ns.length by omega));have g2:=h2.1 _ (List.getElem_mem (show i<s.ns.length by omega));have g3:=h3.1 _ (List.getElem_mem (show i<s.ats.length by omega));refine⟨g1,?_,yhx (k:=1) (l:=s.ats[i]) (c:=yao) (by left;decide),yhx (k:=1) (l:=s.ats[i]) (c:=yQ) (by left;decide),g2,?_⟩
 ·show (if (yai _ yE).2 then (yai _ yE).1 else _).length<=32
  split
  ·exact yfA (Or.inl rfl) g3.1
  ·omega
 ·rw[yqp]
  exact fun p hp=>⟨(yfz _).2 p hp,yk8 _ p hp⟩
def WfD (e:gra.Ed):Prop:=e.lb.length<=32/\Sml e.fr/\Sml e.to/\Sml e.fp/\Sml e.tp/\Sml e.wt/\Sml e.ln
end Go.Proofs.YtgmidodmmlmmeaaGreatDoor.nor
namespace Go.Proofs.YtgmidodmmlmmeaaGreatDoor.nor
open Go.RowKit lex tre att
def nfC (y:gra.Nd × Value):List Value:=[.string (bb y.1.nm),.string (bb y.1.lb),.int .i64 y.1.w,.int .i64 y.1.h,.int .i64 y.1.cl,y.2]
def edC (y:gra.Ed):List Value:=[.int .i64 y.fr,.int .i64 y.to,.int .i64 y.fp,.int .i64 y.tp,.string (bb y.lb),.int .i64 y.wt,.int .i64 y.ln]
abbrev Frow (W:World)(B:Nat)(v:Value)(l:List (gra.Nd × Value)):Prop:=W.ownsRow B 59 6 v l.length (l.flatMap nfC)
abbrev ysy (W:World)(B:Nat)(v:Value)(l:List gra.Ed):Prop:=W.ownsRow B 61 7 v l.length (l.flatMap edC)
theorem yhy {w w':World}{v:Value}{l:List att.Pt}(h:PosT w v l)(hf:∀ (k:Nat) (arr:Array Value) (fr:Nat × Nat),w.heap[k]?=some (.cells arr 192 fr)->w'.heap[k]?=w.heap[k]?):PosT w' v l:=by
 obtain⟨⟨ao,cap,rfl,hc,hm,hA⟩,hT⟩:=h;refine⟨⟨ao,cap,rfl,hc,hm,fun hn=>?_⟩,fun g hg=>?_⟩
 ·obtain⟨A,rfl,h2⟩:=hA hn
  obtain⟨arr,fr,hk⟩:=hT A.block rfl;have e:=hf _ _ _ hk;refine⟨A,rfl,fun i hi=>?_⟩;obtain⟨a1,a2⟩:=h2 i hi;have eb:(A.add (i*2)).block=A.block:=by unfold Addr.add;split <;> rfl
  have e1:w'.heap[(A.add (i*2)).block]?=w.heap[(A.add (i*2)).block]?:=by rw[eb];exact e
  exact⟨(World.cell?_of_block (a:=A.add (i*2)) e1).trans a1,(World.cell?_of_block (a:=⟨(A.add (i*2)).block,(A.add (i*2)).off+1,none⟩) e1).trans a2⟩
 ·obtain⟨arr,fr,hk⟩:=hT g hg
  exact⟨arr,fr,(hf _ _ _ hk).trans hk⟩
theorem ybH {w w':World}{v:Value}{l:List att.Pt}(h:PosT w v l)(hb:Below w.heap.size w w'):PosT w' v l:=yhy h fun k _ _ hk=>hb.block k (yax hk)
theorem yaX {w:World}{v:Value}{l:List att.Pt}{b o:Nat}{t:TypeId}{arr:Array Value}{fr:Nat × Nat}(h:PosT w v l)(hb:w.heap[b]?=some (.cells arr t fr))(ht:t≠192)(u:Value):PosT (w.setCell ⟨b,o,none⟩ u) v l :=
 yhy h fun k arr' fr' hk=>Below.heap_setCell _ _ _ _ fun e=>by
  subst e;rw[hb] at hk;cases hk
  exact ht rfl
theorem yjb {l:List Pr}(h:Ga 1 l):(yai l yY).1.length<=32:=by
 by_cases hp:(yai l yY).2=true
 ·have hs:∀ {l:List Pr},(∀ a∈l,yaa 1 a=0)->(yai l yY).1.length<=32:=fun {l}=>by
    induction l with
    | nil=>intro _;exact Nat.zero_le _
    | cons a t ih =>
     intro hc;rw[yae]
     split
     ·exact ih fun q hq=>hc q (List.mem_cons_of_mem _ hq)
     ·split
      ·rename_i e
       have hk:=hc a (List.mem_cons_self ..);unfold yaa at hk;rw[if_neg (by decide),e] at hk;rw[if_neg (by decide),if_neg (fun q=>absurd q.1 (by decide))] at hk
       split at hk
       ·rename_i ho
        unfold okV at ho;rw[if_neg (by decide),if_neg (by decide),if_pos (by decide)] at ho;simp only[Bool.and_eq_true,decide_eq_true_eq] at ho;exact ho.2
       ·exact absurd hk (by decide)
      ·exact Nat.zero_le _
  exact hs h.1
 ·rw[ybZ (by simpa using hp)];exact Nat.zero_le _
end Go.Proofs.YtgmidodmmlmmeaaGreatDoor.nor
namespace Go.Proofs.YtgmidodmmlmmeaaGreatDoor.nor
open Go.RowKit lex tre att _root_.Go.Proofs.Tryz
theorem yW {W:World}{g k o:Nat}{t:TypeId}{arr:Array Value}(h:blk W g t arr)(hne:g≠k)(u:Value):blk (W.setCell ⟨k,o,none⟩ u) g t arr:=by
 unfold att.blk;rw[Below.heap_setCell _ _ _ _ hne];exact h
theorem yhz {W:World}{g:Nat}{a0 a1 a2 a3 a4 a5:Value}(h:blk W g 59 #[a0,a1,a2,a3,a4,a5])(c0 c1 c2 c3 c4 c5:Value):blk ((((((W.setCell ⟨g,0,none⟩ c0).setCell ⟨g,1,none⟩ c1).setCell ⟨g,2,none⟩ c2).setCell ⟨g,3,none⟩ c3).setCell ⟨g,4,none⟩ c4).setCell ⟨g,5,none⟩ c5) g 59 #[c0,c1,c2,c3,c4,c5] :=
 yg (yg (yg (yg (yg (yg h c0) c1) c2) c3) c4) c5
theorem ncl {W:World}{g:Nat}{t:TypeId}{a0 a1 a2 a3 a4 a5:Value}(h:att.blk W g t #[a0,a1,a2,a3,a4,a5]):W.cell? ⟨g,0,none⟩=some a0/\W.cell? ⟨g,1,none⟩=some a1/\W.cell? ⟨g,2,none⟩=some a2/\W.cell? ⟨g,3,none⟩=some a3/\W.cell? ⟨g,4,none⟩=some a4/\W.cell? ⟨g,5,none⟩=some a5 :=
 ⟨yd h,yd h,yd h,yd h,yd h,yd h⟩
theorem yby {B:Nat}{a W:World}{g:Nat}(h:Below B a W)(hg:B<=g)(c0 c1 c2 c3 c4 c5:Value):Below B a ((((((W.setCell ⟨g,0,none⟩ c0).setCell ⟨g,1,none⟩ c1).setCell ⟨g,2,none⟩ c2).setCell ⟨g,3,none⟩ c3).setCell ⟨g,4,none⟩ c4).setCell ⟨g,5,none⟩ c5):=(((((h.setCell hg _).setCell hg _).setCell hg _).setCell hg _).setCell hg _).setCell hg _
theorem ydJ {v:Value}{l:List att.Pt}{W:World}{g:Nat}{arr:Array Value}(h:PosT W v l)(hg:blk W g 59 arr)(c0 c1 c2 c3 c4 c5:Value):PosT ((((((W.setCell ⟨g,0,none⟩ c0).setCell ⟨g,1,none⟩ c1).setCell ⟨g,2,none⟩ c2).setCell ⟨g,3,none⟩ c3).setCell ⟨g,4,none⟩ c4).setCell ⟨g,5,none⟩ c5) v l :=
 yaX (yaX (yaX (yaX (yaX (yaX h hg (by decide) c0) (yg hg c0) (by decide) c1) (yg (yg hg c0) c1) (by decide) c2) (yg (yg (yg hg c0) c1) c2) (by decide) c3) (yg (yg (yg (yg hg c0) c1) c2) c3) (by decide) c4) (yg (yg (yg (yg (yg hg c0) c1) c2) c3) c4) (by decide) c5
def ytQ (y:gra.Nd)(w:World)(e:Ending)(w':World):Prop:=∃ pv,e=.returned (.agg #[.string (bb y.nm),.string (bb y.lb),.int .i64 y.w,.int .i64 y.h,.int .i64 y.cl,pv])/\PosT w' pv y.ps/\Below w.heap.size w w'
set_option maxRecDepth 100000 in
set_option maxHeartbeats 2000000 in
theorem yfB (x:Cl)(l:List Pr)(v:Value)(w:World)(h:Hid (Prs w v l))(hga:Hid (Ga 1 l))(hb:Hid (∀ r∈l,r.2.length<=20000)) :
    Calls Tryz.prog 108 #[.agg #[.string (bb x.1),.string ⟨#[]⟩,.int .i64 0,.int .i64 0,.int .i64 x.2,.slice none 0 0],v] w (ytQ (ygJ x l) w):=by
 obtain⟨uo,uc,rfl,_,_,_⟩:=id h.out;obtain⟨gl,hgl⟩:∃ q,yai l yE=q:=⟨_,rfl⟩
 obtain⟨gl,gb⟩:=gl;obtain⟨gp,hgp⟩:∃ q,yai l yY=q:=⟨_,rfl⟩
 obtain⟨gp,gpb⟩:=gp;obtain⟨nw,hnw⟩:∃ q,ycA 1 l yao=q:=⟨_,rfl⟩
 obtain⟨nh,hnh⟩:∃ q,ycA 1 l yQ=q:=⟨_,rfl⟩
 obtain⟨pl,hpl⟩:∃ q,yaQ gp=q:=⟨_,rfl⟩
 obtain⟨pl,pe⟩:=pl;have HGL:Hid (yai l (⟨#[108,97,98,101,108]⟩:ByteArray).data.toList=(gl,gb)):=Lh hgl;have HGP:Hid (yai l (⟨#[112,111,114,116,115]⟩:ByteArray).data.toList=(gp,gpb)):=Lh hgp;have HNW:Hid (ycA 1 l (⟨#[119,105,100,116,104]⟩:ByteArray).data.toList=nw):=Lh hnw;have HNH:Hid (ycA 1 l (⟨#[104,101,105,103,104,116]⟩:ByteArray).data.toList=nh):=Lh hnh;have HPL:Hid (yaQ (bb gp).data.toList=(pl,pe)):=Lh hpl
 have hgps:(bb gp).size<=20000:=by
  have:=yjb hga.out;rw[hgp] at this;rw[ydh];exact Nat.le_trans this (by decide)
 have HFN:Hid (ygJ x l=⟨x.1,if gb then gl else x.1,nw,nh,x.2,if gpb then pl else []⟩):=Lh (by
  unfold ygJ;rw[hgl,hgp,hnw,hnh,hpl])
 obtain⟨Y,hY⟩:∃ Y,ygJ x l=Y:=⟨_,rfl⟩
 have HFY:Hid (Y=⟨x.1,if gb then gl else x.1,nw,nh,x.2,if gpb then pl else []⟩):=Lh (hY.symm.trans HFN.out);rw[hY];have hbd:=al2 w (.cells #[.string (bb x.1),.string (bb x.1),.int .i64 0,.int .i64 0,.int .i64 x.2,.slice none 0 0] 59) (.cells #[.string ⟨#[]⟩,.string ⟨#[]⟩,.int .i64 0,.int .i64 0,.int .i64 0,.slice none 0 0] 59);have hn0:blk ((w.alloc (.cells #[.string (bb x.1),.string (bb x.1),.int .i64 0,.int .i64 0,.int .i64 x.2,.slice none 0 0] 59)).alloc (.cells #[.string ⟨#[]⟩,.string ⟨#[]⟩,.int .i64 0,.int .i64 0,.int .i64 0,.slice none 0 0] 59)) w.heap.size 59 #[.string (bb x.1),.string (bb x.1),.int .i64 0,.int .i64 0,.int .i64 x.2,.slice none 0 0]:=ym (yl w #[.string (bb x.1),.string (bb x.1),.int .i64 0,.int .i64 0,.int .i64 x.2,.slice none 0 0] 59) (al1 ..);have hr0:blk ((w.alloc (.cells #[.string (bb x.1),.string (bb x.1),.int .i64 0,.int .i64 0,.int .i64 x.2,.slice none 0 0] 59)).alloc (.cells #[.string ⟨#[]⟩,.string ⟨#[]⟩,.int .i64 0,.int .i64 0,.int .i64 0,.slice none 0 0] 59)) (w.heap.size+1) 59 #[.string ⟨#[]⟩,.string ⟨#[]⟩,.int .i64 0,.int .i64 0,.int .i64 0,.slice none 0 0]:=by have:=yl (w.alloc (.cells #[.string (bb x.1),.string (bb x.1),.int .i64 0,.int .i64 0,.int .i64 x.2,.slice none 0 0] 59)) #[.string ⟨#[]⟩,.string ⟨#[]⟩,.int .i64 0,.int .i64 0,.int .i64 0,.slice none 0 0] 59;rwa [World.size_alloc] at this
 obtain⟨X,hX⟩:∃ X,bb x.1=X:=⟨_,rfl⟩
 have HX:=Lh hX;have HN1:=Lh hn0;have HR1:=Lh hr0;have HB1:=Lh hbd;rw[hX] at HN1 HR1 HB1 |-;clear hgl hgp hnw hnh hpl HFN hY hbd hn0 hr0 hX hga;go_enter func108,ntmps108;go_wp2_with fail
 generalize (w.alloc (.cells #[.string X,.string X,.int .i64 0,.int .i64 0,.int .i64 x.2,.slice none 0 0] 59)).alloc (.cells #[.string ⟨#[]⟩,.string ⟨#[]⟩,.int .i64 0,.int .i64 0,.int .i64 0,.slice none 0 0] 59)=w1 at *;refine(ydU _ l ⟨#[108,97,98,101,108]⟩ gl gb w1 (Lh (h.out.keep HB1.out)) HGL).mono ?_;rintro e w2 ⟨rfl,hw2⟩;subst w2;cases gb
 case true =>
  have p1:=bc 1 HN1.out;have f1:=yi HN1.out 1;have HN2:Hid (blk (w1.setCell ⟨w.heap.size,1,none⟩ (.string (bb gl))) w.heap.size 59 #[.string X,.string (bb gl),.int .i64 0,.int .i64 0,.int .i64 x.2,.slice none 0 0]):=Lh (yg HN1.out _);have HR2:=Lh (yW (o:=1) HR1.out (show w.heap.size+1≠w.heap.size by omega) (.string (bb gl)));have HB2:Hid (Below w.heap.size w (w1.setCell ⟨w.heap.size,1,none⟩ (.string (bb gl)))):=Lh (HB1.out.setCell (Nat.le_refl _) _);clear HN1 HR1 HB1;go_wp2_with fail
  generalize w1.setCell ⟨w.heap.size,1,none⟩ (.string (bb gl))=w2 at *;clear p1 f1;refine(yck 1 _ l ⟨#[119,105,100,116,104]⟩ nw w2 (Lh (h.out.keep HB2.out)) hb HNW).mono ?_;rintro e w3 ⟨rfl,hb3⟩;have HN3:=Lh (ym HN2.out hb3);have HR3:=Lh (ym HR2.out hb3);have HB3:=Lh (ya hb3 HB2.out);clear hb3 HN2 HR2 HB2;go_wp2_with fail
  refine(yck 1 _ l ⟨#[104,101,105,103,104,116]⟩ nh w3 (Lh (h.out.keep HB3.out)) hb HNH).mono ?_;rintro e w4 ⟨rfl,hb4⟩;have HN4:=Lh (ym HN3.out hb4);have HR4:=Lh (ym HR3.out hb4);have HB4:=Lh (ya hb4 HB3.out);clear hb4 HN3 HR3 HB3;have p2:=bc 2 HN4.out;have p3:=bc 3 HN4.out;have f2:=yi HN4.out 2;have f3:=yi HN4.out 3;have HN5:Hid (blk ((w4.setCell ⟨w.heap.size,2,none⟩ (.int .i64 nw)).setCell ⟨w.heap.size,3,none⟩ (.int .i64 nh)) w.heap.size 59 #[.string X,.string (bb gl),.int .i64 nw,.int .i64 nh,.int .i64 x.2,.slice none 0 0]):=Lh (yg (yg HN4.out _) _);have HR5:Hid (blk ((w4.setCell ⟨w.heap.size,2,none⟩ (.int .i64 nw)).setCell ⟨w.heap.size,3,none⟩ (.int .i64 nh)) (w.heap.size+1) 59 #[.string ⟨#[]⟩,.string ⟨#[]⟩,.int .i64 0,.int .i64 0,.int .i64 0,.slice none 0 0]):=Lh (yW (yW HR4.out (show w.heap.size+1≠w.heap.size by omega) _) (show w.heap.size+1≠w.heap.size by omega) _);have HB5:Hid (Below w.heap.size w ((w4.setCell ⟨w.heap.size,2,none⟩ (.int .i64 nw)).setCell ⟨w.heap.size,3,none⟩ (.int .i64 nh))):=Lh ((HB4.out.setCell (Nat.le_refl _) _).setCell (Nat.le_refl _) _);clear HN4 HR4 HB4;go_wp2_with fail
  generalize (w4.setCell ⟨w.heap.size,2,none⟩ (.int .i64 nw)).setCell ⟨w.heap.size,3,none⟩ (.int .i64 nh)=w5 at *;clear p2 p3 f2 f3;refine(ydU _ l ⟨#[112,111,114,116,115]⟩ gp gpb w5 (Lh (h.out.keep HB5.out)) HGP).mono ?_;rintro e w6 ⟨rfl,hw6⟩;subst w6;cases gpb
  case true =>
   go_wp2_with fail
   refine(ydV (bb gp) pl pe w5 hgps HPL).mono ?_;rintro e w6 ⟨pv,rfl,hpt,hb6⟩;obtain⟨qo,qc,rfl,_,_,_⟩:=id hpt.pos;have HN6:=Lh (ym HN5.out hb6);have HR6:=Lh (ym HR5.out hb6);have HB6:=Lh (ya hb6 HB5.out);have HPT7:=Lh (yaX (o:=5) hpt HN6.out (by decide) (.slice qo pl.length qc));clear hb6 hpt HN5 HR5 HB5;have p5:=bc 5 HN6.out;have f5:=yi HN6.out 5;have HN7:Hid (blk (w6.setCell ⟨w.heap.size,5,none⟩ (.slice qo pl.length qc)) w.heap.size 59 #[.string X,.string (bb gl),.int .i64 nw,.int .i64 nh,.int .i64 x.2,.slice qo pl.length qc]):=Lh (yg HN6.out _);have HR7:Hid (blk (w6.setCell ⟨w.heap.size,5,none⟩ (.slice qo pl.length qc)) (w.heap.size+1) 59 #[.string ⟨#[]⟩,.string ⟨#[]⟩,.int .i64 0,.int .i64 0,.int .i64 0,.slice none 0 0]):=Lh (yW HR6.out (show w.heap.size+1≠w.heap.size by omega) _);have HB7:Hid (Below w.heap.size w (w6.setCell ⟨w.heap.size,5,none⟩ (.slice qo pl.length qc))):=Lh (HB6.out.setCell (Nat.le_refl _) _);clear HN6 HR6 HB6;obtain⟨s0,s1,s2,s3,s4,s5⟩:=b6c HN7.out;obtain⟨z0,z1,z2,z3,z4,z5⟩:=b6c HR7.out;have y0:=yi HR7.out 0;have y1:=yi HR7.out 1;have y2:=yi HR7.out 2;have y3:=yi HR7.out 3;have y4:=yi HR7.out 4;have y5:=yi HR7.out 5;go_wp2;have hgx:=yhz HR7.out (.string X) (.string (bb gl)) (.int .i64 nw) (.int .i64 nh) (.int .i64 x.2) (.slice qo pl.length qc);obtain⟨r0,r1,r2,r3,r4,r5⟩:=ncl hgx;refine bodyPost_ret (v:=.agg #[.string X,.string (bb gl),.int .i64 nw,.int .i64 nh,.int .i64 x.2,.slice qo pl.length qc]) (by simp[results,results108,go_sem,r0,r1,r2,r3,r4,r5]) rfl ?_
   have hY2:Y=⟨x.1,gl,nw,nh,x.2,pl⟩:=HFY.out;subst hY2;exact⟨_,by simp only[HX.out],ydJ HPT7.out HR7.out _ _ _ _ _ _,yby HB7.out (Nat.le_succ _) _ _ _ _ _ _⟩
  case false =>
   have HN7:=HN5;have HR7:=HR5;have HB7:=HB5;have HPT7:=Lh (PosT.nil w5);clear HN5 HR5 HB5;obtain⟨s0,s1,s2,s3,s4,s5⟩:=b6c HN7.out;obtain⟨z0,z1,z2,z3,z4,z5⟩:=b6c HR7.out;have y0:=yi HR7.out 0;have y1:=yi HR7.out 1;have y2:=yi HR7.out 2;have y3:=yi HR7.out 3;have y4:=yi HR7.out 4;have y5:=yi HR7.out 5;go_wp2;have hgx:=yhz HR7.out (.string X) (.string (bb gl)) (.int .i64 nw) (.int .i64 nh) (.int .i64 x.2) (.slice none 0 0);obtain⟨r0,r1,r2,r3,r4,r5⟩:=ncl hgx;refine bodyPost_ret (v:=.agg #[.string X,.string (bb gl),.int .i64 nw,.int .i64 nh,.int .i64 x.2,.slice none 0 0]) (by simp[results,results108,go_sem,r0,r1,r2,r3,r4,r5]) rfl ?_;have hY2:Y=⟨x.1,gl,nw,nh,x.2,[]⟩:=HFY.out;subst hY2;exact⟨_,by simp only[HX.out],ydJ HPT7.out HR7.out _ _ _ _ _ _,yby HB7.out (Nat.le_succ _) _ _ _ _ _ _⟩
 case false =>
  go_wp2_with fail
  refine(yck 1 _ l ⟨#[119,105,100,116,104]⟩ nw w1 (Lh (h.out.keep HB1.out)) hb HNW).mono ?_;rintro e w3 ⟨rfl,hb3⟩;have HN3:=Lh (ym HN1.out hb3);have HR3:=Lh (ym HR1.out hb3);have HB3:=Lh (ya hb3 HB1.out);clear hb3 HN1 HR1 HB1;go_wp2_with fail
  refine(yck 1 _ l ⟨#[104,101,105,103,104,116]⟩ nh w3 (Lh (h.out.keep HB3.out)) hb HNH).mono ?_;rintro e w4 ⟨rfl,hb4⟩;have HN4:=Lh (ym HN3.out hb4);have HR4:=Lh (ym HR3.out hb4);have HB4:=Lh (ya hb4 HB3.out);clear hb4 HN3 HR3 HB3;have p2:=bc 2 HN4.out;have p3:=bc 3 HN4.out;have f2:=yi HN4.out 2;have f3:=yi HN4.out 3;have HN5:Hid (blk ((w4.setCell ⟨w.heap.size,2,none⟩ (.int .i64 nw)).setCell ⟨w.heap.size,3,none⟩ (.int .i64 nh)) w.heap.size 59 #[.string X,.string X,.int .i64 nw,.int .i64 nh,.int .i64 x.2,.slice none 0 0]):=Lh (yg (yg HN4.out _) _);have HR5:Hid (blk ((w4.setCell ⟨w.heap.size,2,none⟩ (.int .i64 nw)).setCell ⟨w.heap.size,3,none⟩ (.int .i64 nh)) (w.heap.size+1) 59 #[.string ⟨#[]⟩,.string ⟨#[]⟩,.int .i64 0,.int .i64 0,.int .i64 0,.slice none 0 0]):=Lh (yW (yW HR4.out (show w.heap.size+1≠w.heap.size by omega) _) (show w.heap.size+1≠w.heap.size by omega) _);have HB5:Hid (Below w.heap.size w ((w4.setCell ⟨w.heap.size,2,none⟩ (.int .i64 nw)).setCell ⟨w.heap.size,3,none⟩ (.int .i64 nh))):=Lh ((HB4.out.setCell (Nat.le_refl _) _).setCell (Nat.le_refl _) _);clear HN4 HR4 HB4;go_wp2_with fail
  generalize (w4.setCell ⟨w.heap.size,2,none⟩ (.int .i64 nw)).setCell ⟨w.heap.size,3,none⟩ (.int .i64 nh)=w5 at *;clear p2 p3 f2 f3;refine(ydU _ l ⟨#[112,111,114,116,115]⟩ gp gpb w5 (Lh (h.out.keep HB5.out)) HGP).mono ?_;rintro e w6 ⟨rfl,hw6⟩;subst w6;cases gpb
  case true =>
   go_wp2_with fail
   refine(ydV (bb gp) pl pe w5 hgps HPL).mono ?_;rintro e w6 ⟨pv,rfl,hpt,hb6⟩;obtain⟨qo,qc,rfl,_,_,_⟩:=id hpt.pos;have HN6:=Lh (ym HN5.out hb6);have HR6:=Lh (ym HR5.out hb6);have HB6:=Lh (ya hb6 HB5.out);have HPT7:=Lh (yaX (o:=5) hpt HN6.out (by decide) (.slice qo pl.length qc));clear hb6 hpt HN5 HR5 HB5;have p5:=bc 5 HN6.out;have f5:=yi HN6.out 5;have HN7:Hid (blk (w6.setCell ⟨w.heap.size,5,none⟩ (.slice qo pl.length qc)) w.heap.size 59 #[.string X,.string X,.int .i64 nw,.int .i64 nh,.int .i64 x.2,.slice qo pl.length qc]):=Lh (yg HN6.out _);have HR7:Hid (blk (w6.setCell ⟨w.heap.size,5,none⟩ (.slice qo pl.length qc)) (w.heap.size+1) 59 #[.string ⟨#[]⟩,.string ⟨#[]⟩,.int .i64 0,.int .i64 0,.int .i64 0,.slice none 0 0]):=Lh (yW HR6.out (show w.heap.size+1≠w.heap.size by omega) _);have HB7:Hid (Below w.heap.size w (w6.setCell ⟨w.heap.size,5,none⟩ (.slice qo pl.length qc))):=Lh (HB6.out.setCell (Nat.le_refl _) _);clear HN6 HR6 HB6;obtain⟨s0,s1,s2,s3,s4,s5⟩:=b6c HN7.out;obtain⟨z0,z1,z2,z3,z4,z5⟩:=b6c HR7.out;have y0:=yi HR7.out 0;have y1:=yi HR7.out 1;have y2:=yi HR7.out 2;have y3:=yi HR7.out 3;have y4:=yi HR7.out 4;have y5:=yi HR7.out 5;go_wp2;have hgx:=yhz HR7.out (.string X) (.string X) (.int .i64 nw) (.int .i64 nh) (.int .i64 x.2) (.slice qo pl.length qc);obtain⟨r0,r1,r2,r3,r4,r5⟩:=ncl hgx;refine bodyPost_ret (v:=.agg #[.string X,.string X,.int .i64 nw,.int .i64 nh,.int .i64 x.2,.slice qo pl.length qc]) (by simp[results,results108,go_sem,r0,r1,r2,r3,r4,r5]) rfl ?_
   have hY2:Y=⟨x.1,x.1,nw,nh,x.2,pl⟩:=HFY.out;subst hY2;exact⟨_,by simp only[HX.out],ydJ HPT7.out HR7.out _ _ _ _ _ _,yby HB7.out (Nat.le_succ _) _ _ _ _ _ _⟩
  case false =>
   have HN7:=HN5;have HR7:=HR5;have HB7:=HB5;have HPT7:=Lh (PosT.nil w5);clear HN5 HR5 HB5;obtain⟨s0,s1,s2,s3,s4,s5⟩:=b6c HN7.out;obtain⟨z0,z1,z2,z3,z4,z5⟩:=b6c HR7.out;have y0:=yi HR7.out 0;have y1:=yi HR7.out 1;have y2:=yi HR7.out 2;have y3:=yi HR7.out 3;have y4:=yi HR7.out 4;have y5:=yi HR7.out 5;go_wp2;have hgx:=yhz HR7.out (.string X) (.string X) (.int .i64 nw) (.int .i64 nh) (.int .i64 x.2) (.slice none 0 0);obtain⟨r0,r1,r2,r3,r4,r5⟩:=ncl hgx;refine bodyPost_ret (v:=.agg #[.string X,.string X,.int .i64 nw,.int .i64 nh,.int .i64 x.2,.slice none 0 0]) (by simp[results,results108,go_sem,r0,r1,r2,r3,r4,r5]) rfl ?_;have hY2:Y=⟨x.1,x.1,nw,nh,x.2,[]⟩:=HFY.out;subst hY2;exact⟨_,by simp only[HX.out],ydJ HPT7.out HR7.out _ _ _ _ _ _,yby HB7.out (Nat.le_succ _) _ _ _ _ _ _⟩
end Go.Proofs.YtgmidodmmlmmeaaGreatDoor.nor
namespace Go.Proofs.YtgmidodmmlmmeaaGreatDoor.nor
open Go.RowKit Go.ChangeMaps Go.MapKept lex tre att
end Go.Proofs.YtgmidodmmlmmeaaGreatDoor.nor
