/-
  Layer 9 (parser) on lists of tokens, continued: the tokens of a valid tree's text are read as that tree (P9.3), and tokens that differ in their lines alone are read alike. No function of the program is named here; no condition.
  Layer 9 (parser) on bytes: what Parse and ParseAttrs answer to a source; that a valid tree's text and a valid list's text are parsed to them, and that a comment and blanks around a source change nothing but an error's line (P9.3). No function of the program is named here; no condition.
  What the landed parser has to answer, as one premise, and the chapter's two examples worked out. No condition.
  Layer 9 (parser) on lists of tokens, continued: what reading leaves is the end of what was there, so an error's line lies within the source. No function of the program is named here; no condition.
  The landed parser's reader in memory, and its small methods: peek, skip, here, sees, accept, expect, end, name, value. Condition: tokens of a source (texts of at most 16384 bytes, numbers that an int holds).
-/
import Derived.Test.YtgmidodmmlmmeaaGreatDoorMra
namespace Go.Proofs.YtgmidodmmlmmeaaGreatDoor.par
open lex tre prt
section
variable {fm:Int→List UInt8} {pr:List UInt8→Int × Int}
theorem isT_ref2 (r:Pr)(M:List Tok)(c:List UInt8):isT 2 c (refK r M)=false:=isK_N _ _ _
theorem stm_back (hc:∀ v,(pr v).2=0→fm (pr v).1=v) :
    (∀ s:St,∀ (dep:Nat) d n K,(∀ x∈preS s (dep:Int),staE x.1 x.2=0)→2*cnt [s]≤n→stmtF fm d n dep (stK pr d s K)=.ok s K) ∧
    ∀ l:List St,∀ (dep:Nat) d n K,(∀ x∈preL l (dep:Int),staE x.1 x.2=0)→2*cnt l < n→stmtsF fm d n dep (slK pr d l (tkM 125 :: K))=.ok l K:=by
 refine st_ind (fun kd nm r a b hb dep d n K hv hn=>?_) (fun dep d n K _ hn=>?_) (fun s t h1 h2 dep d n K hv hn=>?_)
 ·have h0:=hv (.mk kd nm r a b,(dep:Int)) (by rw [preS_eq];simp)
  have hf:=form_of h0
  have hbd:∀ x∈preL b (if kd=5 then (dep:Int)+1 else dep),staE x.1 x.2=0:=fun x hx=>hv x (by rw [preS_eq];exact List.mem_cons_of_mem _ hx)
  have hdp:kd=5→dep < 6:=by
   intro hk
   subst hk
   simp only at h0
   unfold staE at h0
   by_cases q1:fldE (.mk 5 nm r a b)≠0
   ·rw [if_pos q1] at h0;exact absurd h0 q1
   ·rw [if_neg q1] at h0
    by_cases q2:(St.mk 5 nm r a b).kind=5∧6≤(dep:Int)
    ·rw [if_pos q2] at h0;exact absurd h0 (by decide)
    ·have q3:¬ 6≤(dep:Int):=fun e=>q2 ⟨rfl,e⟩
     omega
  rw [cnt_cons,cnt_nil] at hn
  obtain ⟨n,rfl⟩:∃ m,n=m+1:=⟨n - 1,by omega⟩
  cases hf with
  | node nm a hn' hk =>
   show stmtF fm d (n+1) dep (tkN nm :: attSK pr a (tkM 59 :: K))=_
   unfold stmtF
   rw [isK_N,isK_N,isK_N,isK_N,if_neg (by decide),if_neg (by decide),if_neg (by decide),if_neg (by decide)]
   unfold chainR refR
   rw [name_N,bnd_ok,isT_att 58 a K (by decide) (by decide),if_neg (by decide),bnd_ok,isA_att,if_neg (by simp),opt_K hc,bnd_ok,want_M,bnd_ok]
  | edge r r2 q a hr hk =>
   show stmtF fm d (n+1) dep (refK r (tkA d :: refK r2 (refTK d q (attSK pr a (tkM 59 :: K)))))=_
   unfold stmtF
   rw [isT_ref2,isT_ref2,isT_ref2,isT_ref2,if_neg (by decide),if_neg (by decide),if_neg (by decide),if_neg (by decide)]
   unfold chainR
   rw [ref_K r _ (isT_A _ _ _),bnd_ok,isA_A,if_pos (Or.inr rfl),want_A,bnd_ok,ref_K r2 _ (isT_refT d q a K),bnd_ok,refT_K d a K q _ (by have:=refTK_len d q (attSK pr a (tkM 59 :: K));omega),bnd_ok,opt_K hc,bnd_ok,want_M,bnd_ok]
  | dflt nm a hn' hk =>
   show stmtF fm d (n+1) dep (tkK nm :: (if a.isEmpty then tkM 91 :: tkM 93 :: tkM 59 :: K else attSK pr a (tkM 59 :: K)))=_
   have h2:attrsR fm (if a.isEmpty then tkM 91 :: tkM 93 :: tkM 59 :: K else attSK pr a (tkM 59 :: K))=.ok a (tkM 59 :: K):=by
    cases a with
    | nil =>
     show attrsR fm (tkM 91 :: tkM 93 :: tkM 59 :: K)=_
     unfold attrsR
     rw [want_M,bnd_ok,isT_M,if_pos (by decide)];rfl
    | cons a t=>exact attS_K (l:=a :: t) hc (by simp) _
   unfold stmtF
   rw [isK_K,isK_K]
   rcases hn' with rfl | rfl
   ·rw [if_pos (by decide),List.tail_cons,h2,bnd_ok,want_M,bnd_ok]
   ·rw [if_neg (by decide),if_pos (by decide),List.tail_cons,h2,bnd_ok,want_M,bnd_ok]
  | sset nm v hn' =>
   show stmtF fm d (n+1) dep (tkK wSet :: tkN nm :: tkM 61 :: tkV pr v :: tkM 59 :: K)=_
   unfold stmtF
   rw [isK_K,isK_K,isK_K,if_neg (by decide),if_neg (by decide),if_pos (by decide),List.tail_cons,name_N,bnd_ok,want_M,bnd_ok,val_V hc,bnd_ok,want_M,bnd_ok]
  | clus nm b hn' =>
   have hd:=hdp rfl
   show stmtF fm d (n+1) dep (tkK wClu :: tkN nm :: tkM 123 :: slK pr d b (tkM 125 :: K))=_
   unfold stmtF
   rw [isK_K,isK_K,isK_K,isK_K,if_neg (by decide),if_neg (by decide),if_neg (by decide),if_pos (by decide),List.tail_cons,name_N,bnd_ok,if_neg (fun e=>by omega),want_M,bnd_ok]
   rw [hb (dep+1) d n K (by simpa using hbd) (by change 2*(1+cnt b+0)≤n+1 at hn;omega),bnd_ok]
 ·obtain ⟨n,rfl⟩:∃ m,n=m+1:=⟨n - 1,by omega⟩
  show stmtsF fm d (n+1) dep (tkM 125 :: K)=_
  unfold stmtsF
  rw [isT_M,if_pos (by decide)];rfl
 ·rw [cnt_cons] at hn
  have e1:cnt [s]=1+cnt s.body:=by rw [cnt_cons,cnt_nil];rfl
  obtain ⟨n,rfl⟩:∃ m,n=m+1:=⟨n - 1,by omega⟩
  show stmtsF fm d (n+1) dep (stK pr d s (slK pr d t (tkM 125 :: K)))=_
  have hs:∀ x∈preS s (dep:Int),staE x.1 x.2=0:=fun x hx=>hv x (by rw [preL_cons];exact List.mem_append_left _ hx)
  have ht:∀ x∈preL t (dep:Int),staE x.1 x.2=0:=fun x hx=>hv x (by rw [preL_cons];exact List.mem_append_right _ hx)
  have hno:isT 5 [125] (stK pr d s (slK pr d t (tkM 125 :: K)))=false:=by
   have hf:=form_of (hs (s,(dep:Int)) (by rw [preS_eq];simp))
   cases hf with
   | node=>exact isT_N _ _ _
   | edge=>exact isT_N _ _ _
   | dflt=>exact isT_K _ _ _
   | sset=>exact isT_K _ _ _
   | clus=>exact isT_K _ _ _
  unfold stmtsF
  rw [hno,if_neg (by decide),h1 dep d n _ hs (by omega),bnd_ok,h2 dep d n K ht (by omega),bnd_ok]
theorem tree_back (hc:∀ v,(pr v).2=0→fm (pr v).1=v){T:Tr}(h:validT T=0):treeR fm (txtK pr T)=.ok T []:=by
 obtain ⟨hn,_,hv⟩:=(valid_iff T).1 h
 have hl:=(sl_len (pr:=pr) T.dir).2 T.body ⟨0,hv⟩ [tkM 125]
 unfold treeR txtK
 have hd:isT 2 (wDir true) (tkK (wDir T.dir) :: tkN T.name :: tkM 123 :: slK pr T.dir T.body [tkM 125])=T.dir:=by rw [isK_K];cases T.dir <;> decide
 have hd2:isT 2 (wDir false) (tkK (wDir T.dir) :: tkN T.name :: tkM 123 :: slK pr T.dir T.body [tkM 125])=!T.dir:=by rw [isK_K];cases T.dir <;> decide
 rw [hd,hd2,if_pos (by cases T.dir <;> simp),List.tail_cons,name_N,bnd_ok,want_M,bnd_ok,(stm_back hc).2 T.body 0 T.dir _ [] hv (by simp only [List.length_cons,List.length_nil] at hl;omega),bnd_ok]
def mapR {α:Type}(g:Tok→Tok):Rz α→Rz α
 | .ok a r=>.ok a (r.map g)
 | .er e r=>.er e (r.map g)
def Keeps (g:Tok→Tok):Prop:=∀ t,(g t).kind=t.kind∧(g t).text=t.text∧(g t).num=t.num
variable {g:Tok→Tok}
theorem map_bnd {α β:Type}{x:Rz α}{f f':α→List Tok→Rz β}(h:∀ a r,f' a (r.map g)=mapR g (f a r)):(mapR g x).bnd f'=mapR g (x.bnd f):=by
 cases x with
 | ok a r=>exact h a r
 | er e r=>rfl
theorem isT_map (hg:Keeps g)(k:Int)(c:List UInt8)(l:List Tok):isT k c (l.map g)=isT k c l:=by
 cases l with
 | nil=>rfl
 | cons t r=>obtain ⟨h1,h2,_⟩:=hg t;rw [List.map_cons,isT_cons,isT_cons,h1,h2]
theorem tail_map (l:List Tok):(l.map g).tail=l.tail.map g:=by cases l <;> rfl
theorem want_map (hg:Keeps g)(c:List UInt8)(l:List Tok):wantM c (l.map g)=mapR g (wantM c l):=by
 unfold wantM;rw [isT_map hg,tail_map];split <;> rfl
theorem name_map (hg:Keeps g)(l:List Tok):nameR (l.map g)=mapR g (nameR l):=by
 cases l with
 | nil=>rfl
 | cons t r =>
  obtain ⟨h1,h2,_⟩:=hg t
  rw [List.map_cons]
  show (if (g t).kind=1 then Rz.ok (g t).text (r.map g) else .er 4 (g t :: r.map g))=mapR g (if t.kind=1 then Rz.ok t.text r else .er 4 (t :: r))
  rw [h1,h2];split <;> rfl
theorem val_map (hg:Keeps g)(l:List Tok):valR fm (l.map g)=mapR g (valR fm l):=by
 cases l with
 | nil=>rfl
 | cons t r =>
  obtain ⟨h1,h2,h3⟩:=hg t
  rw [List.map_cons]
  show (if (g t).kind=1∨(g t).kind=4 then Rz.ok (g t).text (r.map g) else if (g t).kind=3 then Rz.ok (fm (g t).num) (r.map g) else .er 4 (g t :: r.map g))=mapR g (if t.kind=1∨t.kind=4 then Rz.ok t.text r else if t.kind=3 then Rz.ok (fm t.num) r else .er 4 (t :: r))
  rw [h1,h2,h3]
  split
  ·rfl
  ·split <;> rfl
theorem att_map (hg:Keeps g)(l:List Tok):attR fm (l.map g)=mapR g (attR fm l):=by
 unfold attR
 rw [name_map hg]
 refine map_bnd (fun k l=>?_)
 rw [want_map hg]
 refine map_bnd (fun _ l=>?_)
 rw [val_map hg]
 exact map_bnd (fun v l=>rfl)
theorem attrsF_map (hg:Keeps g):∀ (n:Nat) (l:List Tok),attrsF fm n (l.map g)=mapR g (attrsF fm n l):=by
 intro n
 induction n with
 | zero=>intro l;rfl
 | succ n ih =>
  intro l
  unfold attrsF
  rw [att_map hg]
  refine map_bnd (fun a l=>?_)
  rw [isT_map hg,tail_map]
  split
  ·rw [ih];exact map_bnd (fun v l=>rfl)
  ·rw [want_map hg];exact map_bnd (fun v l=>rfl)
theorem attrs_map (hg:Keeps g)(l:List Tok):attrsR fm (l.map g)=mapR g (attrsR fm l):=by
 unfold attrsR
 rw [want_map hg]
 refine map_bnd (fun a l=>?_)
 rw [isT_map hg,tail_map,List.length_map]
 split
 ·rfl
 ·exact attrsF_map hg _ _
theorem ref_map (hg:Keeps g)(l:List Tok):refR (l.map g)=mapR g (refR l):=by
 unfold refR
 rw [name_map hg]
 refine map_bnd (fun a l=>?_)
 rw [isT_map hg,tail_map]
 split
 ·rw [name_map hg];exact map_bnd (fun v l=>rfl)
 ·rfl
theorem refsF_map (hg:Keeps g)(d:Bool):∀ (n:Nat) (l:List Tok),refsF d n (l.map g)=mapR g (refsF d n l):=by
 intro n
 induction n with
 | zero=>intro l;rfl
 | succ n ih =>
  intro l
  unfold refsF
  rw [isT_map hg,tail_map]
  split
  ·rw [ref_map hg]
   refine map_bnd (fun a l=>?_)
   rw [ih];exact map_bnd (fun v l=>rfl)
  ·rfl
theorem opt_map (hg:Keeps g)(l:List Tok):optR fm (l.map g)=mapR g (optR fm l):=by
 unfold optR
 rw [isT_map hg]
 split
 ·exact attrs_map hg l
 ·rfl
theorem chain_map (hg:Keeps g)(d:Bool)(l:List Tok):chainR fm d (l.map g)=mapR g (chainR fm d l):=by
 unfold chainR
 rw [ref_map hg]
 refine map_bnd (fun f l=>?_)
 rw [isT_map hg]
 split
 ·rw [want_map hg]
  refine map_bnd (fun _ l=>?_)
  rw [ref_map hg]
  refine map_bnd (fun r l=>?_)
  rw [List.length_map,refsF_map hg]
  refine map_bnd (fun rs l=>?_)
  rw [opt_map hg]
  refine map_bnd (fun a l=>?_)
  rw [want_map hg]
  exact map_bnd (fun v l=>rfl)
 ·rw [opt_map hg]
  refine map_bnd (fun a l=>?_)
  rw [want_map hg]
  exact map_bnd (fun v l=>rfl)
theorem stm_map (hg:Keeps g)(d:Bool):∀ (n dep:Nat) (l:List Tok),stmtF fm d n dep (l.map g)=mapR g (stmtF fm d n dep l)∧stmtsF fm d n dep (l.map g)=mapR g (stmtsF fm d n dep l):=by
 intro n
 induction n with
 | zero=>intro dep l;unfold stmtF stmtsF;exact ⟨rfl,rfl⟩
 | succ n ih =>
  intro dep l
  constructor
  ·unfold stmtF
   rw [isT_map hg,isT_map hg,isT_map hg,isT_map hg,tail_map]
   split
   ·rw [attrs_map hg]
    refine map_bnd (fun a l=>?_)
    rw [want_map hg]
    exact map_bnd (fun v l=>rfl)
   ·split
    ·rw [attrs_map hg]
     refine map_bnd (fun a l=>?_)
     rw [want_map hg]
     exact map_bnd (fun v l=>rfl)
    ·split
     ·rw [name_map hg]
      refine map_bnd (fun a l=>?_)
      rw [want_map hg]
      refine map_bnd (fun _ l=>?_)
      rw [val_map hg]
      refine map_bnd (fun v l=>?_)
      rw [want_map hg]
      exact map_bnd (fun v l=>rfl)
     ·split
      ·rw [name_map hg]
       refine map_bnd (fun a l=>?_)
       rw [isT_map hg]
       split
       ·rfl
       ·rw [want_map hg]
        refine map_bnd (fun _ l=>?_)
        rw [(ih _ _).2]
        exact map_bnd (fun v l=>rfl)
      ·exact chain_map hg d l
  ·unfold stmtsF
   rw [isT_map hg,tail_map]
   split
   ·rfl
   ·rw [(ih _ _).1]
    refine map_bnd (fun a l=>?_)
    rw [(ih _ _).2]
    exact map_bnd (fun v l=>rfl)
theorem tree_map (hg:Keeps g)(l:List Tok):treeR fm (l.map g)=mapR g (treeR fm l):=by
 unfold treeR
 rw [isT_map hg,isT_map hg,tail_map]
 split
 ·rw [name_map hg]
  refine map_bnd (fun a l=>?_)
  rw [want_map hg]
  refine map_bnd (fun _ l=>?_)
  rw [List.length_map,(stm_map hg _ _ _ _).2]
  exact map_bnd (fun v l=>rfl)
 ·rfl
end
end Go.Proofs.YtgmidodmmlmmeaaGreatDoor.par
namespace Go.Proofs.YtgmidodmmlmmeaaGreatDoor.par
open Go.RowKit lex tre prt
section
variable (pr:List UInt8→Int × Int)
end
def lineOf (L:List Tok):List Tok→Int
 | t :: _=>t.line
 | []=>match L.getLast? with
  | some t=>t.line
  | none=>1
def T00:Tr:=⟨[],false,[]⟩
def finA {α:Type}(z:α)(V:α→Int)(L:List Tok):Rz α→α × Int × Int
 | .er e r=>(z,lineOf L r,e)
 | .ok a _=>if V a≠0 then (z,0,V a) else (a,0,0)
def parA (fm:Int→List UInt8)(R:List Tok × Int × Int):Tr × Int × Int:=if R.2.2≠0 then (T00,R.2.1,R.2.2) else finA T00 validT R.1 (endR (treeR fm R.1))
section
variable {fm:Int→List UInt8} {pr:List UInt8→Int × Int}
theorem tk0_keeps:Keeps tk0:=fun _=>⟨rfl,rfl,rfl⟩
theorem map_ok {α:Type}{g:Tok→Tok}{x:Rz α}{a:α}(h:mapR g x=.ok a []):x=.ok a []:=by
 cases x with
 | ok b r =>
  unfold mapR at h
  injection h with h1 h2
  rw [h1,List.map_eq_nil_iff.1 h2]
 | er e r=>unfold mapR at h;cases h
theorem par_back (hc:∀ v,(pr v).2=0→fm (pr v).1=v)(hp:∀ l,(pr l).2=0→numForm l){T:Tr}(h:validT T=0):parA fm (tkz pr (txtT pr T) 1 false)=(T,0,0):=by
 obtain ⟨L,hL,hm⟩:=txt_E hp h 1
 rw [hL]
 have h1:treeR fm L=.ok T []:=by
  refine map_ok (g:=tk0) ?_
  rw [← tree_map tk0_keeps,hm];exact tree_back hc h
 unfold parA
 rw [if_neg (by simp)]
 show finA T00 validT L (endR (treeR fm L))=_
 rw [h1]
 show (if validT T≠0 then _ else _)=_
 rw [if_neg (by simp [h])]
end
def parE (l:List UInt8):Tr × Int × Int:=parA fmtL (tokE l)
def ParOut (T:Tr)(n e:Int)(w:World)(E:Ending)(w':World):Prop:=∃ v,E=.returned (.tuple #[v,.int .i64 n,.int .i64 e])∧TrV w' v T∧Below w.heap.size w w'
section
variable (pr:List UInt8→Int × Int)
end
def Sf {α:Type}(l:List Tok):Rz α→Prop
 | .ok _ r=>r <:+ l
 | .er _ r=>r <:+ l
theorem Sf.bnd {α β:Type}{l:List Tok}{x:Rz α}{f:α→List Tok→Rz β}(hx:Sf l x)(hf:∀ a r,Sf r (f a r)):Sf l (x.bnd f):=by
 cases x with
 | ok a r =>
  have h:=hf a r
  show Sf l (f a r)
  cases hq:f a r with
  | ok b q=>rw [hq] at h;exact List.IsSuffix.trans h hx
  | er e q=>rw [hq] at h;exact List.IsSuffix.trans h hx
 | er e r=>exact hx
theorem Sf.tail {α:Type}{l:List Tok}{x:Rz α}(h:Sf l.tail x):Sf l x:=by
 cases x with
 | ok a r=>exact List.IsSuffix.trans h (List.tail_suffix l)
 | er e r=>exact List.IsSuffix.trans h (List.tail_suffix l)
theorem sf_ok {α:Type}(a:α)(l:List Tok):Sf l (.ok a l):=List.suffix_refl l
theorem sf_tl {α:Type}(a:α)(l:List Tok):Sf l (.ok a l.tail):=List.tail_suffix l
theorem sf_er {α:Type}(e:Int)(l:List Tok):Sf l (.er e l:Rz α):=List.suffix_refl l
section
variable {fm:Int→List UInt8}
theorem want_sf (c:List UInt8)(l:List Tok):Sf l (wantM c l):=by unfold wantM;split;exact sf_tl _ _;exact sf_er _ _
theorem name_sf (l:List Tok):Sf l (nameR l):=by
 cases l with
 | nil=>exact sf_er _ _
 | cons t r=>show Sf (t :: r) (if t.kind=1 then .ok t.text r else .er 4 (t :: r));split;exact sf_tl _ (t :: r);exact sf_er _ _
theorem val_sf (l:List Tok):Sf l (valR fm l):=by
 cases l with
 | nil=>exact sf_er _ _
 | cons t r =>
  show Sf (t :: r) (if t.kind=1∨t.kind=4 then .ok t.text r else if t.kind=3 then .ok (fm t.num) r else .er 4 (t :: r))
  split
  ·exact sf_tl _ (t :: r)
  ·split
   ·exact sf_tl _ (t :: r)
   ·exact sf_er _ _
theorem att_sf (l:List Tok):Sf l (attR fm l):=(name_sf l).bnd fun _ l=>(want_sf _ l).bnd fun _ l=>(val_sf l).bnd fun _ l=>sf_ok _ l
theorem attrsF_sf:∀ (n:Nat) (l:List Tok),Sf l (attrsF fm n l):=by
 intro n
 induction n with
 | zero=>intro l;exact sf_er _ _
 | succ n ih =>
  intro l;unfold attrsF
  refine (att_sf l).bnd fun _ l=>?_
  split
  ·exact ((ih l.tail).bnd fun _ l=>sf_ok _ l).tail
  ·exact (want_sf _ l).bnd fun _ l=>sf_ok _ l
theorem attrs_sf (l:List Tok):Sf l (attrsR fm l):=(want_sf _ l).bnd fun _ l=>by split;exact sf_tl _ _;exact attrsF_sf _ _
theorem ref_sf (l:List Tok):Sf l (refR l):=(name_sf l).bnd fun _ l=>by
 split
 ·exact ((name_sf l.tail).bnd fun _ l=>sf_ok _ l).tail
 ·exact sf_ok _ l
theorem refsF_sf (d:Bool):∀ (n:Nat) (l:List Tok),Sf l (refsF d n l):=by
 intro n
 induction n with
 | zero=>intro l;exact sf_ok _ _
 | succ n ih =>
  intro l;unfold refsF
  split
  ·exact ((ref_sf l.tail).bnd fun _ l=>(ih l).bnd fun _ l=>sf_ok _ l).tail
  ·exact sf_ok _ _
theorem opt_sf (l:List Tok):Sf l (optR fm l):=by unfold optR;split;exact attrs_sf l;exact sf_ok _ _
theorem chain_sf (d:Bool)(l:List Tok):Sf l (chainR fm d l):=(ref_sf l).bnd fun _ l=>by
 split
 ·exact (want_sf _ l).bnd fun _ l=>(ref_sf l).bnd fun _ l=>(refsF_sf d _ l).bnd fun _ l=>(opt_sf l).bnd fun _ l=>(want_sf _ l).bnd fun _ l=>sf_ok _ l
 ·exact (opt_sf l).bnd fun _ l=>(want_sf _ l).bnd fun _ l=>sf_ok _ l
theorem stm_sf (d:Bool):∀ (n dep:Nat) (l:List Tok),Sf l (stmtF fm d n dep l)∧Sf l (stmtsF fm d n dep l):=by
 intro n
 induction n with
 | zero=>intro dep l;unfold stmtF stmtsF;exact ⟨sf_er _ _,sf_er _ _⟩
 | succ n ih =>
  intro dep l
  constructor
  ·unfold stmtF
   split
   ·exact ((attrs_sf l.tail).bnd fun _ l=>(want_sf _ l).bnd fun _ l=>sf_ok _ l).tail
   ·split
    ·exact ((attrs_sf l.tail).bnd fun _ l=>(want_sf _ l).bnd fun _ l=>sf_ok _ l).tail
    ·split
     ·exact ((name_sf l.tail).bnd fun _ l=>(want_sf _ l).bnd fun _ l=>(val_sf l).bnd fun _ l=>(want_sf _ l).bnd fun _ l=>sf_ok _ l).tail
     ·split
      ·refine Sf.tail ((name_sf l.tail).bnd fun _ l=>?_)
       split
       ·exact sf_er _ _
       ·exact (want_sf _ l).bnd fun _ l=>(ih _ l).2.bnd fun _ l=>sf_ok _ l
      ·exact chain_sf d l
  ·unfold stmtsF
   split
   ·exact sf_tl _ _
   ·exact (ih _ l).1.bnd fun _ l=>(ih _ l).2.bnd fun _ l=>sf_ok _ l
theorem Sf.endR {α:Type}{l:List Tok}{x:Rz α}(h:Sf l x):Sf l (endR x):=h.bnd fun _ l=>by split;exact sf_ok _ _;exact sf_er _ _
end
def TokL (L:List Tok):Prop:=L.length≤16384∧∀ t∈L,t.text.length≤16384∧-9223372036854775808≤t.num∧t.num≤9223372036854775807∧(t.kind=2→isKw t.text=true)∧(t.kind=5→isMk t.text=true)
def lastLn (p:List Tok):Int:=match p.getLast? with
 | some t=>t.line
 | none=>1
def Rd (L:List Tok)(R:Nat)(w:World)(l:List Tok)(A:ByteArray)(lev:Int):Prop :=
 ∃ ao cap ln,blk w R 197 #[.slice ao l.length cap,.int .i64 ln,.string A,.int .i64 lev]∧(∀ W,agree 0 R w W→Tl W (.slice ao l.length cap) l∧Tab W)∧∃ p,L=p ++ l∧lastLn p=ln
def pan (n e:Int):List PanicEntry:=[{ v:=.iface 108 (.agg #[.int .i64 n,.int .i64 e]),recovered:=false }]
theorem Rd.lt {L:List Tok}{R:Nat}{w:World}{l:List Tok}{A:ByteArray}{lev:Int}(h:Rd L R w l A lev):R < w.heap.size:=by
 obtain ⟨_,_,_,h,_⟩:=h;exact blk_lt h
theorem Rd.keep {L:List Tok}{R:Nat}{w w':World}{l:List Tok}{A:ByteArray}{lev:Int}(h:Rd L R w l A lev)(hb:∀ q,q≤R→w'.heap[q]?=w.heap[q]?):Rd L R w' l A lev:=by
 obtain ⟨ao,cap,ln,h1,h2,h3⟩:=h
 exact ⟨ao,cap,ln,by unfold blk at h1 ⊢;rw [hb R (Nat.le_refl _)];exact h1,fun W hW=>h2 W (fun q _ q2=>by rw [hW q (Nat.zero_le _) q2,hb q (Nat.le_of_lt q2)]),h3⟩
theorem Rd.below {L:List Tok}{R:Nat}{w w':World}{l:List Tok}{A:ByteArray}{lev:Int}(h:Rd L R w l A lev)(hb:Below w.heap.size w w'):Rd L R w' l A lev:=by
 have:=h.lt
 exact h.keep (fun q hq=>hb.block q (by omega))
theorem Rd.alloc {L:List Tok}{R:Nat}{w:World}{l:List Tok}{A:ByteArray}{lev:Int}(h:Rd L R w l A lev)(o:Obj):Rd L R (w.alloc o) l A lev:=h.below (al1 w o)
theorem Rd.drew {L:List Tok}{R:Nat}{w:World}{l:List Tok}{A:ByteArray}{lev:Int}(h:Rd L R w l A lev):Rd L R w.drew l A lev:=h
theorem Rd.store {L:List Tok}{R:Nat}{w:World}{l:List Tok}{A:ByteArray}{lev:Int}(h:Rd L R w l A lev){g o:Nat}(hg:R < g)(u:Value):Rd L R (w.setCell ⟨g,o,none⟩ u) l A lev :=
 h.keep (fun q hq=>Below.heap_setCell _ _ _ _ (show q≠g by omega))
theorem Rd.grown {L:List Tok}{R:Nat}{w w':World}{l:List Tok}{A:ByteArray}{lev:Int}{row:Option Nat}(h:Rd L R w l A lev)(hg:w.grownBy w' row)(hr:∀ q,row=some q→R < q):Rd L R w' l A lev:=by
 have:=h.lt
 exact h.keep (fun q hq=>hg.block q (by omega) (fun e=>by have:=hr q e.symm;omega))
theorem Rd.arr {L:List Tok}{R:Nat}{w:World}{l:List Tok}{A:ByteArray}{lev:Int}(h:Rd L R w l A lev)(A':ByteArray):Rd L R (w.setCell ⟨R,2,none⟩ (.string A')) l A' lev:=by
 obtain ⟨ao,cap,ln,h1,h2,h3⟩:=h
 refine ⟨ao,cap,ln,by have:=blk_set (o:=2) h1 (.string A');simpa using this,fun W hW=>h2 W (fun q q1 q2=>?_),h3⟩
 rw [hW q q1 q2];exact Below.heap_setCell _ _ _ _ (show q≠R by omega)
theorem Rd.lvl {L:List Tok}{R:Nat}{w:World}{l:List Tok}{A:ByteArray}{lev:Int}(h:Rd L R w l A lev)(lev':Int):Rd L R (w.setCell ⟨R,3,none⟩ (.int .i64 lev')) l A lev':=by
 obtain ⟨ao,cap,ln,h1,h2,h3⟩:=h
 refine ⟨ao,cap,ln,by have:=blk_set (o:=3) h1 (.int .i64 lev');simpa using this,fun W hW=>h2 W (fun q q1 q2=>?_),h3⟩
 rw [hW q q1 q2];exact Below.heap_setCell _ _ _ _ (show q≠R by omega)
theorem Rd.cells {L:List Tok}{R:Nat}{w:World}{l:List Tok}{A:ByteArray}{lev:Int}(h:Rd L R w l A lev):w.cell? ⟨R,2,none⟩=some (.string A)∧w.cell? ⟨R,3,none⟩=some (.int .i64 lev)∧w.frozen? ⟨R,2,none⟩=false∧w.frozen? ⟨R,3,none⟩=false:=by
 obtain ⟨ao,cap,ln,h1,_⟩:=h
 exact ⟨by rw [blk_cell h1];rfl,by rw [blk_cell h1];rfl,blk_free h1,blk_free h1⟩
theorem lineOf_nil (p:List Tok):lineOf (p ++ []) []=lastLn p:=by
 rw [List.append_nil];rfl
theorem Rd.tab {L:List Tok}{R:Nat}{w:World}{l:List Tok}{A:ByteArray}{lev:Int}(h:Rd L R w l A lev):Tab w:=by
 obtain ⟨_,_,_,_,h2,_⟩:=h;exact (h2 w (agree.self _ _ _)).2
theorem Rd.suf {L:List Tok}{R:Nat}{w:World}{l:List Tok}{A:ByteArray}{lev:Int}(h:Rd L R w l A lev):l <:+ L:=by
 obtain ⟨_,_,_,_,_,p,e,_⟩:=h;exact ⟨p,e.symm⟩
theorem Rd.tok {L:List Tok}{R:Nat}{w:World}{l:List Tok}{A:ByteArray}{lev:Int}(h:Rd L R w l A lev)(hL:TokL L){t:Tok}(ht:t∈l):t.text.length≤16384∧-9223372036854775808≤t.num∧t.num≤9223372036854775807∧(t.kind=2→isKw t.text=true)∧(t.kind=5→isMk t.text=true):=hL.2 t (h.suf.mem ht)
def topT (ln:Int):List Tok→Tok
 | []=>⟨0,[],0,ln⟩
 | t :: _=>t
theorem top_line {L p l:List Tok}{ln:Int}(h:L=p ++ l)(hl:lastLn p=ln):(topT ln l).line=lineOf L l:=by
 subst h
 cases l with
 | nil=>rw [lineOf_nil];exact hl.symm
 | cons t r=>rfl
theorem Rd.open {L:List Tok}{R:Nat}{w:World}{l:List Tok}{A:ByteArray}{lev:Int}(h:Rd L R w l A lev):∃ ao cap ln,w.cell? ⟨R,0,none⟩=some (.slice ao l.length cap)∧w.cell? ⟨R,1,none⟩=some (.int .i64 ln)∧w.frozen? ⟨R,0,none⟩=false∧w.frozen? ⟨R,1,none⟩=false ∧
    (topT ln l).line=lineOf L l∧l.length≤cap∧∀ t r,l=t :: r→∃ A0,ao=some A0∧w.cell? A0=some (.int .i64 t.kind)∧w.cell? ⟨A0.block,A0.off+1,none⟩=some (.string (bb t.text))∧w.cell? ⟨A0.block,A0.off+2,none⟩=some (.int .i64 t.num)∧w.cell? ⟨A0.block,A0.off+3,none⟩=some (.int .i64 t.line)∧A0.block≠R:=by
 obtain ⟨ao,cap,ln,h1,h2,p,h3,h4⟩:=h
 refine ⟨ao,cap,ln,by rw [blk_cell h1];rfl,by rw [blk_cell h1];rfl,blk_free h1,blk_free h1,top_line h3 h4,?_,?_⟩
 ·obtain ⟨ao',cap',e,hc,_⟩:=(h2 w (agree.self _ _ _)).1
  cases e;exact hc
 rintro t r rfl
 obtain ⟨A0,rfl,_,c0,c1,c2,c3⟩:=(h2 w (agree.self _ _ _)).1.at' (i:=0) (by simp)
 have e0:A0.add (0*4)=A0:=by unfold Addr.add;rfl
 rw [e0] at c0 c1 c2 c3
 refine ⟨A0,rfl,c0,c1,c2,c3,fun hb=>?_⟩
 have hT:=(h2 { w with heap:=w.heap.setIfInBounds R (.cells #[] 0 (0,0)) } (fun q _ hq=>by
  show (w.heap.setIfInBounds R _)[q]?=_
  rw [Array.getElem?_setIfInBounds,if_neg (by omega)])).1.at' (i:=0) (by simp)
 obtain ⟨A1,eA,_,d0,_⟩:=hT
 cases eA
 rw [e0] at d0
 have hlt:=blk_lt h1
 unfold World.cell? at d0
 simp only [hb,Array.getElem?_setIfInBounds,if_pos hlt,if_true] at d0
 split at d0 <;> simp at d0
end Go.Proofs.YtgmidodmmlmmeaaGreatDoor.par
