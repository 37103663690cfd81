/-
  The landed parser's methods body and cluster, over what statement does with less fuel. Condition: tokens of a source.
  What a source's tokens are like, and how many statements they can be read as. No function of the program is named here; no condition.
  The landed parser's newReader: the reader at the beginning of a source, or a panic with the error of its tokens. Condition: the table of powers of ten is laid.
-/
import Derived.Test.YtgmidodmmlmmeaaGreatDoorMre
import Derived.Test.YtgmidodmmlmmeaaGreatDoorMxc
namespace Go.Proofs.YtgmidodmmlmmeaaGreatDoor.par
open Go.RowKit lex tre prt
def VSts (a:List St)(w w':World)(v:Value):Prop:=selfL w.heap.size w' v a
def bodyR (d:Bool)(n dep:Nat)(l:List Tok):Rz (List St):=(wantM [123] l).bnd fun _ l=>stmtsF fmtL d n dep l
def StOk (L:List Tok)(R:Nat)(d:Bool)(A:ByteArray)(n:Nat):Prop:=∀ (l:List Tok) (dep:Nat) (x:Rz St) (w:World),l.length≤n→dep≤6→Hid (Rd L R w l A (dep:Int))→Hid (stmtF fmtL d n dep l=x) →
 Calls Tryz.prog 179 #[.pointer (some ⟨R,0,none⟩)] w (Out L R A (dep:Int) VSt w x)
def BdOk (L:List Tok)(R:Nat)(d:Bool)(A:ByteArray)(n:Nat):Prop:=∀ (l:List Tok) (dep:Nat) (x:Rz (List St)) (w:World),l.length≤n→(dep≤6∨isT 5 [123] l=false)→Hid (Rd L R w l A (dep:Int))→Hid (bodyR d n dep l=x) →
 Calls Tryz.prog 116 #[.pointer (some ⟨R,0,none⟩)] w (Out L R A (dep:Int) VSts w x)
theorem name_lt {l r:List Tok}{a:List UInt8}(h:nameR l=.ok a r):r.length < l.length:=by
 cases l with
 | nil=>cases h
 | cons t q =>
  unfold nameR at h
  simp only at h
  split at h
  ·cases h;exact Nat.lt_succ_self _
  ·cases h
theorem Sf.le {α:Type}{l r:List Tok}{a:α}{x:Rz α}(h:Sf l x)(e:x=.ok a r):r.length≤l.length:=by
 rw [e] at h;exact List.IsSuffix.length_le h
theorem ref_lts {l r:List Tok}{a:Pr}(h:refR l=.ok a r):r.length < l.length:=by
 unfold refR at h
 cases hn:nameR l with
 | er c l1=>rw [hn] at h;cases h
 | ok k l1 =>
  rw [hn,bnd_ok] at h
  have h1:=name_lt hn
  split at h
  ·cases hp:nameR l1.tail with
   | er c l2=>rw [hp] at h;cases h
   | ok p l2 =>
    rw [hp,bnd_ok] at h
    cases h
    have:=name_lt hp
    rw [List.length_tail] at this
    omega
  ·cases h;exact h1
theorem chain_lt {d:Bool}{l r:List Tok}{s:St}(h:chainR fmtL d l=.ok s r):r.length < l.length:=by
 rw [chain_eq] at h
 cases hn:refR l with
 | er c l1=>rw [hn] at h;cases h
 | ok f l1 =>
  rw [hn,bnd_ok] at h
  have h1:=ref_lts hn
  have ht:∀ (k:List Pr→St) (q:List Tok),Sf q (tailR k q):=fun k q=>(opt_sf (fm:=fmtL) q).bnd fun _ l=>(want_sf _ l).bnd fun _ l=>sf_ok _ l
  have hr:Sf l1 (refsR d f l1):=(want_sf _ l1).bnd fun _ l=>(ref_sf l).bnd fun _ l=>(refsF_sf d _ l).bnd fun _ l=>sf_ok _ l
  split at h
  ·have:=(hr.bnd fun rs l=>ht (fun a=>.mk 2 [] rs a []) l).le h;omega
  ·have:=(ht _ l1).le h;omega
theorem stm_lt {d:Bool}:∀ {n dep:Nat} {l r:List Tok} {s:St},stmtF fmtL d n dep l=.ok s r→r.length < l.length:=by
 intro n dep l r s h
 cases n with
 | zero=>rw [stmtF] at h;cases h
 | succ n =>
  rw [stmtF] at h
  have ha:∀ (q:List Tok) (k:List UInt8),Sf q ((attrsR fmtL q).bnd fun a l=>(wantM [59] l).bnd fun _ l=>Rz.ok (St.mk 3 k [] a []) l):=fun q k=>(attrs_sf (fm:=fmtL) q).bnd fun _ l=>(want_sf _ l).bnd fun _ l=>sf_ok _ l
  split at h
  ·rename_i hc
   have:=(ha _ _).le h;have:=(isT_cons' hc).2;omega
  ·split at h
   ·rename_i hc
    have:=(ha _ _).le h;have:=(isT_cons' hc).2;omega
   ·split at h
    ·rename_i hc
     have:=((name_sf l.tail).bnd fun _ l=>(want_sf _ l).bnd fun _ l=>(val_sf (fm:=fmtL) l).bnd fun _ l=>(want_sf _ l).bnd fun _ l=>sf_ok _ l).le h;have:=(isT_cons' hc).2;omega
    ·split at h
     ·rename_i hc
      have:=((name_sf l.tail).bnd (f:=fun x l=>if isT 5 [123] l=true∧6≤dep then Rz.er 2 l else (wantM [123] l).bnd fun _ l=>(stmtsF fmtL d n (dep+1) l).bnd fun b l=>Rz.ok (St.mk 5 x [] [] b) l) fun x l=>by
       split
       ·exact sf_er _ _
       ·exact (want_sf _ l).bnd fun _ l=>((stm_sf (fm:=fmtL) d n (dep+1) l).2).bnd fun _ l=>sf_ok _ l).le h
      have:=(isT_cons' hc).2;omega
     ·exact chain_lt h
theorem sts_go {d:Bool}{dep:Nat}{D:List St}{m:Nat}{l:List Tok}{x:Rz (List St)}(h:((stmtsF fmtL d m dep l).bnd fun t l=>.ok (D ++ t) l)=x)(hl:l.length < m)(hc:isT 5 [125] l=false):∃ m',m=m'+1∧l.length≤m'∧((stmtF fmtL d m' dep l).bnd fun a l=>(stmtsF fmtL d m' dep l).bnd fun t l=>.ok (D ++ [a] ++ t) l)=x:=by
 obtain ⟨m',rfl⟩:∃ m',m=m'+1:=⟨m - 1,by omega⟩
 refine ⟨m',rfl,by omega,?_⟩
 rw [← h,stmtsF,hc]
 cases hs:stmtF fmtL d m' dep l with
 | er c l1=>rfl
 | ok a l1 =>
  simp only [Bool.false_eq_true,if_false]
  rw [bnd_ok,bnd_ok]
  cases stmtsF fmtL d m' dep l1 with
  | er c l2=>rfl
  | ok t l2=>rw [bnd_ok,bnd_ok,bnd_ok,List.append_assoc];rfl
theorem sts_end {d:Bool}{dep:Nat}{D:List St}{m:Nat}{l:List Tok}{x:Rz (List St)}(h:((stmtsF fmtL d m dep l).bnd fun t l=>.ok (D ++ t) l)=x)(hl:l.length < m)(hc:isT 5 [125] l=true):.ok D l.tail=x:=by
 obtain ⟨m',rfl⟩:∃ m',m=m'+1:=⟨m - 1,by omega⟩
 rw [← h,stmtsF,if_pos hc,bnd_ok,List.append_nil]
set_option maxRecDepth 100000 in
set_option maxHeartbeats 8000000 in
theorem body_step (L:List Tok)(hL:Hid (TokL L))(R:Nat)(d:Bool)(A:ByteArray)(n:Nat)(ih:Hid (∀ m,m < n→StOk L R d A m)):BdOk L R d A n:=by
 intro l dep x w hln hdep h hx
 have HRl:=Lh h.out.lt
 have HLl:Hid (l.length≤16384):=Lh (Nat.le_trans (List.IsSuffix.length_le h.out.suf) hL.out.1)
 have HLn:=Lh hln
 have HD:=Lh hdep
 obtain ⟨lev,hlev⟩:∃ lev:Int,(dep:Int)=lev:=⟨_,rfl⟩
 have HLv:=Lh hlev
 rw [hlev] at h ⊢
 clear hln hdep hlev
 go_enter Tryz.func116,Tryz.ntmps116
 go_wp2_with fail
 refine (expect_mk L hL R l A lev [123] _ _ _ rfl h (by decide) (Lh rfl)).mono ?_
 rintro e w1 ⟨hp1,hx1⟩
 cases hn:wantM [123] l with
 | er c l1 =>
  rw [hn] at hx1
  obtain rfl:=hx1
  exact ⟨rfl,Out.pn (by rw [← hx.out];unfold bodyR;rw [hn];rfl) hp1⟩
 | ok u l1 =>
  rw [hn] at hx1
  obtain ⟨v1,rfl,rfl,hr1⟩:=hx1
  have HR1:=Lh hr1
  have HP1:=Lh hp1
  have HX1:Hid (((stmtsF fmtL d n dep l1).bnd fun t l=>.ok ([] ++ t) l)=x):=Lh (by rw [← hx.out];unfold bodyR;rw [hn,bnd_ok];cases stmtsF fmtL d n dep l1 <;> rfl)
  have hb:isT 5 [123] l=true∧l1=l.tail:=by
   unfold wantM at hn
   split at hn
   ·rename_i hc;cases hn;exact ⟨hc,rfl⟩
   ·cases hn
  have HLl1:Hid (l1.length < n∧l1.length≤16384):=Lh (by have:=(isT_cons' hb.1).2;have:=HLn.out;have:=HLl.out;rw [hb.2];omega)
  have HD6:Hid (dep≤6):=Lh (by
   rcases HD.out with q | q
   ·exact q
   ·rw [hb.1] at q;cases q)
  have HZ1:Hid (w.heap.size≤w1.heap.size):=Lh hp1.size
  have HO1:Hid (w1.ownsRow w.heap.size 67 5 (.slice none 0 0) 0 []):=Lh ⟨rfl,Or.inl ⟨rfl,rfl⟩⟩
  clear hn hr1 hp1 hb
  go_wp2_with fail
  go_loopw [3] (fun lv wr=>∃ (D:List Sv) (m:Nat) (lc:List Tok),((stmtsF fmtL d m dep lc).bnd fun t l=>.ok (D.map Sv.s ++ t) l)=x∧lc.length < m∧m≤n∧D.length+lc.length≤16385∧wr.ownsRow w.heap.size 67 5 lv D.length (D.flatMap svC)∧(∀ y∈D,elS w.heap.size wr lv.ownBlock y)∧Rd L R wr lc A lev∧Pk R w wr) (fun lv _=>20000 - lenV lv)
  case atStart=>exact ⟨[],n,l1,HX1.out,HLl1.out.1,Nat.le_refl _,by have:=HLl1.out.2;simp;omega,HO1.out,fun _ hy=>(by cases hy),HR1.out,HP1.out⟩
  case round =>
   obtain ⟨D,m,lc,hx',hm,hmn,hn',ho,hd,hr,hp⟩:=hrel
   rename World=>wr
   obtain ⟨o1,c1,rfl,-,-⟩:=own_form ho
   have HX':=Lh hx'
   have HM:=Lh hm
   have HMn:=Lh hmn
   have HN':=Lh hn'
   have HO:=Lh ho
   have HDe:=Lh hd
   have HR:=Lh hr
   have HP:=Lh hp
   clear hx' hm hmn hn' ho hd hr hp
   cases hc2:isT 5 [125] lc with
   | false =>
    obtain ⟨m',rfl,hm',hx2⟩:=sts_go HX'.out HM.out hc2
    have HC2:=Lh hc2
    have HM':=Lh hm'
    have HX2:=Lh hx2
    clear hc2 hm' hx2
    go_wp2_with fail
    refine (accept_mk L hL R lc lc A lev [125] _ false _ rfl HR (by decide) HC2 (Lh rfl)).mono ?_
    rintro e w5 ⟨rfl,hr5,hp5⟩
    have HR5:=Lh hr5
    have HP5:=Lh (HP.out.trans hp5)
    have HO5:=Lh (hp5.own HRl.out HO.out)
    have HDe5:Hid (∀ y∈D,elS w.heap.size w5 (Value.slice o1 D.length c1).ownBlock y):=Lh (fun y hy=>(HDe.out y hy).later hp5 HRl.out)
    clear hr5 hp5
    go_wp2_with fail
    have HCs:=Lh (ih.out m' (by have:=HMn.out;omega) lc dep _ w5 HM'.out HD6.out (by rw [HLv.out];exact HR5) (Lh rfl))
    rw [HLv.out] at HCs
    refine HCs.out.mono ?_
    rintro e w6 ⟨hp6,hx6⟩
    have HP6:=Lh (HP5.out.trans hp6)
    have HO6:=Lh (hp6.own HRl.out HO5.out)
    cases hn6:stmtF fmtL d m' dep lc with
    | er c l6 =>
     rw [hn6] at hx6
     obtain rfl:=hx6
     exact ⟨rfl,Out.pn (by rw [← HX2.out,hn6];rfl) HP6.out⟩
    | ok y l6 =>
     rw [hn6] at hx6
     obtain ⟨v6,rfl,⟨ro,rc,ao,ac,bo,bc,rfl,hsv⟩,hr6⟩:=hx6
     have hl6:=stm_lt hn6
     have HX6:Hid (((stmtsF fmtL d m' dep l6).bnd fun t l=>.ok (D.map Sv.s ++ [y] ++ t) l)=x):=Lh (by rw [← HX2.out,hn6];rfl)
     have HR6:=Lh hr6
     have HSv:=Lh hsv
     have HL6:Hid (l6.length < m'∧m'≤n∧(D.length+1)+l6.length≤16385):=Lh (by
      have:=HM'.out;have:=HN'.out;have:=HMn.out;omega)
     have hdl:D.length≤1000000:=by have:=HN'.out;omega
     have hgb:w.heap.size≤w6.heap.size:=HP6.out.size
     have HDe6:Hid (∀ y∈D,elS w.heap.size w6 (Value.slice o1 D.length c1).ownBlock y):=Lh (fun y hy=>(HDe5.out y hy).later hp6 HRl.out)
     have hz56:=hp6.size
     have HZ5:Hid (w.heap.size≤w5.heap.size∧w5.heap.size≤w6.heap.size):=Lh ⟨HP5.out.size,hp6.size⟩
     have HNo:Hid (∀ q,(Value.slice o1 D.length c1).ownBlock=some q→¬ (w5.heap.size≤q∧q < w6.heap.size)):=Lh (fun q hq e=>by have:=(World.ownsRow.lt HO5.out q hq).2;omega)
     obtain ⟨N,hN⟩:∃ N,bb y.name=N:=⟨_,rfl⟩
     rw [hN]
     have HN:=Lh hN
     clear hr6 hp6 hn6 hl6 hsv hz56 hN
     go_wp2_with (at_builtin;refine app_st rfl (.tmp 9) (.tmp 12) rfl w.heap.size _ D ⟨y,.slice ro y.refs.length rc,.slice ao y.attrs.length ac,.slice bo y.body.length bc⟩ y.kind N _ _ _ (by unfold svC;rw [HN.out]) w6.heap.size rfl rfl rfl HO6 hdl hgb ⟨rfl,rfl,rfl⟩ ?_;intro g7 c7 w7 own7 grow7 hat7;have HO7:=Lh own7;have HG7:=Lh grow7;have HAt:=Lh hat7;clear own7 grow7 hat7)
     have hrow:∀ q,(Value.slice o1 D.length c1).ownBlock=some q→w.heap.size≤q:=fun q hq=>(World.ownsRow.lt HO6.out q hq).1
     have HR7:=Lh (HR6.out.grown HG7.out (fun q hq=>by have:=hrow q hq;have:=HRl.out;omega))
     have HP7:=Lh (HP6.out.grown HG7.out hrow)
     clear hrow hgb
     go_roundw
     case rel=>exact ⟨D ++ [⟨y,.slice ro y.refs.length rc,.slice ao y.attrs.length ac,.slice bo y.body.length bc⟩],m',l6,by rw [List.map_append];exact HX6.out,HL6.out.1,HL6.out.2.1,by rw [List.length_append];exact HL6.out.2.2,by have:=HO7.out;rw [List.length_append] at this ⊢;exact this,fun q hq=>by
      refine elS.app (ob:=(Value.slice o1 D.length c1).ownBlock) (w:=w6) ?_ HG7.out HAt.out HG7.out.size
      rcases List.mem_append.1 hq with hq | hq
      ·exact HDe6.out q hq
      ·obtain rfl:q=⟨y,.slice ro y.refs.length rc,.slice ao y.attrs.length ac,.slice bo y.body.length bc⟩:=by simpa using hq
       exact ⟨w5.heap.size,w6.heap.size,HZ5.out.1,Nat.le_refl _,HNo.out,HSv.out⟩,HR7.out,HP7.out⟩
     case measure=>simp only [lenV];have:=HN'.out;omega
   | true =>
    have HX2:=Lh (sts_end HX'.out HM.out hc2)
    have HC2:=Lh hc2
    clear hc2
    go_wp2_with fail
    refine (accept_mk L hL R lc lc.tail A lev [125] _ true _ rfl HR (by decide) HC2 (Lh rfl)).mono ?_
    rintro e w5 ⟨rfl,hr5,hp5⟩
    have HR5:=Lh hr5
    have HP5:=Lh (HP.out.trans hp5)
    have HE:=Lh (row_selfL (hp5.own HRl.out HO.out) (Nat.le_refl _) (fun y hy=>(HDe.out y hy).later hp5 HRl.out))
    clear hr5 hp5
    go_wp2
    go_ret
    exact Out.ok HX2.out HP5.out HE.out HR5.out
def TkP (n:Nat)(t:Tok):Prop:=t.text.length≤n∧(-268435456≤t.num∧t.num≤268435456)∧(t.kind=2→isKw t.text=true)∧(t.kind=5→isMk t.text=true)
theorem one_tkp {l:List UInt8}(hl:l≠[])(h:(oneL prL l).2.2=0):TkP l.length (oneL prL l).1:=by
 refine ⟨(oneL_len prL l hl h).2.2,?_⟩
 have mk:∀ (k:Int) (x:List UInt8) (n:Int),(-268435456≤n∧n≤268435456)→(k=2→isKw x=true)→(k=5→isMk x=true)→(-268435456≤(⟨k,x,n,0⟩:Tok).num∧(⟨k,x,n,0⟩:Tok).num≤268435456)∧((⟨k,x,n,0⟩:Tok).kind=2→isKw (⟨k,x,n,0⟩:Tok).text=true)∧((⟨k,x,n,0⟩:Tok).kind=5→isMk (⟨k,x,n,0⟩:Tok).text=true):=fun k x n h1 h2 h3=>⟨h1,h2,h3⟩
 unfold oneL at h ⊢
 by_cases h1:0 < wordLen l
 ·rw [if_pos h1] at h ⊢
  by_cases h2:isKw (l.take (wordLen l))=true
  ·rw [if_pos h2];exact mk 2 _ 0 (by decide) (fun _=>h2) (fun e=>absurd e (by decide))
  ·rw [if_neg h2] at h ⊢
   by_cases h3:16 < wordLen l
   ·rw [if_pos h3] at h;simp at h
   ·rw [if_neg h3];exact mk 1 _ 0 (by decide) (fun e=>absurd e (by decide)) (fun e=>absurd e (by decide))
 ·rw [if_neg h1] at h ⊢
  by_cases h2:0 < numLen l
  ·rw [if_pos h2] at h ⊢
   exact mk 3 _ _ (prL_range _ h) (fun e=>absurd e (by decide)) (fun e=>absurd e (by decide))
  ·rw [if_neg h2] at h ⊢
   by_cases h3:l.head?=some 34
   ·rw [if_pos h3];exact mk 4 _ 0 (by decide) (fun e=>absurd e (by decide)) (fun e=>absurd e (by decide))
   ·rw [if_neg h3] at h ⊢
    by_cases h4:1 < l.length∧isMk (l.take 2)=true
    ·rw [if_pos h4];exact mk 5 _ 0 (by decide) (fun e=>absurd e (by decide)) (fun _=>h4.2)
    ·rw [if_neg h4] at h ⊢
     by_cases h5:isMk (l.take 1)=true
     ·rw [if_pos h5];exact mk 5 _ 0 (by decide) (fun e=>absurd e (by decide)) (fun _=>h5)
     ·rw [if_neg h5] at h;simp at h
theorem TkP.up {n m:Nat}{t:Tok}(h:TkP n t)(hm:n≤m):TkP m t:=⟨Nat.le_trans h.1 hm,h.2⟩
theorem tkz_tkp:∀ (m:Nat) (l:List UInt8) (line:Int) (com:Bool),l.length≤m→∀ t∈(tkz prL l line com).1,TkP l.length t:=by
 intro m
 induction m with
 | zero =>
  intro l line com hm
  have:l=[]:=List.length_eq_zero_iff.1 (by omega)
  subst this
  rw [tkz_nil];exact fun t ht=>nomatch ht
 | succ m ih =>
  intro l line com hm
  cases l with
  | nil=>rw [tkz_nil];exact fun t ht=>nomatch ht
  | cons c t =>
   simp only [List.length_cons] at hm
   by_cases h1:c.toNat=10
   ·rw [tkz_lf prL c t _ com h1];exact fun u hu=>(ih t (line+1) false (by omega) u hu).up (by simp)
   ·by_cases h2:(com || isBl c)=true
    ·rw [tkz_skip prL c t _ com h1 h2];exact fun u hu=>(ih t line (com || decide (c.toNat=35)) (by omega) u hu).up (by simp)
    ·simp only [Bool.or_eq_true,not_or,Bool.not_eq_true] at h2
     obtain ⟨rfl,h3⟩:=h2
     by_cases he:(oneL prL (c :: t)).2.2=0
     ·have hn:=(oneL_len prL (c :: t) (by simp) he).1
      have hd:((c :: t).drop (oneL prL (c :: t)).2.1).length≤t.length:=by simp only [List.length_drop,List.length_cons];omega
      have hi:=ih ((c :: t).drop (oneL prL (c :: t)).2.1) line false (by omega)
      have ho:=one_tkp (l:=c :: t) (by simp) he
      rw [tkz_tok prL c t _ h1 h3 he]
      unfold comb
      split
      ·exact fun t ht=>nomatch ht
      ·intro u hu
       rcases List.mem_cons.1 hu with rfl | hu
       ·exact ho
       ·exact (hi u hu).up (by simp only [List.length_cons];omega)
     ·rw [tkz_err prL c t _ h1 h3 he];exact fun t ht=>nomatch ht
theorem tokL_of {s:List UInt8}{L:List Tok}{n e:Int}(h:tokE s=(L,n,e)):TokL L:=by
 unfold tokE at h
 split at h
 ·cases h;exact ⟨Nat.zero_le _,fun t ht=>nomatch ht⟩
 ·rename_i hs
  have h1:=tkz_count prL s.length s 1 false (Nat.le_refl _)
  have h2:=tkz_tkp s.length s 1 false (Nat.le_refl _)
  rw [h] at h1 h2
  simp only at h1 h2
  exact ⟨by omega,fun t ht=>by
   obtain ⟨q1,⟨q2,q3⟩,q4,q5⟩:=h2 t ht
   exact ⟨by omega,by omega,by omega,q4,q5⟩⟩
def Bare:Rz St→Prop
 | .ok s _=>s.body=[]
 | .er _ _=>True
theorem Bare.bnd {α:Type}{x:Rz α}{f:α→List Tok→Rz St}(hf:∀ a r,Bare (f a r)):Bare (x.bnd f):=by
 cases x with
 | ok a r=>exact hf a r
 | er e r=>trivial
theorem chain_bare (d:Bool)(l:List Tok):Bare (chainR fmtL d l):=by
 rw [chain_eq]
 have ht:∀ (k:List Pr→St) (q:List Tok),(∀ a,(k a).body=[])→Bare (tailR k q):=fun k q hk=>Bare.bnd fun a _=>Bare.bnd fun _ _=>hk a
 refine Bare.bnd fun f l=>?_
 split
 ·exact Bare.bnd fun rs l=>ht _ _ fun _=>rfl
 ·exact ht _ _ fun _=>rfl
theorem bare_ok (s:St)(r:List Tok)(h:s.body=[]):Bare (.ok s r):=h
theorem stm_cnt {d:Bool}:∀ n dep:Nat,(∀ {l r:List Tok} {s:St},stmtF fmtL d n dep l=.ok s r→cnt [s]+r.length≤l.length)∧(∀ {l r:List Tok} {b:List St},stmtsF fmtL d n dep l=.ok b r→cnt b+r.length≤l.length):=by
 intro n
 induction n with
 | zero =>
  intro dep
  exact ⟨fun {l r s} h=>(by rw [stmtF] at h;cases h),fun {l r b} h=>(by rw [stmtsF] at h;cases h)⟩
 | succ n ih =>
  intro dep
  refine ⟨fun {l r s} h=>?_,fun {l r b} h=>?_⟩
  ·have hlt:=stm_lt h
   have key:∀ {x:Rz St},Bare x→x=.ok s r→cnt [s]+r.length≤l.length:=fun hb e=>by
    rw [e] at hb
    rw [cnt_cons,show s.body=[] from hb,cnt_nil]
    omega
   rw [stmtF] at h
   split at h
   ·exact key (Bare.bnd fun _ _=>Bare.bnd fun _ _=>bare_ok _ _ rfl) h
   ·split at h
    ·exact key (Bare.bnd fun _ _=>Bare.bnd fun _ _=>bare_ok _ _ rfl) h
    ·split at h
     ·exact key (Bare.bnd fun _ _=>Bare.bnd fun _ _=>Bare.bnd fun _ _=>Bare.bnd fun _ _=>bare_ok _ _ rfl) h
     ·split at h
      ·rename_i hc
       have htl:=(isT_cons' hc).2
       cases hn:nameR l.tail with
       | er c l1=>rw [hn] at h;cases h
       | ok k l1 =>
        rw [hn,bnd_ok] at h
        have h1:=name_lt hn
        split at h
        ·cases h
        ·cases hw:wantM [123] l1 with
         | er c l2=>rw [hw] at h;cases h
         | ok u l2 =>
          rw [hw,bnd_ok] at h
          have h2:=(want_sf [123] l1).le hw
          cases hs:stmtsF fmtL d n (dep+1) l2 with
          | er c l3=>rw [hs] at h;cases h
          | ok b l3 =>
           rw [hs,bnd_ok] at h
           cases h
           have h3:=(ih (dep+1)).2 hs
           rw [cnt_cons,cnt_nil]
           show 1+cnt b+0+_≤_
           omega
      ·exact key (chain_bare d l) h
  ·rw [stmtsF] at h
   split at h
   ·cases h;rw [cnt_nil,List.length_tail];omega
   ·cases hs:stmtF fmtL d n dep l with
    | er c l1=>rw [hs] at h;cases h
    | ok a l1 =>
     rw [hs,bnd_ok] at h
     have h1:=(ih dep).1 hs
     cases ht:stmtsF fmtL d n dep l1 with
     | er c l2=>rw [ht] at h;cases h
     | ok t l2 =>
      rw [ht,bnd_ok] at h
      cases h
      have h2:=(ih dep).2 ht
      rw [cnt_cons,cnt_nil] at h1
      rw [cnt_cons]
      omega
theorem tree_cnt {l r:List Tok}{T:Tr}(h:treeR fmtL l=.ok T r):cnt T.body≤l.length:=by
 unfold treeR at h
 split at h
 ·cases hn:nameR l.tail with
  | er c l1=>rw [hn] at h;cases h
  | ok k l1 =>
   rw [hn,bnd_ok] at h
   have h1:=name_lt hn
   cases hw:wantM [123] l1 with
   | er c l2=>rw [hw] at h;cases h
   | ok u l2 =>
    rw [hw,bnd_ok] at h
    have h2:=(want_sf [123] l1).le hw
    cases hs:stmtsF fmtL (isT 2 (wDir true) l) (l2.length+1) 0 l2 with
    | er c l3=>rw [hs] at h;cases h
    | ok b l3 =>
     rw [hs,bnd_ok] at h
     cases h
     have h3:=(stm_cnt _ _).2 hs
     have:=List.length_tail (l:=l)
     show cnt b≤_
     omega
 ·cases h
theorem below_of_agree {w1 W:World}(h:agree 0 w1.heap.size w1 W):Below w1.heap.size w1 { W with os:=w1.os,tape:=w1.tape,output:=w1.output }:=by
 refine ⟨rfl,rfl,rfl,?_,fun q hq=>h q (Nat.zero_le _) hq⟩
 rcases Nat.eq_zero_or_pos w1.heap.size with h0 | h0
 ·omega
 ·have h1:=h (w1.heap.size - 1) (Nat.zero_le _) (by omega)
  show w1.heap.size≤W.heap.size
  rcases Nat.lt_or_ge (w1.heap.size - 1) W.heap.size with q | q
  ·omega
  ·rw [Array.getElem?_eq_none q,Array.getElem?_eq_getElem (by omega)] at h1;cases h1
theorem tl_agree {w1 W:World}{v:Value}{l:List Tok}(h:agree 0 w1.heap.size w1 W)(ht:Tl w1 v l):Tl W v l:=by
 have h1:=ht.keep (below_of_agree h)
 unfold Tl World.cell? at h1 ⊢
 exact h1
theorem tab_agree {w1 W:World}(h:agree 0 w1.heap.size w1 W)(ht:Tab w1):Tab W:=by
 have h1:=tab_below ht (below_of_agree h)
 unfold Tab Lib.TabIs World.var? at h1 ⊢
 exact h1
set_option maxRecDepth 100000 in
theorem reader_no (s:ByteArray)(L:List Tok)(n k:Int)(w:World)(hs:s.size≤maxLen)(h:Hid (tokE s.data.toList=(L,n,k)))(hk:k≠0) :
    Calls Tryz.prog 52 #[.string s] w fun e w'=>e=.panicked (pan n k)∧Below w.heap.size w w':=by
 have b1:(k != 0)=true:=by rw [bne_iff_ne];exact hk
 have HT:=Lh (tokenize_any s L n k w hs h)
 clear h
 go_enter Tryz.func52,Tryz.ntmps52
 go_wp2_with fail
 refine HT.out.mono ?_
 rintro e w1 ⟨v,rfl,-,hb⟩
 go_wp2
 exact ⟨rfl,rfl,hb⟩
set_option maxRecDepth 100000 in
theorem reader_ok (s:ByteArray)(L:List Tok)(w:World)(hs:s.size≤maxLen)(htb:Hid (Tab w))(h:Hid (tokE s.data.toList=(L,0,0))) :
    Calls Tryz.prog 52 #[.string s] w fun e w'=>∃ R,e=.returned (.pointer (some ⟨R,0,none⟩))∧w.heap.size≤R∧Rd L R w' L ⟨#[]⟩ 0∧Below w.heap.size w w':=by
 have HT:=Lh (tokenize_any s L 0 0 w hs h)
 clear h
 go_enter Tryz.func52,Tryz.ntmps52
 go_wp2_with fail
 refine HT.out.mono ?_
 rintro e w1 ⟨v,rfl,htl,hb⟩
 have HTl:=Lh htl
 obtain ⟨ao,cap,rfl,-,-⟩:=htl
 have HTb:=Lh (tab_below htb.out hb)
 go_wp2
 go_ret
 refine ⟨w1.heap.size,rfl,hb.size,?_,below_keep (al1 ..) hb⟩
 refine ⟨ao,cap,1,blk_new _ _ _,fun W hW=>?_,[],rfl,rfl⟩
 have hW':agree 0 w1.heap.size w1 W:=fun q q1 q2=>by rw [hW q q1 q2];exact heap_alloc_old w1 _ q2
 exact ⟨tl_agree hW' HTl.out,tab_agree hW' HTb.out⟩
theorem add_block (A:Addr)(k:Nat):(A.add k).block=A.block:=by unfold Addr.add;split <;> first | rfl | (subst_vars;rfl)
theorem Rd.res {L:List Tok}{R g:Nat}{w w3:World}{l:List Tok}{A:ByteArray}{lev:Int}(h:Rd L R w l A lev)(hg:g < R)(hc:∀ o k n,w.cell? ⟨g,o,none⟩≠some (.int k n))(hT:∀ W,agree 0 g w W→Tab W)
    (h3:∀ q,q≠g→w3.heap[q]?=w.heap[q]?):Rd L R w3 l A lev:=by
 obtain ⟨ao,cap,ln,h1,h2,hp⟩:=h
 refine ⟨ao,cap,ln,by unfold blk at h1 ⊢;rw [h3 R (by omega)];exact h1,fun W hW=>⟨?_,hT W fun q q1 q2=>by rw [hW q q1 (by omega),h3 q (by omega)]⟩,hp⟩
 obtain ⟨ao',cap',e,hcap,hA⟩:=(h2 w (agree.self _ _ _)).1
 cases e
 refine ⟨ao,cap,rfl,hcap,fun hn=>?_⟩
 obtain ⟨A0,rfl,hC⟩:=hA hn
 have hz:=(hC 0 hn).2.1
 have hb:A0.block≠g:=fun e=>by
  have h4:=(hC 0 hn).2.2.1
  exact hc _ .i64 _ (by rw [add_block,e] at h4;exact h4)
 have hlt:A0.block < R:=by
  rcases Nat.lt_or_ge A0.block R with q | q
  ·exact q
  ·exfalso
   have hs:A0.block < w.heap.size:=by have:=World.block_lt_of_cell? w _ hz;rwa [add_block] at this
   have hT:=(h2 { w with heap:=w.heap.setIfInBounds A0.block (.cells #[] 0 (0,0)) } (fun q' _ hq=>by
    show (w.heap.setIfInBounds A0.block _)[q']?=_
    rw [Array.getElem?_setIfInBounds,if_neg (by omega)])).1
   obtain ⟨ao2,cap2,e2,_,hA2⟩:=hT
   cases e2
   obtain ⟨A1,e1,hA1⟩:=hA2 hn
   cases e1
   have d0:=(hA1 0 hn).2.1
   unfold World.cell? at d0
   have e0:(A0.add (0*4)).block=A0.block:=add_block _ _
   simp only [e0,Array.getElem?_setIfInBounds,if_pos hs,if_true] at d0
   split at d0 <;> simp at d0
 have he:W.heap[A0.block]?=w.heap[A0.block]?:=by rw [hW _ (Nat.zero_le _) hlt,h3 _ hb]
 refine ⟨A0,rfl,fun i hi=>?_⟩
 obtain ⟨c0,c1,c2,c3⟩:=hC i hi
 refine ⟨?_,?_,?_,?_⟩
 ·rw [← c0];exact World.cell?_of_block (by simpa [add_block] using he)
 ·rw [← c1];exact World.cell?_of_block (by simpa [add_block] using he)
 ·rw [← c2];exact World.cell?_of_block (by simpa [add_block] using he)
 ·rw [← c3];exact World.cell?_of_block (by simpa [add_block] using he)
end Go.Proofs.YtgmidodmmlmmeaaGreatDoor.par
