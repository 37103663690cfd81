/-
  The landed code's graph (layer 12) as a plain function, and that it is the reference's. No function of the program is named here; no condition.
  Sizes of what the landed code of layer 12 makes: how many nodes, clusters and chains, and that lists of accepted attributes are short. No function of the program is named here; no condition.
  What setting, attrsKind and attrsError of the landed code of layer 12 answer. Conditions: statements in memory; the library's variable MaxLen holds a number.
  What settings of the landed code of layer 12 returns: the options that statements set, in order. Conditions: statements in memory; an option's statement has an attribute; at most 100000 statements.
-/
import Derived.Test.YtcdoicgbjoikkaaGreatDoorMna
import Derived.Test.YtcdoicgbjoikkaaGreatDoorMch
import Derived.Test.YtcdoicgbjoikkaaGreatDoorMci
namespace Go.Proofs.YtcdoicgbjoikkaaGreatDoor.nor
open lex tre att
theorem parts_ok:∀ (l:List (List UInt8)) (out:List (List UInt8 × Int)),PsOk out→PsOk (partsL l out).1
 | [],out,h=>h
 | s :: t,out,h=>by
  unfold partsL
  split
  ·exact ⟨List.nodup_nil,fun p hp=>by cases hp⟩
  rename_i h1
  split
  ·exact ⟨List.nodup_nil,fun p hp=>by cases hp⟩
  rename_i h2
  split
  ·exact ⟨List.nodup_nil,fun p hp=>by cases hp⟩
  refine parts_ok t _ ⟨?_,fun p hp=>?_⟩
  ·rw [List.map_append,List.nodup_append]
   refine ⟨h.1,by simp,fun a ha b hb=>?_⟩
   simp only [List.map_cons,List.map_nil,List.mem_cons,List.not_mem_nil,or_false] at hb
   subst hb
   intro e
   subst e
   obtain ⟨p,hp,e⟩:=List.mem_map.1 ha
   exact h2 (List.any_eq_true.2 ⟨p,hp,decide_eq_true e⟩)
  ·rcases List.mem_append.1 hp with hp | hp
   ·exact h.2 p hp
   ·rw [List.mem_singleton] at hp
    subst hp
    intro e
    refine h1 ?_
    have e':(partL s).2.1=[]:=e
    unfold partL at e' ⊢
    split at e' <;> rename_i hg
    ·simp
    ·split at e' <;> rename_i hs
     ·simp [hs]
     ·split at e' <;> rename_i hn
      ·simp [hs,hn]
      ·exfalso
       have e2:_=([]:List UInt8):=e'
       simp only at e2
       rw [e2] at hn
       exact hn (by decide)
theorem ports_ok (s:List UInt8):PsOk (portsL s).1:=by
 unfold portsL
 split
 ·exact ⟨List.nodup_nil,fun p hp=>by cases hp⟩
 ·exact parts_ok _ _ ⟨List.nodup_nil,fun p hp=>by cases hp⟩
theorem fin_ps (x:Cl)(l:List Pr):(finN x l).ps=(portsL (getL l wPorts).1).1:=by
 unfold finN
 by_cases h:(getL l wPorts).2=true
 ·rw [if_pos h]
 ·have e:getL l wPorts=([],false):=getL_none (by simpa using h)
  rw [if_neg h,e];rfl
theorem zip_find (n:Nm):∀ (ns:List Cl) (ats:List (List Pr)) (i:Nat),ns.length=ats.length→gra.findG (List.zipWith finN ns ats) n i=nodeI ns n i
 | [],[],_,_=>rfl
 | x :: t,a :: u,i,h=>by
  rw [List.zipWith_cons_cons]
  unfold gra.findG nodeI
  rw [zip_find n t u (i+1) (by simpa using h)]
  rfl
theorem zip_nm:∀ (ns:List Cl) (ats:List (List Pr)),ns.length=ats.length→(List.zipWith finN ns ats).map (·.nm)=ns.map (·.1)
 | [],[],_=>rfl
 | x :: t,a :: u,h=>by
  rw [List.zipWith_cons_cons,List.map_cons,List.map_cons,zip_nm t u (by simpa using h)];rfl
theorem zip_ok {ns:List Cl}{ats:List (List Pr)}(hl:ns.length=ats.length)(hn:(ns.map (·.1)).Nodup):NsOk (List.zipWith finN ns ats):=by
 refine ⟨by rw [zip_nm _ _ hl];exact hn,fun n h=>?_⟩
 obtain ⟨i,hi,e⟩:=List.getElem_of_mem h
 rw [List.getElem_zipWith] at e
 rw [← e,fin_ps]
 exact ports_ok _
theorem chg_len:∀ (l:List (List Pr)) (i:Int) (m:List Pr),(chgA l i m).length=l.length
 | [],_,_=>rfl
 | a :: t,i,m=>by unfold chgA;rw [List.length_cons,chg_len t,List.length_cons]
theorem mentC_len {c:Bs}(h:c.ns.length=c.ats.length)(n:Nm)(p:Pl):(mentC c n p).ns.length=(mentC c n p).ats.length:=by
 unfold mentC
 split
 ·simp [h]
 ·exact h
theorem refsC_len (p:Pl):∀ (l:List Pr) (c:Bs),c.ns.length=c.ats.length→(refsC l c p).1.ns.length=(refsC l c p).1.ats.length
 | [],_,h=>h
 | r :: t,c,h=>by
  unfold refsC
  split
  ·exact h
  ·exact refsC_len p t _ (mentC_len h _ _)
theorem blkC_len:(∀ x:St,∀ (p:Pl) (c:Bs),c.ns.length=c.ats.length→(stmC x p c).1.ns.length=(stmC x p c).1.ats.length) ∧
    ∀ l:List St,∀ (p:Pl) (c:Bs),c.ns.length=c.ats.length→(blkC l p c).1.ns.length=(blkC l p c).1.ats.length:=by
 refine st_ind (fun k n r a b hb p c h=>?_) (fun p c h=>?_) (fun x t hx ht p c h=>?_)
 ·by_cases h1:k=1
  ·subst h1
   rw [stmC_1]
   split
   ·exact h
   ·show (mentC c n p).ns.length=(chgA _ _ _).length
    rw [chg_len];exact mentC_len h _ _
  by_cases h2:k=2
  ·subst h2
   rw [stmC_2]
   split
   ·exact refsC_len p r c h
   ·exact refsC_len p r c h
  by_cases h5:k=5
  ·subst h5
   rw [stmC_5]
   split
   ·exact h
   ·exact hb _ _ h
  ·rw [stmC_n h1 h2 h5];exact h
 ·rw [blkC_nil];exact h
 ·rw [blkC_cons]
  split
  ·exact h
  ·split
   ·exact hx _ _ h
   ·exact ht _ _ (hx _ _ h)
theorem addN_nodup {out:List Nm}(h:out.Nodup)(x:Nm):(addN out x).Nodup:=by
 unfold addN
 split
 ·exact h
 ·rename_i hn
  rw [List.nodup_append]
  refine ⟨h,by simp,fun a ha b hb=>?_⟩
  rw [List.mem_singleton] at hb
  subst hb
  intro e
  subst e
  exact hn (by simpa using ha)
theorem fold_nodup:∀ (l out:List Nm),out.Nodup→(l.foldl addN out).Nodup
 | [],_,h=>h
 | x :: t,_,h=>fold_nodup t _ (addN_nodup h x)
def bs0:Bs:=⟨[],[],[],[]⟩
theorem rel0:Rel bs0 st0:=⟨rfl,rfl,rfl,rfl,rfl,fun x hx=>by cases hx⟩
def ndC' (c:Bs):List gra.Nd:=List.zipWith finN c.ns c.ats
def finC (n:Nm)(d:Bool)(c:Bs):gra.Gr:=⟨n,d,ndC' c,(addC (endN (ndC' c) 0 em0) c.ch []).1,c.cs⟩
def buildC (T:Tr):gra.Gr × Int :=
 if validT T≠0 then (emG,validT T)
 else if (blkC T.body pl0 bs0).2≠0 then (emG,(blkC T.body pl0 bs0).2)
 else if (addC (endN (ndC' (blkC T.body pl0 bs0).1) 0 em0) (blkC T.body pl0 bs0).1.ch []).2=false then (emG,5)
 else if gra.validE (finC T.name T.dir (blkC T.body pl0 bs0).1)≠0 then (emG,gra.validE (finC T.name T.dir (blkC T.body pl0 bs0).1))
 else (finC T.name T.dir (blkC T.body pl0 bs0).1,0)
theorem endsL_len:∀ (is:List Int) (l m:List Pr),(endsL is l m).length≤l.length
 | [],_,_=>by simp [endsL]
 | [_],_,_=>by simp [endsL]
 | _ :: _ :: _,[],_=>by simp [endsL]
 | _ :: _ :: _,[_],_=>by simp [endsL]
 | _ :: b :: t,_ :: q :: u,m=>by
  unfold endsL
  have:=endsL_len (b :: t) (q :: u) m
  simp only [List.length_cons] at this ⊢
  omega
theorem many_es (g:gra.Gr)(h:256 < g.es.length):gra.validE g=2:=by unfold gra.validE;exact if_pos (Or.inr (Or.inl h))
theorem fin_eq {n:Nm}{d:Bool}{c:Bs}{s:Sta}(h:Rel c s)(hl:c.ns.length=c.ats.length)(hn:(c.ns.map (·.1)).Nodup) :
    (addC (endN (ndC' c) 0 em0) c.ch []).2=!noPort (finG n d s)∧(noPort (finG n d s)=false→(finC n d c=finG n d s∨(256 < (finG n d s).es.length∧gra.validE (finC n d c)=2))):=by
 have hk:=zip_ok hl hn
 have hc:∀ x∈c.ch,∀ r∈x.1,0≤gra.findG (ndC' c) r.1 0:=fun x hx r hr=>by unfold ndC';rw [zip_find _ _ _ _ hl];exact h.kn x hx r hr
 have key:(c.ch.flatMap fun x=>endsL (x.1.map fun r=>gra.findG (ndC' c) r.1 0) x.1 x.2)=s.en:=by
  rw [h.en]
  unfold enF ndC'
  congr 1
  funext x
  congr 1
  exact List.map_congr_left fun r _=>zip_find _ _ _ _ hl
 obtain ⟨q1,q2⟩:=add_eq (fun x=>endN_eq x (ndC' c) 0 em0 hk) c.ch [] hc
 rw [key,List.take_nil] at q1 q2
 have hz:List.zipWith finN s.ns s.ats=ndC' c:=by unfold ndC';rw [h.ns,h.ats]
 have hfin:finG n d s=⟨n,d,ndC' c,s.en.map (finE (ndC' c)),c.cs⟩:=by unfold finG;rw [hz,h.cs]
 have hno:noPort (finG n d s)=(s.en.map (finE (ndC' c))).any badE:=by rw [hfin];rfl
 rw [hno]
 refine ⟨q1,fun hf=>?_⟩
 have hes:=q2 (by rw [q1,hf];rfl)
 rw [List.nil_append] at hes
 rw [hfin]
 by_cases hle:(s.en.map (finE (ndC' c))).length≤256
 ·left
  unfold finC
  rw [hes,List.take_of_length_le (by omega)]
 ·right
  refine ⟨Nat.lt_of_not_le hle,many_es _ ?_⟩
  show 256 < (addC (endN (ndC' c) 0 em0) c.ch []).1.length
  rw [hes,List.length_take];omega
theorem build_eq (T:Tr):buildC T=buildT T:=by
 unfold buildC buildT
 by_cases hv:validT T≠0
 ·rw [if_pos hv,if_pos hv]
 rw [if_neg hv,if_neg hv]
 obtain ⟨q1,q2⟩:=blk_rel.2 T.body pl0 bs0 st0 rel0
 rw [q1]
 by_cases he:(blkS T.body pl0 st0).e≠0
 ·rw [if_pos he,if_pos he]
 rw [if_neg he,if_neg he]
 have he':(blkS T.body pl0 st0).e=0:=by simpa using he
 have hr:=q2 he'
 have hl:=blkC_len.2 T.body pl0 bs0 rfl
 have hv':validT T=0:=by simpa using hv
 have hn:((blkC T.body pl0 bs0).1.ns.map (·.1)).Nodup:=by
  rw [← hr.ns,(blk_names.2 T.body pl0 st0 0 ((valid_iff T).1 hv').2.2 he').1]
  exact fold_nodup _ _ List.nodup_nil
 obtain ⟨r1,r2⟩:=fin_eq (n:=T.name) (d:=T.dir) hr hl hn
 rw [r1]
 cases hb:noPort (finG T.name T.dir (blkS T.body pl0 st0)) with
 | true=>rw [if_pos (show (!true)=false from rfl),if_pos rfl]
 | false =>
  rw [if_neg (show ¬ (!false)=false by decide),if_neg (show ¬ false=true by decide)]
  rcases r2 hb with e | ⟨e1,e2⟩
  ·rw [e]
  ·rw [e2,many_es _ e1];rfl
theorem mem_erase' {a x:Nm}:∀ {l:List Nm},x∈l→x≠a→x∈l.erase a
 | [],h,_=>by cases h
 | y :: t,h,hne=>by
  rw [List.erase_cons]
  split
  ·rename_i hy
   rcases List.mem_cons.1 h with rfl | h
   ·exact absurd (by simpa using hy) hne
   ·exact h
  ·rcases List.mem_cons.1 h with rfl | h
   ·exact List.mem_cons_self ..
   ·exact List.mem_cons_of_mem _ (mem_erase' h hne)
theorem nodup_le:∀ {l K:List Nm},l.Nodup→(∀ x∈l,x∈K)→l.length≤K.length
 | [],_,_,_=>Nat.zero_le _
 | a :: t,K,h,hs=>by
  rw [List.nodup_cons] at h
  have ha:=hs a (List.mem_cons_self ..)
  have:=nodup_le (K:=K.erase a) h.2 (fun x hx=>mem_erase' (hs x (List.mem_cons_of_mem _ hx)) (fun e=>h.1 (e ▸ hx)))
  rw [List.length_erase_of_mem ha] at this
  have hp:=List.length_pos_of_mem ha
  rw [List.length_cons];omega
theorem asc_nodup:∀ {l:List Pr},Asc l→(l.map (·.1)).Nodup
 | [],_=>List.nodup_nil
 | x :: t,h=>by
  rw [List.map_cons,List.nodup_cons]
  refine ⟨fun q=>?_,asc_nodup h.2⟩
  obtain ⟨y,hy,e⟩:=List.mem_map.1 q
  have:=h.1 y hy
  rw [e] at this
  exact lt_irr _ this
def keysN:List Nm:=[wLabel,wWidth,wHeight,wPorts,wWeight,wLen,wMode,wNodesep,wRanksep,wMargin,wRounds]
theorem check_key {k:Int}{a:Pr}(h:checkL k a=0):a.1∈keysN:=by
 unfold checkL at h
 split at h
 ·exact absurd h (by decide)
 split at h
 ·exact absurd h (by decide)
 rename_i h2
 unfold knownL ruN ruE ruS at h2
 unfold keysN
 simp only [List.mem_cons,List.not_mem_nil,or_false]
 repeat' (first | (split at h2))
 all_goals first | (exact absurd rfl h2) | simp_all
def Ga (k:Int)(l:List Pr):Prop:=(∀ a∈l,checkL k a=0)∧Asc l
theorem Ga.len {k:Int}{l:List Pr}(h:Ga k l):l.length≤11:=by
 have:=nodup_le (asc_nodup h.2) (K:=keysN) (fun x hx=>by
  obtain ⟨a,ha,e⟩:=List.mem_map.1 hx
  exact e ▸ check_key (h.1 a ha))
 simpa [keysN] using this
theorem Ga.nil (k:Int):Ga k []:=⟨fun a h=>(by cases h),trivial⟩
theorem firC_ok {k:Int}:∀ {l:List Pr},firC k l=0→∀ a∈l,checkL k a=0
 | [],_,a,h=>by cases h
 | x :: t,h,a,ha=>by
  unfold firC at h
  split at h
  ·rename_i hne;exact absurd h hne
  ·rename_i hne
   rcases List.mem_cons.1 ha with rfl | ha
   ·simpa using hne
   ·exact firC_ok h a ha
theorem Ga.merge {k:Int}{l m:List Pr}(h:Ga k l)(hm:firC k m=0):Ga k (mergeL l m) :=
 ⟨fun a ha=>by
  rcases List.mem_append.1 (sort_mem _ a ha) with q | q
  ·exact h.1 a q
  ·exact firC_ok hm a q,merge_asc l m⟩
def okS (s:St):Prop:=(∃ lv,staE s lv=0)∧s.refs.length≤40
def okB (l:List St):Prop:=∀ y∈preL l 0,okS y.1
theorem okB_cons {x:St}{t:List St}(h:okB (x :: t)):okS x∧okB x.body∧okB t:=by
 unfold okB at h ⊢
 rw [preL_cons,preS_eq] at h
 refine ⟨h (x,0) (by simp),fun y hy=>?_,fun y hy=>h y (by simp [hy])⟩
 obtain ⟨lv,hlv⟩:=pre_mem.2 x.body 0 (if x.kind=5 then (0:Int)+1 else 0) y hy
 exact h (y.1,lv) (by simp only [List.cons_append,List.mem_cons,List.mem_append];exact Or.inr (Or.inl hlv))
theorem okB_of {T:Tr}(h:validT T=0)(hr:okL T.body):okB T.body:=fun y hy=>⟨⟨y.2,((valid_iff T).1 h).2.2 y hy⟩,(hr y hy).1⟩
theorem okB_at {l:List St}{i:Nat}(h:okB (l.drop i))(hi:i < l.length):okS l[i]∧okB l[i].body∧okB (l.drop (i+1)):=by
 rw [List.drop_eq_getElem_cons hi] at h
 exact okB_cons h
theorem cnt_at {l:List St}{i:Nat}(hi:i < l.length):cnt (l.drop i)=1+cnt l[i].body+cnt (l.drop (i+1)):=by
 rw [List.drop_eq_getElem_cons hi,cnt_cons]
def sz (s:Bs):Nat:=s.ns.length+s.cs.length+s.ch.length
theorem ment_sz (s:Bs)(n:Nm)(p:Pl):sz (mentC s n p)≤sz s+1:=by
 unfold mentC sz
 split
 ·simp only [List.length_append,List.length_singleton];omega
 ·omega
theorem refs_sz (p:Pl):∀ (l:List Pr) (s:Bs),sz (refsC l s p).1≤sz s+l.length
 | [],s=>Nat.le_refl _
 | r :: t,s=>by
  unfold refsC
  split
  ·show sz s≤_;omega
  ·have h1:=refs_sz p t (mentC s r.1 p)
   have h2:=ment_sz s r.1 p
   rw [List.length_cons];omega
theorem blk_sz:(∀ x:St,∀ (p:Pl) (s:Bs),okS x→okB x.body→sz (stmC x p s).1≤sz s+42*(1+cnt x.body)) ∧
    ∀ l:List St,∀ (p:Pl) (s:Bs),okB l→sz (blkC l p s).1≤sz s+42*cnt l:=by
 refine st_ind (fun k n r a b hb p s ho hk=>?_) (fun p s _=>?_) (fun x t hx ht p s ho=>?_)
 ·have hr:r.length≤40:=ho.2
  simp only [St.body] at hk ⊢
  by_cases h1:k=1
  ·subst h1
   rw [stmC_1]
   split
   ·show sz s≤_;omega
   ·have:=ment_sz s n p
    show sz (mentC s n p)≤_
    omega
  by_cases h2:k=2
  ·subst h2
   rw [stmC_2]
   have:=refs_sz p r s
   split
   ·show sz (refsC r s p).1≤_;omega
   ·unfold sz at this ⊢
    simp only [List.length_append,List.length_singleton];omega
  by_cases h5:k=5
  ·subst h5
   rw [stmC_5]
   split
   ·show sz s≤_;omega
   ·have:=hb ⟨s.cs.length,p.dn,p.de⟩ ⟨s.ns,s.ats,s.cs ++ [(n,p.cl)],s.ch⟩ hk
    have e:sz (⟨s.ns,s.ats,s.cs ++ [(n,p.cl)],s.ch⟩:Bs)=sz s+1:=by unfold sz;simp only [List.length_append,List.length_singleton];omega
    omega
  ·rw [stmC_n h1 h2 h5];show sz s≤_;omega
 ·rw [blkC_nil];show sz s≤_;omega
 ·obtain ⟨o1,o2,o3⟩:=okB_cons ho
  rw [blkC_cons,cnt_cons]
  have q1:=hx (dflt x.kind x.name x.attrs p) s o1 o2
  split
  ·show sz s≤_;omega
  ·split
   ·show sz (stmC _ _ _).1≤_;omega
   ·have q2:=ht (dflt x.kind x.name x.attrs p) (stmC x (dflt x.kind x.name x.attrs p) s).1 o3
    omega
def GaP (p:Pl):Prop:=Ga 1 p.dn∧Ga 2 p.de
def GaS (s:Bs):Prop:=(∀ a∈s.ats,Ga 1 a)∧∀ c∈s.ch,Ga 2 c.2
theorem GaP.dflt {p:Pl}(h:GaP p){k:Int}{n:Nm}{a:List Pr}(he:stE k n a=0)(hk:k=3→n=wNode∨n=wEdge):GaP (dflt k n a p):=by
 unfold nor.dflt
 split
 ·rename_i h3
  subst h3
  unfold stE at he
  rw [if_neg (by decide)] at he
  split
  ·rename_i hn
   subst hn
   rw [if_neg (fun q=>q.elim (fun e=>absurd e (by decide)) (fun e=>absurd e.2 (by decide)))] at he
   exact ⟨h.1.merge he,h.2⟩
  ·rename_i hn
   have hw:n=wEdge:=(hk rfl).resolve_left hn
   rw [if_pos (Or.inr ⟨rfl,hw⟩)] at he
   exact ⟨h.1,h.2.merge he⟩
 ·exact h
theorem GaS.ment {s:Bs}{p:Pl}(h:GaS s)(hp:GaP p)(n:Nm):GaS (mentC s n p):=by
 unfold mentC
 split
 ·refine ⟨fun a ha=>?_,h.2⟩
  rcases List.mem_append.1 ha with q | q
  ·exact h.1 a q
  ·rw [List.mem_singleton] at q;subst q;exact hp.1
 ·exact h
theorem GaS.refs {p:Pl}(hp:GaP p):∀ (l:List Pr) (s:Bs),GaS s→GaS (refsC l s p).1
 | [],_,h=>h
 | r :: t,s,h=>by
  unfold refsC
  split
  ·exact h
  ·exact GaS.refs hp t _ (h.ment hp _)
theorem chg_mem (m:List Pr):∀ (l:List (List Pr)) (i:Int),∀ a∈chgA l i m,a∈l∨∃ b∈l,a=mergeL b m
 | [],_,a,h=>by cases h
 | b :: t,i,a,h=>by
  unfold chgA at h
  rcases List.mem_cons.1 h with e | h
  ·split at e
   ·exact Or.inr ⟨b,List.mem_cons_self ..,e⟩
   ·exact Or.inl (e ▸ List.mem_cons_self ..)
  ·rcases chg_mem m t (i - 1) a h with q | ⟨c,hc,e⟩
   ·exact Or.inl (List.mem_cons_of_mem _ q)
   ·exact Or.inr ⟨c,List.mem_cons_of_mem _ hc,e⟩
theorem GaS.chg {s:Bs}(h:GaS s)(i:Int){m:List Pr}(hm:firC 1 m=0):GaS ⟨s.ns,chgA s.ats i m,s.cs,s.ch⟩ :=
 ⟨fun a ha=>by
  rcases chg_mem m s.ats i a ha with q | ⟨b,hb,rfl⟩
  ·exact h.1 a q
  ·exact (h.1 b hb).merge hm,h.2⟩
theorem stE_1 {n:Nm}{a:List Pr}(h:stE 1 n a=0):firC 1 a=0:=by
 unfold stE at h;rw [if_neg (by decide),if_neg (fun q=>q.elim (fun e=>absurd e (by decide)) (fun e=>absurd e.1 (by decide)))] at h;exact h
theorem stE_2 {n:Nm}{a:List Pr}(h:stE 2 n a=0):firC 2 a=0:=by
 unfold stE at h;rw [if_neg (by decide),if_pos (Or.inl rfl)] at h;exact h
theorem sta_kind3 {s:St}(h:okS s)(hk:s.kind=3):s.name=wNode∨s.name=wEdge:=by
 obtain ⟨⟨lv,h⟩,-⟩:=h
 unfold staE at h
 split at h
 ·rename_i hne;exact absurd h hne
 rename_i hf
 have hf0:fldE s=0:=by simpa using hf
 unfold fldE at hf0
 split at hf0
 ·exact absurd hf0 (by decide)
 split at hf0
 ·exact absurd hf0 (by decide)
 split at hf0
 ·exact absurd hf0 (by decide)
 rename_i q
 by_cases h1:s.name=wNode
 ·exact Or.inl h1
 ·by_cases h2:s.name=wEdge
  ·exact Or.inr h2
  ·exact absurd (Or.inl ⟨hk,h1,h2⟩) q
theorem GaS.chain {s:Bs}(h:GaS s){r a:List Pr}{p:Pl}(hp:GaP p)(ha:firC 2 a=0):GaS ⟨s.ns,s.ats,s.cs,s.ch ++ [(r,mergeL p.de a)]⟩ :=
 ⟨h.1,fun c hc=>by
  rcases List.mem_append.1 hc with q | q
  ·exact h.2 c q
  ·rw [List.mem_singleton] at q;subst q;exact hp.2.merge ha⟩
theorem blk_Ga:(∀ x:St,∀ (p:Pl) (s:Bs),okS x→okB x.body→stE x.kind x.name x.attrs=0→GaP p→GaS s→GaS (stmC x p s).1) ∧
    ∀ l:List St,∀ (p:Pl) (s:Bs),okB l→GaP p→GaS s→GaS (blkC l p s).1:=by
 refine st_ind (fun k n r a b hb p s ho hk he hp hs=>?_) (fun p s _ _ hs=>?_) (fun x t hx ht p s ho hp hs=>?_)
 ·simp only [St.body,St.kind,St.name,St.attrs] at hk he
  by_cases h1:k=1
  ·subst h1
   rw [stmC_1]
   split
   ·exact hs
   ·exact (hs.ment hp n).chg _ (stE_1 he)
  by_cases h2:k=2
  ·subst h2
   rw [stmC_2]
   split
   ·exact GaS.refs hp r s hs
   ·exact (GaS.refs hp r s hs).chain hp (stE_2 he)
  by_cases h5:k=5
  ·subst h5
   rw [stmC_5]
   split
   ·exact hs
   ·exact hb _ _ hk ⟨hp.1,hp.2⟩ ⟨hs.1,hs.2⟩
  ·rw [stmC_n h1 h2 h5];exact hs
 ·rw [blkC_nil];exact hs
 ·obtain ⟨o1,o2,o3⟩:=okB_cons ho
  rw [blkC_cons]
  split
  ·exact hs
  ·rename_i he
   have he':stE x.kind x.name x.attrs=0:=by simpa using he
   have hp':=hp.dflt he' (sta_kind3 o1)
   have q:=hx _ s o1 o2 he' hp' hs
   split
   ·exact q
   ·exact ht _ _ o3 hp' q
theorem firC_drop' {k:Int}{l:List Pr}{i:Nat}(h:i < l.length):firC k (l.drop i)=if checkL k l[i]≠0 then checkL k l[i] else firC k (l.drop (i+1)):=by
 rw [List.drop_eq_getElem_cons h,firC]
theorem blkC_drop {l:List St}{i:Nat}(hi:i < l.length)(p:Pl)(s:Bs):blkC (l.drop i) p s=if stE l[i].kind l[i].name l[i].attrs≠0 then (s,stE l[i].kind l[i].name l[i].attrs) else if (stmC l[i] (dflt l[i].kind l[i].name l[i].attrs p) s).2≠0 then ((stmC l[i] (dflt l[i].kind l[i].name l[i].attrs p) s).1,(stmC l[i] (dflt l[i].kind l[i].name l[i].attrs p) s).2) else blkC (l.drop (i+1)) (dflt l[i].kind l[i].name l[i].attrs p) (stmC l[i] (dflt l[i].kind l[i].name l[i].attrs p) s).1:=by
 rw [List.drop_eq_getElem_cons hi,blkC_cons]
end Go.Proofs.YtcdoicgbjoikkaaGreatDoor.nor
namespace Go.Proofs.YtcdoicgbjoikkaaGreatDoor.nor
open Go.RowKit lex tre att
set_option maxRecDepth 100000 in
set_option maxHeartbeats 4000000 in
theorem setting_of (k:Int)(n:ByteArray)(ro bo:Option Addr)(rn rc bn bc:Nat)(av:Value)(a:Pr)(t:List Pr)(w:World)(h:Hid (Prs w av (a :: t))) :
    Calls Tryz.prog 73 #[.agg #[.int .i64 k,.string n,.slice ro rn rc,av,.slice bo bn bc]] w fun e w'=>e=.returned (.agg #[.string n,.string (bb a.2)])∧Below w.heap.size w w':=by
 have hmx:Tryz.prog.follows .mixedOrders=true:=by kernel_rfl
 obtain ⟨ao,ac,rfl,-,-,hA⟩:=id h.out
 obtain ⟨A,rfl,hat⟩:=hA (by simp)
 have h0:=hat 0 (by simp)
 unfold prAt at h0
 simp only [List.getElem_cons_zero,Nat.zero_mul] at h0
 obtain ⟨-,q1,-⟩:=h0
 obtain ⟨Y,hY⟩:∃ Y,bb a.2=Y:=⟨_,rfl⟩
 obtain ⟨L,hL⟩:∃ L,t.length+1=L:=⟨_,rfl⟩
 have hLp:(0:Int) < (L:Int):=by omega
 have hLn:0 < L:=by omega
 have hA0:A.add 0=A:=by unfold Addr.add;rw [if_pos rfl]
 rw [hA0] at q1
 rw [hY] at q1
 rw [hY]
 simp only [List.length_cons,hL]
 have hB:=al2 w (.cells #[.int .i64 k,.string n,.slice ro rn rc,.slice (some A) L ac,.slice bo bn bc] 56) (.cells #[.string ⟨#[]⟩,.string ⟨#[]⟩] 82)
 have hT:tbx ((w.alloc (.cells #[.int .i64 k,.string n,.slice ro rn rc,.slice (some A) L ac,.slice bo bn bc] 56)).alloc (.cells #[.string ⟨#[]⟩,.string ⟨#[]⟩] 82)) w.heap.size k n (.slice ro rn rc) (.slice (some A) L ac) (.slice bo bn bc):=tbx_keep (tbx_new ..) (al1 ..)
 have hS:sbx ((w.alloc (.cells #[.int .i64 k,.string n,.slice ro rn rc,.slice (some A) L ac,.slice bo bn bc] 56)).alloc (.cells #[.string ⟨#[]⟩,.string ⟨#[]⟩] 82)) (w.heap.size+1) ⟨#[]⟩ ⟨#[]⟩:=by
  have:=sbx_new (w.alloc (.cells #[.int .i64 k,.string n,.slice ro rn rc,.slice (some A) L ac,.slice bo bn bc] 56)) ⟨#[]⟩ ⟨#[]⟩ 82
  rwa [World.size_alloc] at this
 have q1':=cell_later' hB q1
 obtain ⟨W2,hW2⟩:∃ W2,(w.alloc (.cells #[.int .i64 k,.string n,.slice ro rn rc,.slice (some A) L ac,.slice bo bn bc] 56)).alloc (.cells #[.string ⟨#[]⟩,.string ⟨#[]⟩] 82)=W2:=⟨_,rfl⟩
 rw [hW2] at hB hT hS q1'
 have HB:=Lh hB
 have HT:=Lh hT
 have HS:=Lh hS
 have HQ:=Lh q1'
 have HW2:=Lh hW2
 clear hB hT hS q1' q1 hW2 hat hA hY hL h
 go_enter Tryz.func73,Tryz.ntmps73
 go_wp2_with fail
 rw [HW2.out]
 have hBd:=HB.out.drew
 have hTd:=tbx_keep HT.out (Below.refl W2.heap.size W2).drew
 have hSd:sbx W2.drew (w.heap.size+1) ⟨#[]⟩ ⟨#[]⟩:=HS.out
 have hQd:=cell_later' (Below.refl W2.heap.size W2).drew HQ.out
 refine wp_region_still_tail 8 (by kernel_rfl) (by kernel_rfl) ?_
 change wpStill _ _ W2.drew (fun a'=>wpList _ _ _ _ a' W2.drew) _ _
 generalize W2.drew=wd at *
 obtain ⟨t0,t1,t2,t3,t4⟩:=hTd
 obtain ⟨s0,s1,s2,s3⟩:=hSd
 simp only [List.take_succ_cons,List.take_zero,List.drop_succ_cons,List.drop_zero]
 repeat still_step
 refine wpStill_nil ?_
 go_wp2
 have r0:(wd.setCell ⟨w.heap.size+1,0,none⟩ (.string n)).cell? ⟨w.heap.size+1,0,none⟩=some (.string n):=by go_simp
 have r1:((wd.setCell ⟨w.heap.size+1,0,none⟩ (.string n)).setCell ⟨w.heap.size+1,1,none⟩ (.string Y)).cell? ⟨w.heap.size+1,1,none⟩=some (.string Y):=by go_simp
 exact bodyPost_ret (v:=.agg #[.string n,.string Y]) (by simp [results,Tryz.results73,go_sem,r0,r1]) rfl ⟨rfl,(hBd.setCell (by simp) _).setCell (by simp) _⟩
def kindC (k:Int)(n:Nm):Int:=if k≠3 then k else if n=wNode then 1 else 2
theorem kindC_4 {k:Int}{n:Nm}(h:k≠4):kindC k n≠4:=by
 unfold kindC
 split
 ·exact h
 ·split <;> decide
theorem tbx_box (w:World)(k:Int)(n:ByteArray)(ro ao bo:Option Addr)(rn rc an ac bn bc:Nat):Below w.heap.size w (w.alloc (.cells #[.int .i64 k,.string n,.slice ro rn rc,.slice ao an ac,.slice bo bn bc] 56)):=al1 _ _
set_option maxRecDepth 100000 in
set_option maxHeartbeats 1000000 in
theorem akind_of (k:Int)(n:ByteArray)(ro ao bo:Option Addr)(rn rc an ac bn bc:Nat)(R:Int)(w:World)(h:Hid (kindC k n.data.toList=R)) :
    Calls Tryz.prog 96 #[.agg #[.int .i64 k,.string n,.slice ro rn rc,.slice ao an ac,.slice bo bn bc]] w fun e w'=>e=.returned (.int .i64 R)∧Below w.heap.size w w':=by
 have hr:=h.out
 have hal:=tbx_box w k n ro ao bo rn rc an ac bn bc
 unfold kindC at hr
 clear h
 by_cases h3:k=3
 ·rw [if_neg (by simp [h3])] at hr
  have b3:(k != 3)=false:=by simp [h3]
  by_cases hn:n.data.toList=wNode
  ·rw [if_pos hn] at hr
   have b1:(n.toList == ([110,111,100,101]:List UInt8))=true:=str_yes hn
   subst hr
   clear hn h3
   go_enter Tryz.func96,Tryz.ntmps96
   go_wp2
   go_ret
   exact ⟨rfl,hal⟩
  ·rw [if_neg hn] at hr
   have b1:(n.toList == ([110,111,100,101]:List UInt8))=false:=str_no hn
   subst hr
   clear hn h3
   go_enter Tryz.func96,Tryz.ntmps96
   go_wp2
   go_ret
   exact ⟨rfl,hal⟩
 ·rw [if_pos h3] at hr
  have b3:(k != 3)=true:=by simp [h3]
  subst hr
  clear h3
  go_enter Tryz.func96,Tryz.ntmps96
  go_wp2
  go_ret
  exact ⟨rfl,hal⟩
set_option maxRecDepth 100000 in
set_option maxHeartbeats 1000000 in
theorem atterr_n (k:Int)(n:ByteArray)(ro ao bo:Option Addr)(rn rc ac bn bc:Nat)(l:List Pr)(R:Int)(w:World)(hM:Hid (Mx w))(h:Hid (Prs w (.slice ao l.length ac) l))(hS:Hid (Small l))(h4:k≠4)(hR:Hid (firC (kindC k n.data.toList) l=R)) :
    Calls Tryz.prog 54 #[.agg #[.int .i64 k,.string n,.slice ro rn rc,.slice ao l.length ac,.slice bo bn bc]] w fun e w'=>e=.returned (.int .i64 R)∧Below w.heap.size w w':=by
 obtain ⟨ao',cap',e',hc1,hc2,-⟩:=id h.out
 cases e'
 unfold maxLen at hc2
 have hlm:l.length≤9223372036854775807:=by omega
 obtain ⟨K,hK⟩:∃ K,kindC k n.data.toList=K:=⟨_,rfl⟩
 have k4:K≠4:=by rw [← hK];exact kindC_4 h4
 have b4:(K == 4)=false:=by rw [beq_eq_false_iff_ne];exact k4
 have HK:=Lh hK
 have HR:Hid (firC K (l.drop 0)=R):=Lh (by rw [← hK];exact hR.out)
 clear hc1 hc2 hK hR k4 h4
 have hal:=tbx_box w k n ro ao bo rn rc l.length ac bn bc
 have hT:=tbx_new w k n ro ao bo rn rc l.length ac bn bc 56
 have h1:=Lh (h.out.keep hal)
 go_enter Tryz.func54,Tryz.ntmps54
 go_wp2_with fail
 generalize w.alloc (.cells #[.int .i64 k,.string n,.slice ro rn rc,.slice ao l.length ac,.slice bo bn bc] 56)=w1 at *
 have HAL:=Lh hal
 refine (akind_of k n ro ao bo rn rc l.length ac bn bc K w1 HK).mono ?_
 rintro e w2 ⟨rfl,hb2⟩
 have HB2:=Lh (below_keep hb2 hal)
 have hP:=h1.out.keep hb2
 have hM2:=mxh hM HB2.out
 obtain ⟨t0,t1,t2,t3,t4⟩:=tbx_keep hT hb2
 have HP:=Lh hP
 clear hT hal h1 hb2 hP
 go_wp2_with fail
 clear t0 t1 t2 t3 t4
 go_loopw [12] (fun iv wr=>∃ i:Nat,iv=.int .i64 i∧i≤l.length∧Below w.heap.size w wr∧firC K (l.drop i)=R) (fun iv _=>l.length - (intOf iv).toNat)
 case atStart=>exact ⟨0,rfl,Nat.zero_le _,HB2.out,HR.out⟩
 case round =>
  obtain ⟨i,rfl,hi,hbw,hck⟩:=hrel
  rename World=>wr
  have HB:=Lh hbw
  have HCK:=Lh hck
  clear hbw hck HR HB2
  by_cases hlt:i < l.length
  case neg =>
   obtain rfl:i=l.length:=by omega
   have HE:Hid (0=R):=Lh (by have:=HCK.out;rw [List.drop_length] at this;exact this)
   go_wp2
   go_ret
   exact ⟨ret_int HE.out,HB.out⟩
  have hst:=firC_drop' (k:=K) hlt
  rw [HCK.out] at hst
  obtain ⟨A,rfl,c0,c1,-,-⟩:=(h.out.keep HB.out).get hlt
  have hu:=hS.out l[i] (List.getElem_mem hlt)
  obtain ⟨u,hue⟩:∃ u,l[i]=u:=⟨_,rfl⟩
  rw [hue] at c0 c1 hu hst
  obtain ⟨u1,u2⟩:=u
  simp only at c0 c1 hu hst
  obtain ⟨hu1,hu2⟩:=hu
  obtain ⟨ce,hce⟩:∃ n,checkL K (u1,u2)=n:=⟨_,rfl⟩
  have HCE:=Lh hce
  rw [hce] at hst
  have HST:=Lh hst
  have i0:(0:Int)≤(i:Int):=by omega
  have i1:(i:Int) < (l.length:Int):=by omega
  have hal2:=al1 wr (.cells #[.string (bb u1),.string (bb u2)] 82)
  have HB2:=Lh (below_keep hal2 HB.out)
  have hM3:=mxh hM HB2.out
  clear hst hce hue hal2
  go_wp2_with fail
  refine (check10_of K (u1,u2) ce _ hM3 hu1 hu2 HCE).mono ?_
  rintro e w3 ⟨rfl,hb3⟩
  have HB3:=Lh (below_keep hb3 HB2.out)
  clear hb3 HB2 hM3 c0 c1
  by_cases hc0:ce=0
  ·subst hc0
   have hst:=HST.out
   rw [if_neg (by simp)] at hst
   have HN:=Lh hst.symm
   clear hst
   go_wp2
   go_roundw
   case rel=>exact ⟨i+1,by go_num,by omega,HB3.out,HN.out⟩
   case measure=>simp [intOf];omega
  ·have b0:(ce != 0)=true:=by rw [bne_iff_ne];exact hc0
   have HE:Hid (ce=R):=Lh (by have:=HST.out;rw [if_pos hc0] at this;exact this.symm)
   clear hc0
   go_wp2
   go_ret
   exact ⟨ret_int HE.out,HB3.out⟩
set_option maxRecDepth 100000 in
set_option maxHeartbeats 1000000 in
theorem atterr_4 (n:List UInt8)(ro ao bo:Option Addr)(rn rc ac bn bc:Nat)(a:Pr)(R:Int)(w:World)(hM:Hid (Mx w))(h:Hid (Prs w (.slice ao 1 ac) [a]))(hn:n.length≤1000)(ha:a.2.length≤1000)(hR:Hid (checkL 4 (n,a.2)=R)) :
    Calls Tryz.prog 54 #[.agg #[.int .i64 4,.string (bb n),.slice ro rn rc,.slice ao 1 ac,.slice bo bn bc]] w fun e w'=>e=.returned (.int .i64 R)∧Below w.heap.size w w':=by
 have HK:Hid (kindC 4 (bb n).data.toList=4):=Lh rfl
 have hal:=tbx_box w 4 (bb n) ro ao bo rn rc 1 ac bn bc
 have hT:=tbx_new w 4 (bb n) ro ao bo rn rc 1 ac bn bc 56
 have h1:=Lh (h.out.keep hal)
 go_enter Tryz.func54,Tryz.ntmps54
 go_wp2_with fail
 generalize w.alloc (.cells #[.int .i64 4,.string (bb n),.slice ro rn rc,.slice ao 1 ac,.slice bo bn bc] 56)=w1 at *
 refine (akind_of 4 (bb n) ro ao bo rn rc 1 ac bn bc 4 w1 HK).mono ?_
 rintro e w2 ⟨rfl,hb2⟩
 have HB2:=Lh (below_keep hb2 hal)
 have HP:=Lh (h1.out.keep hb2)
 have HT:=Lh (tbx_keep hT hb2)
 obtain ⟨t0,t1,t2,t3,t4⟩:=tbx_keep hT hb2
 clear hT hal h1 hb2
 go_wp2_with fail
 clear t0 t1 t2 t3 t4
 go_loopw [12] (fun iv wr=>∃ i:Nat,iv=.int .i64 i∧i≤1∧Below w2.heap.size w2 wr∧(i=1→R=0)) (fun iv _=>1 - (intOf iv).toNat)
 case atStart=>exact ⟨0,rfl,Nat.zero_le _,Below.refl _ _,fun q=>absurd q (by decide)⟩
 case round =>
  obtain ⟨i,rfl,hi,hbw,hz⟩:=hrel
  rename World=>wr
  have HB:=Lh hbw
  have HZ:=Lh hz
  clear hbw hz
  by_cases hlt:i < 1
  case neg =>
   obtain rfl:i=1:=by omega
   have HE:Hid (0=R):=Lh (HZ.out rfl).symm
   go_wp2
   go_ret
   exact ⟨ret_int HE.out,below_keep HB.out HB2.out⟩
  obtain rfl:i=0:=by omega
  have hP:=HP.out.keep HB.out
  obtain ⟨t0,t1,t2,t3,t4⟩:=tbx_keep HT.out HB.out
  obtain ⟨A,rfl,c0,c1,-,-⟩:=hP.get (show 0 < [a].length from Nat.zero_lt_one)
  rw [List.getElem_cons_zero] at c0 c1
  have hA0:A.add (0*2)=A:=by unfold Addr.add;rw [if_pos (by decide)]
  rw [hA0] at c0 c1
  obtain ⟨a1,a2⟩:=a
  simp only at c0 c1 ha
  have hal2:=al1 wr (.cells #[.string (bb a1),.string (bb a2)] 82)
  have hsb:=sbx_new wr (bb a1) (bb a2) 82
  have hP3:=Lh (hP.keep hal2)
  have hT3:=tbx_keep (tbx_keep HT.out HB.out) hal2
  have HB3:=Lh (below_keep hal2 HB.out)
  have hne:w1.heap.size=w1.heap.size:=rfl
  clear hal2 hP
  obtain ⟨s0,s1,s2,s3⟩:=hsb
  obtain ⟨u0,u1,u2,u3,u4⟩:=hT3
  have i0:(0:Int)≤0:=Int.le_refl _
  have i1:(0:Int) < 1:=by decide
  go_wp2_with fail
  generalize wr.alloc (.cells #[.string (bb a1),.string (bb a2)] 82)=w3 at *
  refine (setting_of 4 (bb n) ro bo rn rc bn bc _ (a1,a2) [] w3 hP3).mono ?_
  rintro e w4 ⟨rfl,hb4⟩
  have HB4:=Lh (below_keep hb4 HB3.out)
  have hM4:=mxh hM (below_keep HB4.out HB2.out)
  have v0:=cell_keep hb4 s0
  have v1:=cell_keep hb4 s1
  have v2:=fr_keep hb4 s0 s2
  have v3:=fr_keep hb4 s1 s3
  have hlow:=HB.out.size
  clear hb4 s0 s1 s2 s3 u0 u1 u2 u3 u4 t0 t1 t2 t3 t4 c0 c1 hP3
  have hB5:Below w2.heap.size w2 ((w4.setCell ⟨wr.heap.size,0,none⟩ (.string (bb n))).setCell ⟨wr.heap.size,1,none⟩ (.string (bb a2))):=(HB4.out.setCell hlow _).setCell hlow _
  have HB5:=Lh hB5
  have hM5:=mxh hM (below_keep hB5 HB2.out)
  clear hB5
  go_wp2_with fail
  refine (check10_of 4 (n,a2) R _ hM5 hn ha hR).mono ?_
  rintro e w6 ⟨rfl,hb6⟩
  have HB6:=Lh (below_keep hb6 HB5.out)
  clear hb6
  by_cases hc0:R=0
  ·subst hc0
   go_wp2
   go_roundw
   case rel=>exact ⟨1,by go_num,by omega,HB6.out,by simp⟩
   case measure=>simp [intOf]
  ·have b0:(R != 0)=true:=by rw [bne_iff_ne];exact hc0
   clear hc0
   go_wp2
   go_ret
   exact ⟨rfl,below_keep HB6.out HB2.out⟩
theorem stE_kind {s:St}(h:okS s)(h4:s.kind≠4):stE s.kind s.name s.attrs=firC (kindC s.kind s.name) s.attrs:=by
 have h3:=sta_kind3 h
 obtain ⟨⟨lv,h⟩,-⟩:=h
 obtain ⟨hk,-,-⟩:=sta_parts h
 unfold stE kindC
 rw [if_neg h4]
 rcases hk with hk | hk | hk | hk | hk
 ·rw [if_neg (by omega),if_pos (by omega),hk]
 ·rw [if_pos (Or.inl hk),if_pos (by omega),hk]
 ·rw [if_neg (show ¬ s.kind≠3 by omega)]
  rcases h3 hk with hn | hn
  ·rw [if_pos hn,if_neg (fun q=>q.elim (fun e=>by omega) (fun e=>by rw [hn] at e;exact absurd e.2 (by decide)))]
  ·rw [if_pos (Or.inr ⟨hk,hn⟩),if_neg (by rw [hn];decide)]
 ·exact absurd hk h4
 ·have ha:s.attrs=[]:=by
    unfold staE at h
    split at h
    ·rename_i hne;exact absurd h hne
    rename_i hf
    have hf0:fldE s=0:=by simpa using hf
    unfold fldE at hf0
    split at hf0
    ·exact absurd hf0 (by decide)
    split at hf0
    ·exact absurd hf0 (by decide)
    rename_i q
    exact List.length_eq_zero_iff.1 (Nat.le_zero.1 (Nat.not_lt.1 fun e=>q (Or.inr (Or.inr (Or.inl ⟨hk,e⟩)))))
  rw [ha]
  split <;> rfl
theorem okS_one {s:St}(h:okS s)(h4:s.kind=4):∃ a,s.attrs=[a]:=by
 obtain ⟨⟨lv,h⟩,-⟩:=h
 unfold staE at h
 split at h
 ·rename_i hne;exact absurd h hne
 rename_i hf
 have hf0:fldE s=0:=by simpa using hf
 unfold fldE at hf0
 split at hf0
 ·exact absurd hf0 (by decide)
 split at hf0
 ·exact absurd hf0 (by decide)
 split at hf0
 ·exact absurd hf0 (by decide)
 split at hf0
 ·exact absurd hf0 (by decide)
 rename_i q
 have h1:s.attrs.length=1:=Decidable.byContradiction fun e=>q ⟨h4,Or.inl e⟩
 match h5:s.attrs,h1 with
 | [a],_=>exact ⟨a,rfl⟩
theorem atterr_of (s:St)(rv av bv:Value)(E:Int)(w:World)(hM:Hid (Mx w))(hR:Hid (∃ l,Prs w rv l))(hA:Hid (Prs w av s.attrs))(hB:Hid (∃ l,Sts w bv l))(ho:Hid (okS s))(hE:Hid (stE s.kind s.name s.attrs=E)) :
    Calls Tryz.prog 54 #[.agg #[.int .i64 s.kind,.string (bb s.name),rv,av,bv]] w fun e w'=>e=.returned (.int .i64 E)∧Below w.heap.size w w':=by
 obtain ⟨rl,ro,rc,rfl,-,-,-⟩:=hR.out
 obtain ⟨bl,bo,bc,rfl,-,-,-⟩:=hB.out
 obtain ⟨ao,ac,rfl,-,-,-⟩:=id hA.out
 have hoo:=ho.out
 obtain ⟨lv,hst⟩:=hoo.1
 obtain ⟨q1,q2,q3,q4⟩:=sta_attrs hst
 by_cases h4:s.kind=4
 ·obtain ⟨a,ha⟩:=okS_one hoo h4
  have e1:E=checkL 4 (s.name,a.2):=by
   rw [← hE.out]
   unfold stE keyL
   rw [if_pos h4,ha]
   show (if checkL 4 (s.name,a.2)≠0 then checkL 4 (s.name,a.2) else 0)=_
   split
   ·rfl
   ·rename_i h;exact (by simpa using h:checkL 4 (s.name,a.2)=0).symm
  have hp:=hA.out
  rw [ha] at hp
  rw [h4,ha]
  exact atterr_4 s.name ro ao bo _ rc ac _ bc a E w hM (Lh hp) (Nat.le_trans (nm_len (q4 ⟨by omega,by omega⟩)) (by decide)) (Nat.le_trans (q1 a (by rw [ha];exact List.mem_cons_self ..)).1 (by decide)) (Lh e1.symm)
 ·refine atterr_n s.kind (bb s.name) ro ao bo _ rc ac _ bc s.attrs E w hM hA (Lh fun a ha=>?_) h4 (Lh ((stE_kind hoo h4).symm.trans hE.out))
  obtain ⟨z1,z2⟩:=q1 a ha
  exact ⟨Nat.le_trans (nm_len (z2 h4)) (by decide),Nat.le_trans z1 (by decide)⟩
def ScOut (w0:World)(D:List Pr)(e:Ending)(w':World):Prop:=∃ v,e=.returned v∧att.Arow w' w0.heap.size v D∧Below w0.heap.size w0 w'
def ScOk (l:List St):Prop:=∀ (w:World) (v:Value),Sts w v l→SetHas l→cnt l≤100000→(∀ r∈optL l,r.1.length≤maxLen∧r.2.length≤maxLen) →
 Calls Tryz.prog 32 #[v] w (ScOut w (optL l))
theorem ScOk.use {l:List St}(h:Hid (ScOk l))(w:World)(v:Value)(hs:Hid (Sts w v l))(hh:Hid (SetHas l))(hn:Hid (cnt l≤100000))(hb:Hid (∀ r∈optL l,r.1.length≤maxLen∧r.2.length≤maxLen)) :
    Calls Tryz.prog 32 #[v] w (ScOut w (optL l)):=h.out w v hs.out hh.out hn.out hb.out
theorem optL_sub {l:List St}{k:Nat}(h:k < l.length):∀ r∈optL l[k].body,r∈optL l:=fun r hr=>by
 have e:l=l.take (k+1) ++ l.drop (k+1):=(List.take_append_drop ..).symm
 have h1:r∈optL (l.take (k+1)):=by rw [optL_take h];exact List.mem_append_right _ (List.mem_append_right _ hr)
 rw [e]
 unfold optL at h1 ⊢
 rw [preL_app,setL_app]
 exact List.mem_append_left _ h1
set_option maxRecDepth 100000 in
set_option maxHeartbeats 1000000 in
theorem sc_step (l:List St)(ih:∀ s∈l,ScOk s.body):ScOk l:=by
 intro w v hs hh hn hbd
 obtain ⟨vo,vc,rfl,hc1,hm1,-⟩:=id hs
 unfold maxLen at hm1
 have hlm:l.length≤9223372036854775807:=by omega
 have IH:=Lh ih
 have HS:=Lh hs
 have HH:=Lh hh
 have HBD:=Lh hbd
 clear hc1 hm1 ih hs hh hbd
 go_enter Tryz.func32,Tryz.ntmps32
 go_wp2_with fail
 go_loopw [3,8] (fun ov iv wr=>∃ (i:Nat) (D:List Pr),iv=.int .i64 i∧i≤l.length∧optL (l.take i)=D∧att.Arow wr w.heap.size ov D∧Below w.heap.size w wr) (fun _ iv _=>l.length - (intOf iv).toNat)
 case atStart=>exact ⟨0,[],rfl,Nat.zero_le _,by simp [optL,setL,preL_nil],World.ownsRow_nil ..,Below.refl _ _⟩
 case round =>
  obtain ⟨i,D,rfl,hi,hD,hrow,hB⟩:=hrel
  rename World=>wr
  obtain ⟨oo,oc,rfl,-,-⟩:=own_form hrow
  have HR:=Lh hrow
  have HB:=Lh hB
  have HD:=Lh hD
  have hsz:=hB.size
  clear hrow hB hD
  by_cases hlt:i < l.length
  case neg =>
   obtain rfl:i=l.length:=by omega
   have HE:Hid (D=optL l):=Lh (by rw [← HD.out,List.take_length])
   go_wp2
   go_ret
   exact ⟨_,rfl,by rw [← HE.out];exact HR.out,HB.out⟩
  have hget:=(HS.out.keep HB.out).get hlt
  have hat:=optL_take hlt
  have hct:=cnt_take hlt
  have hsa:=HH.out.at hlt
  have hih:=IH.out l[i] (List.getElem_mem hlt)
  have hol:=opt_len (l.take i)
  have hsub:=optL_sub hlt
  obtain ⟨s,hs⟩:∃ s,l[i]=s:=⟨_,rfl⟩
  rw [hs] at hget hat hct hsa hih hsub
  obtain ⟨A,rfl,hsA⟩:=hget
  rw [stAt_eq] at hsA
  obtain ⟨q0,q1,-,⟨rv,q2,hrv⟩,⟨av,q3,hav⟩,⟨bv,q4,hbv⟩⟩:=hsA
  obtain ⟨ro,rc,rfl,-,-,-⟩:=id hrv
  obtain ⟨aa,ac,rfl,-,-,-⟩:=id hav
  obtain ⟨bo,bc,rfl,-,-,-⟩:=id hbv
  have HBV0:Hid (Sts w (.slice bo s.body.length bc) s.body):=by
   obtain ⟨A',e',h'⟩:=HS.out.get hlt
   cases e'
   rw [hs,stAt_eq] at h'
   obtain ⟨-,-,-,-,-,bv',q4',hbv'⟩:=h'
   have hq:=cell_keep HB.out q4'
   rw [q4] at hq
   cases hq
   exact Lh hbv'
  have hQ:∀ q,(Value.slice oo D.length oc).ownBlock=some q→q < wr.heap.size:=fun q hq=>(World.ownsRow.lt HR.out q hq).2
  have hDl:D.length=(optL (l.take i)).length:=by rw [HD.out]
  have hct2:cnt (l.take i)+1+cnt s.body≤cnt l:=by rw [← hct.1];exact hct.2
  have hob:=opt_len s.body
  have hDn:D.length+1+(optL s.body).length≤100000:=by omega
  have hcb:cnt s.body≤100000:=by omega
  have HAT:Hid (optL (l.take (i+1))=(D ++ (if s.kind=4 then [keyL s.name s.attrs] else [])) ++ optL s.body):=Lh (by rw [hat,HD.out,List.append_assoc])
  have HIH:=Lh hih
  have HSA:=Lh hsa
  have HHB:=Lh hsa.2
  have HCB:=Lh hcb
  have HBB:Hid (∀ r∈optL s.body,r.1.length≤maxLen∧r.2.length≤maxLen):=Lh (fun r hr=>HBD.out r (hsub r hr))
  have hal:=al1 wr (.cells #[.int .i64 s.kind,.string (bb s.name),.slice ro s.refs.length rc,.slice aa s.attrs.length ac,.slice bo s.body.length bc] 56)
  have hT2:=tbx_new wr s.kind (bb s.name) ro aa bo s.refs.length rc s.attrs.length ac s.body.length bc 56
  have HA2:=Lh (hav.keep hal)
  have HV2:=Lh (hbv.keep hal)
  have HR2:Hid (att.Arow (wr.alloc (.cells #[.int .i64 s.kind,.string (bb s.name),.slice ro s.refs.length rc,.slice aa s.attrs.length ac,.slice bo s.body.length bc] 56)) w.heap.size (.slice oo D.length oc) D):=Lh (Go.Proofs.YtcdoicgbjoikkaaGreatDoor.own_keep HR.out hal)
  have HB2:=Lh (HB.out.alloc hsz (.cells #[.int .i64 s.kind,.string (bb s.name),.slice ro s.refs.length rc,.slice aa s.attrs.length ac,.slice bo s.body.length bc] 56))
  have i0:(0:Int)≤(i:Int):=by omega
  have i1:(i:Int) < (l.length:Int):=by omega
  clear hat hct hsa hih hrv hav hbv hs hsub hDl hal hcb hol hob HR HB HD
  by_cases h4:s.kind=4
  ·have z4:(s.kind == 4)=true:=by rw [beq_iff_eq];exact h4
   obtain ⟨a,t,ha⟩:=List.exists_cons_of_ne_nil (HSA.out.1 h4)
   have hAT:=HAT.out
   rw [if_pos h4] at hAT
   have hky:keyL s.name s.attrs=(s.name,a.2):=by unfold keyL;rw [ha];rfl
   rw [hky] at hAT
   have HAT2:=Lh hAT
   have HA3:Hid (Prs (wr.alloc (.cells #[.int .i64 s.kind,.string (bb s.name),.slice ro s.refs.length rc,.slice aa s.attrs.length ac,.slice bo s.body.length bc] 56)) (.slice aa s.attrs.length ac) (a :: t)):=Lh (by rw [← ha];exact HA2.out)
   have hDl2:(D ++ [(s.name,a.2)]).length=D.length+1:=by simp
   have HDL2:=Lh hDl2
   have hsz1:wr.heap.size < (wr.alloc (.cells #[.int .i64 s.kind,.string (bb s.name),.slice ro s.refs.length rc,.slice aa s.attrs.length ac,.slice bo s.body.length bc] 56)).heap.size:=by simp
   obtain ⟨t0,t1,t2,t3,t4⟩:=id hT2
   have HT2:=Lh hT2
   clear ha hAT hky h4 hT2 hDl2
   go_wp2_with fail
   generalize wr.alloc (.cells #[.int .i64 s.kind,.string (bb s.name),.slice ro s.refs.length rc,.slice aa s.attrs.length ac,.slice bo s.body.length bc] 56)=w1 at *
   clear t0 t1 t2 t3 t4 q0 q1 q2 q3 q4
   refine (setting_of s.kind (bb s.name) ro bo s.refs.length rc s.body.length bc (.slice aa s.attrs.length ac) a t w1 HA3).mono ?_
   rintro e w2 ⟨rfl,hb2⟩
   have HB3:Hid (Below w.heap.size w w2):=Lh (below_keep hb2 HB2.out)
   have HR3:Hid (w2.ownsRow w.heap.size 82 2 (.slice oo D.length oc) D.length (D.flatMap prC)):=Lh (Go.Proofs.YtcdoicgbjoikkaaGreatDoor.own_keep HR2.out hb2)
   have HT3:=Lh (tbx_keep HT2.out hb2)
   have HV3:=Lh (HV2.out.keep hb2)
   have hsz3:=HB3.out.size
   have hsz2:=hb2.size
   clear hb2 HB2 HR2 HT2 HV2
   go_wp2_with (at_builtin;refine app_pr Tryz.underlying54 info_of_cla rfl (.tmp 15) (.tmp 18) rfl w.heap.size _ D (s.name,a.2) w2.heap.size rfl rfl rfl HR3 (by omega) hsz3 ?_;intro ao3 cap3 w3 hrow3 hgrow3;have d4:=hgrow3.cell HT3.out.2.2.2.2 (fun e=>by have:=hQ _ e.symm;simp at this);have HB4:=Lh (HB3.out.grown hgrow3 hsz3 (fun q hq=>(World.ownsRow.lt HR3.out q hq).1));have HR4:=Lh hrow3;clear hgrow3 hrow3)
   have hsz4:=HB4.out.size
   refine (ScOk.use HIH w3 (.slice bo s.body.length bc) (Lh (HBV0.out.keep HB4.out)) HHB HCB HBB).mono ?_
   rintro e w4 ⟨v4,rfl,hr4,hb4⟩
   obtain ⟨ao4,cap4,rfl,-,-⟩:=own_form hr4
   have HP4:=Lh (hr4.prs HBB.out)
   have HB5:=Lh (below_keep hb4 HB4.out)
   have HR5:Hid (w4.ownsRow w.heap.size 82 2 (.slice ao3 (D.length+1) cap3) (D.length+1) ((D ++ [(s.name,a.2)]).flatMap prC)):=Lh (by have h:=Go.Proofs.YtcdoicgbjoikkaaGreatDoor.own_keep HR4.out hb4;rw [HDL2.out] at h;exact h)
   have hsz5:=HB5.out.size
   clear hr4 hb4 HB4 HR4 d4
   go_wp2_with (at_builtin;refine app_prs rfl (.tmp 20) (.tmp 23) rfl w.heap.size _ (D ++ [(s.name,a.2)]) (optL s.body) ao4 cap4 rfl rfl (Lh (by have:=HR5.out;unfold att.Arow;exact (by rw [HDL2.out];exact this))) HP4 (by rw [HDL2.out];omega) hsz5 ?_;intro v6 w6 hrow6 hgr6;obtain ⟨ao6,cap6,rfl,_,_⟩:=own_form hrow6)
   have HB6:=HB5.out.grown hgr6 hsz5 (fun q hq=>(World.ownsRow.lt HR5.out q hq).1)
   go_roundw
   case rel=>exact ⟨i+1,_,by simp,by omega,HAT2.out,by first | exact hrow6 | (have h:=hrow6;have e:(D ++ [(s.name,a.2)] ++ optL s.body).length=D.length+((optL s.body).length+1):=(by rw [List.length_append,List.length_append,List.length_singleton];omega);rw [e] at h;exact h) | (have h:=hrow6;simp only [List.length_append,List.length_cons,List.length_nil,Nat.zero_add] at h ⊢;exact h),HB6⟩
   case measure=>simp [intOf];omega
  ·have z4:(s.kind == 4)=false:=by rw [beq_eq_false_iff_ne];exact h4
   have hAT:=HAT.out
   rw [if_neg h4,List.append_nil] at hAT
   have HAT2:=Lh hAT
   obtain ⟨t0,t1,t2,t3,t4⟩:=id hT2
   clear hAT h4 hT2
   go_wp2_with fail
   generalize wr.alloc (.cells #[.int .i64 s.kind,.string (bb s.name),.slice ro s.refs.length rc,.slice aa s.attrs.length ac,.slice bo s.body.length bc] 56)=w1 at *
   clear t0 t1 t2 t3 t4 q0 q1 q2 q3 q4
   have hsz1:=HB2.out.size
   refine (ScOk.use HIH w1 (.slice bo s.body.length bc) HV2 HHB HCB HBB).mono ?_
   rintro e w4 ⟨v4,rfl,hr4,hb4⟩
   obtain ⟨ao4,cap4,rfl,-,-⟩:=own_form hr4
   have HP4:=Lh (hr4.prs HBB.out)
   have HB5:=Lh (below_keep hb4 HB2.out)
   have HR5:Hid (att.Arow w4 w.heap.size (.slice oo D.length oc) D):=Lh (Go.Proofs.YtcdoicgbjoikkaaGreatDoor.own_keep HR2.out hb4)
   have hsz5:=HB5.out.size
   clear hr4 hb4 HB2 HR2
   go_wp2_with (at_builtin;refine app_prs rfl (.tmp 20) (.tmp 23) rfl w.heap.size _ D (optL s.body) ao4 cap4 rfl rfl HR5 HP4 (by omega) hsz5 ?_;intro v6 w6 hrow6 hgr6;obtain ⟨ao6,cap6,rfl,_,_⟩:=own_form hrow6)
   have HB6:=HB5.out.grown hgr6 hsz5 (fun q hq=>(World.ownsRow.lt HR5.out q hq).1)
   go_roundw
   case rel=>exact ⟨i+1,_,by simp,by omega,HAT2.out,by have h:=hrow6;rw [List.length_append] at h;exact h,HB6⟩
   case measure=>simp [intOf];omega
theorem sc_ok (l:List St):ScOk l:=lst_ind sc_step l
end Go.Proofs.YtcdoicgbjoikkaaGreatDoor.nor
