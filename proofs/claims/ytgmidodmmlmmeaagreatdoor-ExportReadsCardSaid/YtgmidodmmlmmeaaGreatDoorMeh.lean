/-
  The text of the tree that a graph and options are written as is not long (layer 13): its statements have few refs and attributes, and they do not lie deep. No function of the program is named here; conditions as each theorem states them.
  What Text returns, of the reference of layer 13 and of the landed export: the text of the tree, or the error. Conditions: a graph in memory; the table of powers for the landed one.
  The functions normal and few of the statements of layer 13. Condition: a graph in memory for few.
  The example of chapter 13, plain: its tree, and that its text is longer than twenty bytes. No function of the program is named here; no condition.
  What awake of the statements of layer 13 returns. Condition: the table of powers.
-/
import Derived.Test.YtgmidodmmlmmeaaGreatDoorXptCv
import Derived.Test.YtgmidodmmlmmeaaGreatDoorMpf
namespace Go.Proofs.YtgmidodmmlmmeaaGreatDoor.xpt
open Go.RowKit lex tre att nor prt
def Few (s:St):Prop:=s.refs.length≤2∧s.attrs.length≤4
def FewL (l:List St):Prop:=∀ lv,∀ y∈preL l lv,Few y.1
theorem FewL.nil:FewL []:=fun lv y hy=>by rw [preL_nil] at hy;cases hy
theorem FewL.cons {x:St}{t:List St}(h:Few x)(hb:FewL x.body)(ht:FewL t):FewL (x :: t):=fun lv y hy=>by
 rw [preL_cons,preS_eq] at hy
 rcases List.mem_append.1 hy with q | q
 ·rcases List.mem_cons.1 q with rfl | q
  ·exact h
  ·exact hb _ y q
 ·exact ht lv y q
theorem FewL.app {a b:List St}(ha:FewL a)(hb:FewL b):FewL (a ++ b):=fun lv y hy=>by
 rw [preL_app] at hy
 rcases List.mem_append.1 hy with q | q
 ·exact ha lv y q
 ·exact hb lv y q
theorem few_if {P:Prop}[Decidable P]{k v:List UInt8}:FewL (if P then [] else [setS k v]):=by
 by_cases h:P
 ·rw [if_pos h];exact FewL.nil
 ·rw [if_neg h];exact FewL.cons ⟨Nat.zero_le _,by show 1≤4;decide⟩ FewL.nil FewL.nil
theorem few_opts (o:Op'):FewL (optS o):=by
 unfold optS
 exact few_if.app (few_if.app (few_if.app (few_if.app few_if)))
theorem if_one (P:Prop)[Decidable P](a:Pr):(if P then [] else [a]:List Pr).length≤1:=by split <;> simp
theorem few_edges (ns:List gra.Nd):∀ t:List gra.Ed,FewL (t.map (edgeS ns))
 | []=>FewL.nil
 | e :: t=>FewL.cons ⟨by unfold edgeS;exact Nat.le_refl _,by
     show (edgeA e).length≤4
     unfold edgeA
     have:=if_one
     simp only [List.length_append]
     repeat (first | omega | (split <;> simp only [List.length_cons,List.length_nil] at *))⟩ FewL.nil (few_edges ns t)
theorem few_node (x:gra.Nd):Few (nodeS x):=⟨Nat.zero_le _,by
 show (nodeA x).length≤4
 unfold nodeA
 simp only [List.length_append]
 repeat (first | omega | (split <;> simp only [List.length_cons,List.length_nil] at *))⟩
theorem few_blk (g:gra.Gr):∀ (f:Nat) (c:Int) (n k:Nat),FewL (blkW g f c n k).1
 | 0,c,n,k=>by rw [blkW];exact FewL.nil
 | f+1,c,n,k=>by
  have nd:∀ y:gra.Nd,g.ns[n]?=some y→FewL (nodeS y :: (blkW g f c (n+1) k).1):=fun y _ =>
   FewL.cons (few_node y) FewL.nil (few_blk g f c (n+1) k)
  rw [blkW]
  cases h1:g.cs[k]? with
  | none =>
   cases h2:g.ns[n]? with
   | none=>exact FewL.nil
   | some y =>
    simp only
    split
    ·exact nd y h2
    ·exact FewL.nil
  | some x =>
   simp only
   split
   ·exact FewL.cons ⟨Nat.zero_le _,Nat.zero_le _⟩ (few_blk g f k n (k+1)) (few_blk g f c _ _)
   ·cases h2:g.ns[n]? with
    | none=>exact FewL.nil
    | some y =>
     simp only
     split
     ·exact nd y h2
     ·exact FewL.nil
theorem few_tree (g:gra.Gr)(o:Op'):FewL (treeG g o).body:=(few_opts o).app ((few_blk g _ _ _ _).app (few_edges g.ns _))
theorem FewL.ok {l:List St}(h:FewL l):okL l:=fun x hx=>⟨Nat.le_trans (h 0 x hx).1 (by decide),Nat.le_trans (h 0 x hx).2 (by decide)⟩
theorem st_small (d:Bool)(M:Nat):(∀ s:St,∀ (m:Nat) (lv:Int),0≤lv→(∀ x∈preS s lv,staE x.1 x.2=0)→(∀ x∈preS s lv,Few x.1)→m+4*(6 - lv).toNat≤M→(stS prL d m s).length≤(1+cnt s.body)*(2*M+600)) ∧
    ∀ l:List St,∀ (m:Nat) (lv:Int),0≤lv→(∀ x∈preL l lv,staE x.1 x.2=0)→(∀ x∈preL l lv,Few x.1)→m+4*(6 - lv).toNat≤M→(stL prL d m l).length≤cnt l*(2*M+600):=by
 refine st_ind (fun k n r a b hb m lv h0 hs hf0 hm=>?_) (fun m lv _ _ _ _=>by simp [stL]) (fun s t hs ht m lv h0 h1 h2 hm=>?_)
 ·have hv:vS (St.mk k n r a b):=⟨lv,hs⟩
  have hatt:=hv.att
  have hvals:=hv.vals
  have ho:r.length≤2∧a.length≤4:=(hf0 (St.mk k n r a b,lv) (by rw [preS_eq];exact List.mem_cons_self ..):Few (St.mk k n r a b))
  have one:∀ x:Nat,x≤m+590→x≤(1+cnt ([]:List St))*(2*M+600):=fun x hx=>by
   have e:1+cnt ([]:List St)=1:=rfl
   rw [e,Nat.one_mul];omega
  have hh:=hs (St.mk k n r a b,lv) (by rw [preS_eq];exact List.mem_cons_self ..)
  have hf:=hv.form
  generalize hS:St.mk k n r a b=S at hf hv hatt hvals hh ⊢
  cases hf with
  | node n' a' hn hk =>
   cases hS
   have h1:=nm_le hn
   have h2:=aft_len (hatt (by show (1:Int)≠4;decide))
   simp only [St.attrs] at h2
   refine one _ ?_
   simp only [stS,if_true,List.length_append,List.length_replicate,List.length_cons,List.length_nil];omega
  | edge r1 r2 t' a' hr hk =>
   cases hS
   have h1:=refS_len d (l:=r1 :: r2 :: t') hr
   have h2:=aft_len (hatt (by show (2:Int)≠4;decide))
   simp only [St.attrs] at h2
   have h4:=ho.1
   refine one _ ?_
   have e:stS prL d m (.mk 2 [] (r1 :: r2 :: t') a [])=List.replicate m 32 ++ (refS d (r1 :: r2 :: t') ++ (aft prL a ++ [59,10])):=by simp [stS]
   rw [e]
   simp only [List.length_append,List.length_replicate,List.length_cons,List.length_nil] at h1 h4 ⊢;omega
  | dflt n' a' hn hk =>
   cases hS
   have h1:n.length=4:=by rcases hn with rfl | rfl <;> rfl
   have h2:=attS_len (hatt (by show (3:Int)≠4;decide))
   simp only [St.attrs] at h2
   refine one _ ?_
   have e:stS prL d m (.mk 3 n [] a [])=List.replicate m 32 ++ (n ++ 32 :: ((if a.isEmpty then [91,93] else attS prL a) ++ [59,10])):=by simp [stS]
   have h5:(if a.isEmpty then [91,93] else attS prL a:List UInt8).length≤400:=by
    split
    ·simp
    ·omega
   rw [e]
   simp only [List.length_append,List.length_replicate,List.length_cons,List.length_nil];omega
  | sset n' v hn =>
   cases hS
   have h1:=nm_le hn
   have h2:(valS prL v).length≤66:=val_len (hvals ([],v) (by simp [St.attrs])).1
   refine one _ ?_
   have e:stS prL d m (.mk 4 n [] [([],v)] [])=List.replicate m 32 ++ (wSet ++ 32 :: (n ++ 32 :: 61 :: 32 :: (valS prL v ++ [59,10]))):=by simp [stS]
   have h3:wSet.length=3:=rfl
   rw [e]
   simp only [List.length_append,List.length_replicate,List.length_cons,List.length_nil];omega
  | clus n' b' hn =>
   cases hS
   have h1:=nm_le hn
   have hlv:¬ (6:Int)≤lv:=fun e=>by
    unfold staE at hh
    by_cases q:fldE (St.mk 5 n [] [] b)≠0
    ·rw [if_pos q] at hh;exact q hh
    ·rw [if_neg q,if_pos ⟨rfl,e⟩] at hh;cases hh
   have hp:preS (.mk 5 n [] [] b) lv=(.mk 5 n [] [] b,lv) :: preL b (lv+1):=by rw [preS_eq];rfl
   have h2:=hb (m+4) (lv+1) (by omega) (fun x hx=>hs x (by rw [hp];exact List.mem_cons_of_mem _ hx)) (fun x hx=>hf0 x (by rw [hp];exact List.mem_cons_of_mem _ hx)) (by omega)
   have e:stS prL d m (.mk 5 n [] [] b)=List.replicate m 32 ++ (wClu ++ 32 :: (n ++ 32 :: 123 :: 10 :: (stL prL d (m+4) b ++ (List.replicate m 32 ++ [125,10])))):=by simp [stS]
   have h3:wClu.length=7:=rfl
   show _≤(1+cnt b)*(2*M+600)
   rw [e,Nat.add_mul,Nat.one_mul]
   generalize cnt b*(2*M+600)=P at h2 ⊢
   simp only [List.length_append,List.length_replicate,List.length_cons,List.length_nil];omega
 ·have k1:=hs m lv h0 (fun x hx=>h1 x (by rw [preL_cons];exact List.mem_append_left _ hx)) (fun x hx=>h2 x (by rw [preL_cons];exact List.mem_append_left _ hx)) hm
  have k2:=ht m lv h0 (fun x hx=>h1 x (by rw [preL_cons];exact List.mem_append_right _ hx)) (fun x hx=>h2 x (by rw [preL_cons];exact List.mem_append_right _ hx)) hm
  rw [cnt_cons]
  have e:(stL prL d m (s :: t)).length=(stS prL d m s).length+(stL prL d m t).length:=by simp [stL]
  rw [e,Nat.add_mul (1+cnt s.body)]
  omega
theorem prt_tree (g:gra.Gr)(o:Op')(hg:GV g)(h:validT (treeG g o)=0):(prtT prL (treeG g o)).length≤900000:=by
 have hv:=(valid_iff (treeG g o)).1 h
 have h1:=nm_le hv.1
 have h2:=(st_small (treeG g o).dir 28).2 (treeG g o).body 4 0 (Int.le_refl _) hv.2.2 (few_tree g o 0) (by decide)
 have h3:cnt (treeG g o).body*(2*28+600)≤400*(2*28+600):=Nat.mul_le_mul (cnt_tree g o hg) (Nat.le_refl _)
 have h4:(wDir (treeG g o).dir).length≤7:=by unfold wDir;split <;> simp
 unfold prtT
 rw [if_pos h]
 unfold txtT
 simp only [List.length_append,List.length_cons,List.length_nil];omega
end Go.Proofs.YtgmidodmmlmmeaaGreatDoor.xpt
namespace Go.Proofs.YtgmidodmmlmmeaaGreatDoor.xpt
open Go.RowKit Go.Sort lex tre att nor prt
def textE (g:gra.Gr)(o:Op'):List UInt8 × Int :=
 if (treeE g o).2≠0 then ([],(treeE g o).2) else if 16384 < (prtT prL (treeE g o).1).length then ([],2) else (prtT prL (treeE g o).1,0)
theorem tree_zero {g:gra.Gr}{o:Op'}{T:Tr}(h:treeE g o=(T,0)):T=treeG g o∧gra.validE g=0∧okO o=true∧validT (treeG g o)=0:=by
 unfold treeE at h
 split at h
 ·exact absurd (Prod.mk.inj h).2 (by decide)
 ·rename_i q
  split at h
  ·exact absurd (Prod.mk.inj h).2 (by decide)
  ·split at h
   ·rename_i q2
    exact absurd (Prod.mk.inj h).2 q2
   ·rename_i q2
    refine ⟨(Prod.mk.inj h).1.symm,Decidable.byContradiction fun e=>q (Or.inl e),?_,Decidable.byContradiction fun e=>q2 e⟩
    cases e:okO o with
    | true=>rfl
    | false=>exact absurd (Or.inr e) q
set_option maxRecDepth 100000 in
set_option maxHeartbeats 8000000 in
theorem ctext13_of (g:gra.Gr)(o:Op')(gv:Value)(S:ByteArray)(s:List UInt8)(E:Int)(w:World)(h:Hid (gra.GrV w gv g))(htb:Hid (Tab w))(hr:Hid (textE g o=(s,E)))(hS:Hid (bb s=S)) :
    Calls Tryz.prog 13 #[gv,opV o] w fun e w'=>e=.returned (.tuple #[.string S,.int .i64 E])∧Below w.heap.size w w':=by
 have hmx:Tryz.prog.follows .mixedOrders=true:=by kernel_rfl
 obtain ⟨nv,ev,cv,rfl,hgn,hns,hes,hcs⟩:=id h.out
 obtain ⟨no,nc,rfl,-,hnm,-⟩:=id hns
 obtain ⟨eo,ec,rfl,-,-,-⟩:=id hes
 obtain ⟨co,cc,rfl,-,-,-⟩:=id hcs
 clear hns hes hcs hgn hnm
 obtain ⟨Gn,hGn⟩:∃ X,bb g.nm=X:=⟨_,rfl⟩
 have HG:=Lh (show gra.GrV w (.agg #[.string Gn,.bool g.dir,.slice no g.ns.length nc,.slice eo g.es.length ec,.slice co g.cs.length cc]) g by rw [← hGn];exact h.out)
 rw [show gra.bb g.nm=Gn from hGn]
 clear h hGn
 unfold opV
 obtain ⟨T,TE,hT⟩:∃ T TE,treeE g o=(T,TE):=⟨_,_,rfl⟩
 have HT:=Lh hT
 clear hT
 have HK1:=Lh (blk_new w #[.string Gn,.bool g.dir,.slice no g.ns.length nc,.slice eo g.es.length ec,.slice co g.cs.length cc] 26)
 have HB1:=Lh (al1 w (.cells #[.string Gn,.bool g.dir,.slice no g.ns.length nc,.slice eo g.es.length ec,.slice co g.cs.length cc] 26))
 have HQ1:Hid ((w.alloc (.cells #[.string Gn,.bool g.dir,.slice no g.ns.length nc,.slice eo g.es.length ec,.slice co g.cs.length cc] 26)).heap.size=w.heap.size+1):=Lh (by simp)
 go_enter Tryz.func13,Tryz.ntmps13
 go_wp2_with fail
 generalize w.alloc (.cells #[.string Gn,.bool g.dir,.slice no g.ns.length nc,.slice eo g.es.length ec,.slice co g.cs.length cc] 26)=wa at HK1 HB1 HQ1 ⊢
 have hq1:=HQ1.out
 have b2:=al1 wa (.cells #[.int .i64 o.mode,.int .i64 o.ns,.int .i64 o.rs,.int .i64 o.mg,.int .i64 o.rd] 28)
 have q2:(wa.alloc (.cells #[.int .i64 o.mode,.int .i64 o.ns,.int .i64 o.rs,.int .i64 o.mg,.int .i64 o.rd] 28)).heap.size=w.heap.size+2:=by simp;omega
 generalize wa.alloc (.cells #[.int .i64 o.mode,.int .i64 o.ns,.int .i64 o.rs,.int .i64 o.mg,.int .i64 o.rd] 28)=w1 at b2 q2 ⊢
 have hb1:=below_keep b2 HB1.out
 clear b2 HK1 HB1 HQ1 hq1
 obtain ⟨n0,hn0⟩:∃ n0,w.heap.size=n0:=⟨_,rfl⟩
 rw [hn0] at hb1 q2
 try simp only [hn0]
 have HN0:=Lh hn0
 clear hn0
 refine (ctree_of g o _ T TE w1 (Lh (HG.out.keep (show Below w.heap.size w w1 by rw [HN0.out];exact hb1))) (Lh (tab_below htb.out (show Below w.heap.size w w1 by rw [HN0.out];exact hb1))) HT).mono ?_
 rintro e w2 ⟨tv,rfl,htv,hb2⟩
 obtain ⟨bv,rfl,htn,hst⟩:=id htv
 obtain ⟨ao,ac,rfl,-⟩:=id hst
 have HTV:=Lh htv
 have HB2:=Lh (hb1.trans (hb2.mono (by omega)))
 have hz2:=HB2.out.size
 clear hb1 hb2 htv htn hst
 obtain ⟨TN,hTN⟩:∃ X,bb T.name=X:=⟨_,rfl⟩
 rw [hTN] at HTV ⊢
 clear hTN
 have HB3:=Lh (al1 w2 (.cells #[.string TN,.bool T.dir,.slice ao T.body.length ac] 33))
 have HK3:=Lh (blk_new w2 #[.string TN,.bool T.dir,.slice ao T.body.length ac] 33)
 by_cases e0:TE=0
 case neg =>
  have bv:(TE != 0)=true:=by rw [bne_iff_ne];exact e0
  have HE:Hid (s=[]∧E=TE):=Lh (by have:=hr.out;unfold textE at this;rw [HT.out,if_pos (show (T,TE).2≠0 from e0)] at this;exact ⟨(Prod.mk.inj this).1.symm,(Prod.mk.inj this).2.symm⟩)
  have HSS:Hid ((⟨#[]⟩:ByteArray)=S):=Lh (by rw [← hS.out,HE.out.1])
  clear e0
  go_wp2
  obtain ⟨rfl,rfl⟩:=HE.out
  obtain rfl:=HSS.out
  refine bodyPost_ret (v:=.tuple #[.string ⟨#[]⟩,.int .i64 E]) (by simp [results,Tryz.results13,go_sem]) rfl ⟨rfl,by rw [HN0.out];exact HB2.out.trans (HB3.out.mono (by have:=HN0.out;omega))⟩
 have bv:(TE != 0)=false:=by rw [e0];rfl
 subst e0
 obtain ⟨hTT,hv,-,hvt⟩:=tree_zero HT.out
 have hgv:=gv_of hv
 have HC:Hid (cnt T.body≤600):=Lh (by rw [hTT];exact Nat.le_trans (cnt_tree g o hgv) (by decide))
 have HO:Hid (okL T.body):=Lh (by rw [hTT];exact (few_tree g o).ok)
 have hlen:(prtT prL T).length≤900000:=by rw [hTT];exact prt_tree g o hgv hvt
 obtain ⟨P,hP⟩:∃ P,prtT prL T=P:=⟨_,rfl⟩
 have HR:Hid ((if 16384 < P.length then ([],2) else (P,0))=(s,E)):=Lh (by have:=hr.out;unfold textE at this;rw [HT.out,if_neg (fun e=>e rfl)] at this;rw [← hP];exact this)
 rw [hP] at hlen
 obtain ⟨Q,hQ⟩:∃ Q,bb P=Q:=⟨_,rfl⟩
 have hqs:Q.size=P.length:=by rw [← hQ];show P.toArray.size=_;rw [List.size_toArray]
 have HP:Hid (prtT prL T=Q.data.toList):=Lh (by rw [hP,← hQ])
 have HQ:=Lh hQ
 clear hTT hv hvt hgv hP hQ hr HT
 go_wp2_with fail
 refine (cprint_of T _ Q _ (Lh (HTV.out.keep HB3.out)) HC HO HP (by omega)).mono ?_
 rintro e w4 ⟨rfl,hb4⟩
 have HB4:=Lh ((HB2.out.trans (HB3.out.mono (by have:=HN0.out;omega))).trans (hb4.mono (by have:=HB3.out.size;have:=HN0.out;omega)))
 clear hb4 HB3 HK3 HTV
 by_cases hlt:16384 < P.length
 case pos =>
  have HE:Hid (s=[]∧E=2):=Lh (by have:=HR.out;rw [if_pos hlt] at this;exact ⟨(Prod.mk.inj this).1.symm,(Prod.mk.inj this).2.symm⟩)
  have HSS:Hid ((⟨#[]⟩:ByteArray)=S):=Lh (by rw [← hS.out,HE.out.1])
  have bg:decide ((16384:Int) < (P.length:Int))=true:=by rw [decide_eq_true_eq];omega
  clear hlt
  go_wp2
  obtain ⟨rfl,rfl⟩:=HE.out
  obtain rfl:=HSS.out
  refine bodyPost_ret (v:=.tuple #[.string ⟨#[]⟩,.int .i64 2]) (by simp [results,Tryz.results13,go_sem]) rfl ⟨rfl,by rw [HN0.out];exact HB4.out⟩
 have HE:Hid (s=P∧E=0):=Lh (by have:=HR.out;rw [if_neg hlt] at this;exact ⟨(Prod.mk.inj this).1.symm,(Prod.mk.inj this).2.symm⟩)
 have HSS:Hid (Q=S):=Lh (by rw [← hS.out,HE.out.1];exact HQ.out.symm)
 have bg:decide ((16384:Int) < (P.length:Int))=false:=by rw [decide_eq_false_iff_not];omega
 clear hlt
 go_wp2
 obtain ⟨rfl,rfl⟩:=HE.out
 obtain rfl:=HSS.out
 refine bodyPost_ret (v:=.tuple #[.string Q,.int .i64 0]) (by simp [results,Tryz.results13,go_sem]) rfl ⟨rfl,by rw [HN0.out];exact HB4.out⟩
end Go.Proofs.YtgmidodmmlmmeaaGreatDoor.xpt
namespace Go.Proofs.YtgmidodmmlmmeaaGreatDoor.xpt
open Go.RowKit lex tre att nor
def nrmO:Op':=⟨0,10000,20000,5000,8⟩
set_option maxHeartbeats 2000000 in
theorem normal_of (w:World):Calls Tryz.prog 24 #[] w fun e w'=>e=.returned (opV nrmO)∧Below w.heap.size w w':=by
 go_enter Tryz.func24,Tryz.ntmps24
 go_wp2
 refine bodyPost_ret (v:=opV nrmO) (by simp [results,Tryz.results24,go_sem,opV,nrmO]) rfl ⟨rfl,?_⟩
 exact al1 w _
set_option maxRecDepth 100000 in
set_option maxHeartbeats 4000000 in
theorem few_any (g:gra.Gr)(gv:Value)(w:World)(h:Hid (gra.GrV w gv g)) :
    Calls Tryz.prog 8 #[gv] w fun e w'=>(∃ b,e=.returned (.bool b))∧Below w.heap.size w w':=by
 obtain ⟨nv,ev,cv,rfl,-,hns,hes,hcs⟩:=id h.out
 obtain ⟨no,nc,rfl,hn1,hn2,-⟩:=id hns
 obtain ⟨eo,ec,rfl,-,he2,-⟩:=id hes
 obtain ⟨co,cc,rfl,-,hc2,-⟩:=id hcs
 obtain ⟨Gn,hGn⟩:∃ X,bb g.nm=X:=⟨_,rfl⟩
 rw [show gra.bb g.nm=Gn from hGn]
 have HNS:=Lh hns
 have hn:g.ns.length≤maxLen:=by omega
 unfold maxLen at hn hn2
 clear h hns hes hcs he2 hc2 hGn
 have HB1:=Lh (al1 w (.cells #[.string Gn,.bool g.dir,.slice no g.ns.length nc,.slice eo g.es.length ec,.slice co g.cs.length cc] 26))
 have hk1:=blk_new w #[.string Gn,.bool g.dir,.slice no g.ns.length nc,.slice eo g.es.length ec,.slice co g.cs.length cc] 26
 go_enter Tryz.func8,Tryz.ntmps8
 refine seq_mid (fun a W=>a=⟨#[.agg #[.string Gn,.bool g.dir,.slice no g.ns.length nc,.slice eo g.es.length ec,.slice co g.cs.length cc],.pointer (some ⟨w.heap.size,0,none⟩),.bool false,undef,undef,undef,undef,undef,undef,undef,undef,undef,undef,undef,undef,undef,undef,undef,undef,undef,undef,undef,undef,undef,undef,undef,undef,undef,undef,undef,undef,undef,undef,undef,undef],[]⟩∧W=w.alloc (.cells #[.string Gn,.bool g.dir,.slice no g.ns.length nc,.slice eo g.es.length ec,.slice co g.cs.length cc] 26)) ?_ ?_
 ·go_wp2
  try exact ⟨rfl,rfl⟩
 rintro a W ⟨rfl,rfl⟩
 generalize w.alloc (.cells #[.string Gn,.bool g.dir,.slice no g.ns.length nc,.slice eo g.es.length ec,.slice co g.cs.length cc] 26)=w1 at HB1 hk1 ⊢
 have HK1:=Lh hk1
 have c2:w1.cell? ⟨w.heap.size,2,none⟩=some (.slice no g.ns.length nc):=by rw [blk_cell hk1];rfl
 have c3:w1.cell? ⟨w.heap.size,3,none⟩=some (.slice eo g.es.length ec):=by rw [blk_cell hk1];rfl
 have c4:w1.cell? ⟨w.heap.size,4,none⟩=some (.slice co g.cs.length cc):=by rw [blk_cell hk1];rfl
 clear hk1
 by_cases q1:(70:Int) < (g.ns.length:Int)
 case pos =>
  have b1:decide ((70:Int) < (g.ns.length:Int))=true:=decide_eq_true q1
  clear q1
  go_wp2
  refine bodyPost_ret (v:=.bool false) (by simp [results,Tryz.results8,go_sem]) rfl ⟨by first | exact ⟨_,rfl⟩ | simp,HB1.out⟩
 have b1:decide ((70:Int) < (g.ns.length:Int))=false:=decide_eq_false q1
 by_cases q2:(300:Int) < (g.es.length:Int)
 case pos =>
  have b2:decide ((300:Int) < (g.es.length:Int))=true:=decide_eq_true q2
  clear q2
  go_wp2
  refine bodyPost_ret (v:=.bool false) (by simp [results,Tryz.results8,go_sem]) rfl ⟨by first | exact ⟨_,rfl⟩ | simp,HB1.out⟩
 have b2:decide ((300:Int) < (g.es.length:Int))=false:=decide_eq_false q2
 by_cases q3:(20:Int) < (g.cs.length:Int)
 case pos =>
  have b3:decide ((20:Int) < (g.cs.length:Int))=true:=decide_eq_true q3
  clear q3
  go_wp2
  refine bodyPost_ret (v:=.bool false) (by simp [results,Tryz.results8,go_sem]) rfl ⟨by first | exact ⟨_,rfl⟩ | simp,HB1.out⟩
 have b3:decide ((20:Int) < (g.cs.length:Int))=false:=decide_eq_false q3
 go_wp2_with fail
 go_loopw [3] (fun iv wr=>∃ k:Nat,iv=.int .i64 k∧k≤g.ns.length∧wr=w1) (fun iv _=>g.ns.length - (intOf iv).toNat)
 case atStart=>exact ⟨0,rfl,Nat.zero_le _,rfl⟩
 case round =>
  obtain ⟨k,rfl,hk,rfl⟩:=hrel
  by_cases hlt:k < g.ns.length
  case neg =>
   obtain rfl:k=g.ns.length:=by omega
   go_wp2
   refine bodyPost_ret (v:=.bool true) (by simp [results,Tryz.results8,go_sem]) rfl ⟨by first | exact ⟨_,rfl⟩ | simp,HB1.out⟩
  obtain ⟨An,rfl,po,pc,hC,-,-⟩:=nds_c (HNS.out.keep HB1.out) hlt
  obtain ⟨-,-,-,-,-,m5⟩:=hC
  obtain ⟨x,hx⟩:∃ x,g.ns[k].ps.length=x:=⟨_,rfl⟩
  rw [hx] at m5
  clear hx
  have z5:(0:Int)≤(k:Int):=by omega
  have z6:(k:Int) < (g.ns.length:Int):=by omega
  by_cases q:(20:Int) < (x:Int)
  case pos =>
   have b4:decide ((20:Int) < (x:Int))=true:=decide_eq_true q
   clear q
   go_wp2
   refine bodyPost_ret (v:=.bool false) (by simp [results,Tryz.results8,go_sem]) rfl ⟨by first | exact ⟨_,rfl⟩ | simp,HB1.out⟩
  have b4:decide ((20:Int) < (x:Int))=false:=decide_eq_false q
  clear q
  go_wp2
  go_roundw
  case rel=>exact ⟨k+1,by go_num,by omega,by first | rfl | trivial⟩
  case measure=>simp [intOf];omega
end Go.Proofs.YtgmidodmmlmmeaaGreatDoor.xpt
namespace Go.Proofs.YtgmidodmmlmmeaaGreatDoor.xpt
open Go.RowKit lex tre att nor prt
def exA:gra.Gr:=⟨[103],true,[⟨[97],[97],20000,10000,-1,[]⟩,⟨[98],[120],2000,10000,0,[]⟩],[⟨0,1,-1,-1,[],2,1⟩],[([99],-1)]⟩
def exN0:gra.Gr:=⟨[],false,[],[],[]⟩
def exB:List St:=[.mk 1 [97] [] [] [],.mk 5 [99] [] [] [.mk 1 [98] [] [([108,97,98,101,108],[120]),([119,105,100,116,104],[50])] []],.mk 2 [] [([97],[]),([98],[])] [([119,101,105,103,104,116],[50])] []]
theorem exA_tree:treeE exA nrmO=(⟨[103],true,exB⟩,0):=by kernel_rfl
theorem exA_text:(textE exA nrmO).2=0∧20 < (textE exA nrmO).1.length:=by decide +kernel
theorem ex0_tree:treeE exN0 nrmO=(emT,1):=by kernel_rfl
theorem lit_rwX {α:Type}{c:Nat}{P:World→Addr→α→Prop}{f:α→List Value}(hf:∀ x,(f x).length=c){w:World}{l:List α}(hP:∀ (b o:Nat) (x:α),x∈l→(∀ j,j < c→w.cell? ⟨b,o+j,none⟩=(f x)[j]?)→P w ⟨b,o,none⟩ x)
    {g:Nat} {t:TypeId} {arr:Array Value} (h:blk w g t arr) (ha:arr.toList=l.flatMap f) (hl:l.length≤maxLen):gra.Rw c P w (.slice (some ⟨g,0,none⟩) l.length l.length) l:=by
 refine ⟨_,_,rfl,Nat.le_refl _,hl,fun _=>⟨_,rfl,fun i hi=>?_⟩⟩
 rw [gra.add_at,Nat.zero_add]
 refine hP _ _ _ (List.getElem_mem hi) fun j hj=>?_
 rw [blk_cell h,← Array.getElem?_toList,ha,flat_get f c hf l i j hi hj]
def ndX (x:gra.Nd):List Value:=[.string (bb x.nm),.string (bb x.lb),.int .i64 x.w,.int .i64 x.h,.int .i64 x.cl,.slice none 0 0]
def edX (x:gra.Ed):List Value:=[.int .i64 x.fr,.int .i64 x.to,.int .i64 x.fp,.int .i64 x.tp,.string (bb x.lb),.int .i64 x.wt,.int .i64 x.ln]
def ptX (x:gra.Pt):List Value:=[.string (bb x.1),.int .i64 x.2]
def GVX (n0:Nat):Value:=.agg #[.string ⟨#[103]⟩,.bool true,.slice (some ⟨n0,0,none⟩) 2 2,.slice (some ⟨n0+1,0,none⟩) 1 1,.slice (some ⟨n0+1+1,0,none⟩) 1 1]
theorem ex_grv {W:World}{n0:Nat}(bn:blk W n0 59 #[.string ⟨#[97]⟩,.string ⟨#[97]⟩,.int .i64 20000,.int .i64 10000,.int .i64 (-1),.slice none 0 0,.string ⟨#[98]⟩,.string ⟨#[120]⟩,.int .i64 2000,.int .i64 10000,.int .i64 0,.slice none 0 0])(be:blk W (n0+1) 61 #[.int .i64 0,.int .i64 1,.int .i64 (-1),.int .i64 (-1),.string ⟨#[]⟩,.int .i64 2,.int .i64 1])(bc:blk W (n0+1+1) 63 #[.string ⟨#[99]⟩,.int .i64 (-1)]):gra.GrV W (GVX n0) exA:=by
 refine ⟨_,_,_,rfl,by decide,?_,?_,?_⟩
 ·refine lit_rwX (f:=ndX) (l:=exA.ns) (fun _=>rfl) (fun b o x hx hj=>?_) bn rfl (by decide)
  have hps:x.ps=[]∧x.nm.length≤maxLen∧x.lb.length≤maxLen∧(Lit.int .i64 x.w).wf=true∧(Lit.int .i64 x.h).wf=true∧(Lit.int .i64 x.cl).wf=true:=by
   simp only [exA,List.mem_cons,List.not_mem_nil,or_false] at hx
   rcases hx with rfl | rfl <;> exact ⟨rfl,by decide,by decide,by decide,by decide,by decide⟩
  exact ⟨hj 0 (by decide),hj 1 (by decide),hj 2 (by decide),hj 3 (by decide),hj 4 (by decide),⟨_,hj 5 (by decide),by rw [hps.1];exact gra.Rw.nil ..⟩,hps.2⟩
 ·refine lit_rwX (f:=edX) (l:=exA.es) (fun _=>rfl) (fun b o x hx hj=>?_) be rfl (by decide)
  have hps:x.lb.length≤maxLen∧(Lit.int .i64 x.fr).wf=true∧(Lit.int .i64 x.to).wf=true∧(Lit.int .i64 x.fp).wf=true∧(Lit.int .i64 x.tp).wf=true∧(Lit.int .i64 x.wt).wf=true∧(Lit.int .i64 x.ln).wf=true:=by
   simp only [exA,List.mem_cons,List.not_mem_nil,or_false] at hx
   subst hx;exact ⟨by decide,by decide,by decide,by decide,by decide,by decide,by decide⟩
  exact ⟨hj 0 (by decide),hj 1 (by decide),hj 2 (by decide),hj 3 (by decide),hj 4 (by decide),hj 5 (by decide),hj 6 (by decide),hps⟩
 ·refine lit_rwX (f:=ptX) (l:=exA.cs) (fun _=>rfl) (fun b o x hx hj=>?_) bc rfl (by decide)
  have hps:x.1.length≤maxLen∧(Lit.int .i64 x.2).wf=true:=by
   simp only [exA,List.mem_cons,List.not_mem_nil,or_false] at hx
   subst hx;exact ⟨by decide,by decide⟩
  exact ⟨hj 0 (by decide),hj 1 (by decide),hps⟩
theorem ex0_grv (W:World):gra.GrV W (.agg #[.string ⟨#[]⟩,.bool false,.slice none 0 0,.slice none 0 0,.slice none 0 0]) exN0:=⟨_,_,_,rfl,by decide,gra.Rw.nil ..,gra.Rw.nil ..,gra.Rw.nil ..⟩
def ExC (W:World)(A B C:Addr)(bc tc ec:Nat)(eo:Option Addr):Prop :=
 W.cell? ⟨A.block,A.off+5,none⟩=some (.int .i64 5)∧W.cell? ⟨A.block,A.off+9,none⟩=some (.slice (some B) 1 bc)∧W.cell? ⟨B.block,B.off+3,none⟩=some (.slice (some C) 2 tc) ∧
 W.cell? ⟨A.block,A.off+13,none⟩=some (.slice eo 1 ec)∧W.cell? ⟨C.block,C.off+2,none⟩=some (.string ⟨#[119,105,100,116,104]⟩)∧W.cell? ⟨C.block,C.off+3,none⟩=some (.string ⟨#[50]⟩)
theorem ex_cells {W:World}{ao:Option Addr}{c:Nat}(h:Sts W (.slice ao 3 c) exB):∃ A B C bc tc ec eo,ao=some A∧ExC W A B C bc tc ec eo:=by
 obtain ⟨_,_,e,-,-,h3⟩:=h
 cases e
 obtain ⟨A,rfl,h4⟩:=h3 (by decide)
 have k1:=(stAt_eq _ _ _).1 (stsAt_get h4 1 (by decide))
 have k2:=(stAt_eq _ _ _).1 (stsAt_get h4 2 (by decide))
 obtain ⟨p0,-,-,-,-,bv,p4,hb⟩:=k1
 obtain ⟨-,-,-,-,⟨av,p5,ha⟩,-⟩:=k2
 obtain ⟨eo,ec,rfl,-,-,-⟩:=ha
 obtain ⟨bo,bc,rfl,-,-,hb3⟩:=hb
 obtain ⟨B,rfl,hb4⟩:=hb3 (by decide)
 have k3:=(stAt_eq _ _ _).1 (stsAt_get hb4 0 (by decide))
 obtain ⟨-,-,-,-,⟨tv,p6,ht⟩,-⟩:=k3
 obtain ⟨tw,tc,rfl,-,-,ht3⟩:=ht
 obtain ⟨C,rfl,ht4⟩:=ht3 (by decide)
 obtain ⟨p7,p8,-⟩:=ht4 1 (by decide)
 exact ⟨A,B,C,bc,tc,ec,eo,rfl,p0,p4,p6,p5,p7,p8⟩
def AwA1 (a:Act)(n0 tb:Nat):Prop:=a=⟨#[.bool false,.pointer (some ⟨n0+1+1+1,0,none⟩),.pointer (some ⟨tb,0,none⟩),.int .i64 0,a.tmps.getD 4 undef,a.tmps.getD 5 undef,a.tmps.getD 6 undef,a.tmps.getD 7 undef,a.tmps.getD 8 undef,a.tmps.getD 9 undef,a.tmps.getD 10 undef,a.tmps.getD 11 undef,a.tmps.getD 12 undef,a.tmps.getD 13 undef,a.tmps.getD 14 undef,a.tmps.getD 15 undef,a.tmps.getD 16 undef,a.tmps.getD 17 undef,a.tmps.getD 18 undef,a.tmps.getD 19 undef,a.tmps.getD 20 undef,a.tmps.getD 21 undef,a.tmps.getD 22 undef,a.tmps.getD 23 undef,a.tmps.getD 24 undef,a.tmps.getD 25 undef,a.tmps.getD 26 undef,a.tmps.getD 27 undef,a.tmps.getD 28 undef,a.tmps.getD 29 undef,a.tmps.getD 30 undef,a.tmps.getD 31 undef,a.tmps.getD 32 undef,a.tmps.getD 33 undef,a.tmps.getD 34 undef,a.tmps.getD 35 undef,a.tmps.getD 36 undef,a.tmps.getD 37 undef,a.tmps.getD 38 undef,a.tmps.getD 39 undef,a.tmps.getD 40 undef,a.tmps.getD 41 undef,a.tmps.getD 42 undef,a.tmps.getD 43 undef,a.tmps.getD 44 undef,a.tmps.getD 45 undef,a.tmps.getD 46 undef,a.tmps.getD 47 undef,a.tmps.getD 48 undef,a.tmps.getD 49 undef,a.tmps.getD 50 undef,a.tmps.getD 51 undef,a.tmps.getD 52 undef,a.tmps.getD 53 undef,a.tmps.getD 54 undef,a.tmps.getD 55 undef,a.tmps.getD 56 undef,a.tmps.getD 57 undef,a.tmps.getD 58 undef,a.tmps.getD 59 undef,a.tmps.getD 60 undef,a.tmps.getD 61 undef,a.tmps.getD 62 undef,a.tmps.getD 63 undef,a.tmps.getD 64 undef,a.tmps.getD 65 undef,a.tmps.getD 66 undef,a.tmps.getD 67 undef,a.tmps.getD 68 undef,a.tmps.getD 69 undef,a.tmps.getD 70 undef,a.tmps.getD 71 undef,a.tmps.getD 72 undef,a.tmps.getD 73 undef,a.tmps.getD 74 undef,a.tmps.getD 75 undef,a.tmps.getD 76 undef,a.tmps.getD 77 undef,a.tmps.getD 78 undef,a.tmps.getD 79 undef,a.tmps.getD 80 undef,a.tmps.getD 81 undef,a.tmps.getD 82 undef,a.tmps.getD 83 undef,a.tmps.getD 84 undef,a.tmps.getD 85 undef,a.tmps.getD 86 undef,a.tmps.getD 87 undef,a.tmps.getD 88 undef,a.tmps.getD 89 undef,a.tmps.getD 90 undef,a.tmps.getD 91 undef,a.tmps.getD 92 undef,a.tmps.getD 93 undef,a.tmps.getD 94 undef,a.tmps.getD 95 undef,a.tmps.getD 96 undef,a.tmps.getD 97 undef,a.tmps.getD 98 undef,a.tmps.getD 99 undef,a.tmps.getD 100 undef,a.tmps.getD 101 undef,a.tmps.getD 102 undef,a.tmps.getD 103 undef,a.tmps.getD 104 undef],[]⟩
theorem AwA1.use {a:Act}{n0 tb:Nat}(h:AwA1 a n0 tb):∃ f:Nat→Value,a=⟨#[.bool false,.pointer (some ⟨n0+1+1+1,0,none⟩),.pointer (some ⟨tb,0,none⟩),.int .i64 0,f 4,f 5,f 6,f 7,f 8,f 9,f 10,f 11,f 12,f 13,f 14,f 15,f 16,f 17,f 18,f 19,f 20,f 21,f 22,f 23,f 24,f 25,f 26,f 27,f 28,f 29,f 30,f 31,f 32,f 33,f 34,f 35,f 36,f 37,f 38,f 39,f 40,f 41,f 42,f 43,f 44,f 45,f 46,f 47,f 48,f 49,f 50,f 51,f 52,f 53,f 54,f 55,f 56,f 57,f 58,f 59,f 60,f 61,f 62,f 63,f 64,f 65,f 66,f 67,f 68,f 69,f 70,f 71,f 72,f 73,f 74,f 75,f 76,f 77,f 78,f 79,f 80,f 81,f 82,f 83,f 84,f 85,f 86,f 87,f 88,f 89,f 90,f 91,f 92,f 93,f 94,f 95,f 96,f 97,f 98,f 99,f 100,f 101,f 102,f 103,f 104],[]⟩:=⟨fun i=>a.tmps.getD i undef,h⟩
structure AwI (w:World)(n0 tb:Nat)(W:World):Prop where
 bw:Below n0 w W
 lt:n0+4≤tb
 gx:blk W (n0+1+1+1) 26 #[.string ⟨#[103]⟩,.bool true,.slice (some ⟨n0,0,none⟩) 2 2,.slice (some ⟨n0+1,0,none⟩) 1 1,.slice (some ⟨n0+1+1,0,none⟩) 1 1]
 gr:gra.GrV W (GVX n0) exA
 tx:∃ TN TD ao c,blk W tb 33 #[.string TN,.bool TD,.slice ao 3 c]∧Sts W (.slice ao 3 c) exB
theorem AwI.below {w W W':World}{n0 tb:Nat}(h:AwI w n0 tb W)(hb:Below W.heap.size W W'):AwI w n0 tb W':=by
 obtain ⟨h1,h2,h3,h4,TN,TD,ao,c,h5,h6⟩:=h
 exact ⟨h1.trans (hb.mono (by have:=blk_lt h3;omega)),h2,blk_keep hb h3,h4.keep hb,TN,TD,ao,c,blk_keep hb h5,h6.keep hb⟩
def M1 (w:World)(n0:Nat)(a:Act)(W:World):Prop:=∃ tb,AwA1 a n0 tb∧AwI w n0 tb W
theorem M1.box (w:World)(n0:Nat):∃ M:Act→World→Prop,Hid (∀ a W,M a W ↔ M1 w n0 a W):=⟨M1 w n0,Lh fun _ _=>Iff.rfl⟩
set_option maxRecDepth 100000 in
set_option maxHeartbeats 32000000 in
theorem awake_of (w:World)(htb:Hid (Tab w)):Calls Tryz.prog 9 #[] w fun e w'=>e=.returned (.bool true)∧Below w.heap.size w w':=by
 have hmx:Tryz.prog.follows .mixedOrders=true:=by kernel_rfl
 obtain ⟨W1,hW1⟩:∃ W1,w.alloc (.cells #[.string ⟨#[97]⟩,.string ⟨#[97]⟩,.int .i64 20000,.int .i64 10000,.int .i64 (-1),.slice none 0 0,.string ⟨#[98]⟩,.string ⟨#[120]⟩,.int .i64 2000,.int .i64 10000,.int .i64 0,.slice none 0 0] 59)=W1:=⟨_,rfl⟩
 obtain ⟨W2,hW2⟩:∃ W2,W1.alloc (.cells #[.int .i64 0,.int .i64 1,.int .i64 (-1),.int .i64 (-1),.string ⟨#[]⟩,.int .i64 2,.int .i64 1] 61)=W2:=⟨_,rfl⟩
 obtain ⟨W3,hW3⟩:∃ W3,W2.alloc (.cells #[.string ⟨#[99]⟩,.int .i64 (-1)] 63)=W3:=⟨_,rfl⟩
 obtain ⟨W4,hW4⟩:∃ W4,W3.alloc (.cells #[.string ⟨#[103]⟩,.bool true,.slice (some ⟨w.heap.size,0,none⟩) 2 2,.slice (some ⟨w.heap.size+1,0,none⟩) 1 1,.slice (some ⟨w.heap.size+1+1,0,none⟩) 1 1] 26)=W4:=⟨_,rfl⟩
 have s1:W1.heap.size=w.heap.size+1:=by rw [← hW1];simp
 have s2:W2.heap.size=w.heap.size+1+1:=by rw [← hW2,← s1];simp
 have s3:W3.heap.size=w.heap.size+1+1+1:=by rw [← hW3,← s2];simp
 have b1:Below w.heap.size w W1:=by rw [← hW1];exact al1 ..
 have b2:Below W1.heap.size W1 W2:=by rw [← hW2];exact al1 ..
 have b3:Below W2.heap.size W2 W3:=by rw [← hW3];exact al1 ..
 have b4:Below W3.heap.size W3 W4:=by rw [← hW4];exact al1 ..
 have bn:blk W4 w.heap.size 59 #[.string ⟨#[97]⟩,.string ⟨#[97]⟩,.int .i64 20000,.int .i64 10000,.int .i64 (-1),.slice none 0 0,.string ⟨#[98]⟩,.string ⟨#[120]⟩,.int .i64 2000,.int .i64 10000,.int .i64 0,.slice none 0 0]:=blk_keep b4 (blk_keep b3 (blk_keep b2 (by rw [← hW1];exact blk_new ..)))
 have be:blk W4 (w.heap.size+1) 61 #[.int .i64 0,.int .i64 1,.int .i64 (-1),.int .i64 (-1),.string ⟨#[]⟩,.int .i64 2,.int .i64 1]:=blk_keep b4 (blk_keep b3 (by rw [← hW2,← s1];exact blk_new ..))
 have bc:blk W4 (w.heap.size+1+1) 63 #[.string ⟨#[99]⟩,.int .i64 (-1)]:=blk_keep b4 (by rw [← hW3,← s2];exact blk_new ..)
 have bg:blk W4 (w.heap.size+1+1+1) 26 #[.string ⟨#[103]⟩,.bool true,.slice (some ⟨w.heap.size,0,none⟩) 2 2,.slice (some ⟨w.heap.size+1,0,none⟩) 1 1,.slice (some ⟨w.heap.size+1+1,0,none⟩) 1 1]:=by rw [← hW4,← s3];exact blk_new ..
 have hgv:=ex_grv bn be bc
 have hb4:Below w.heap.size w W4:=below_keep b4 (below_keep b3 (below_keep b2 b1))
 have HW1:=Lh hW1
 have HW2:=Lh hW2
 have HW3:=Lh hW3
 have HW4:=Lh hW4
 have HG4:=Lh bg
 have HV4:=Lh hgv
 have HB4:=Lh hb4
 clear s1 s2 s3 b1 b2 b3 b4 bn be bc bg hgv hb4 hW1 hW2 hW3 hW4
 go_enter Tryz.func9,Tryz.ntmps9
 go_wp2_with fail
 rw [HW1.out,HW2.out,HW3.out,HW4.out]
 obtain ⟨n0,hn0⟩:∃ n0,w.heap.size=n0:=⟨_,rfl⟩
 have HN0:=Lh hn0
 rw [hn0] at HG4 HV4 HB4
 simp only [hn0]
 clear hn0 HW1 HW2 HW3 HW4
 clear W1 W2 W3
 obtain ⟨TA,hTA⟩:∃ T,(⟨[103],true,exB⟩:Tr)=T:=⟨_,rfl⟩
 have HTA:=Lh hTA
 have HTR:Hid (treeE exA nrmO=(TA,0)):=Lh (by rw [← hTA];exact exA_tree)
 have hL:TA.body.length=3:=by rw [← hTA];rfl
 have HL:=Lh hL
 clear hTA hL
 obtain ⟨M,HM⟩:=M1.box w n0
 refine then_mid M ?_ ?_
 ·
  have c0:W4.cell? ⟨n0+1+1+1,0,none⟩=some (.string ⟨#[103]⟩):=by rw [blk_cell HG4.out];rfl
  have c1:W4.cell? ⟨n0+1+1+1,1,none⟩=some (.bool true):=by rw [blk_cell HG4.out];rfl
  have c2:W4.cell? ⟨n0+1+1+1,2,none⟩=some (.slice (some ⟨n0,0,none⟩) 2 2):=by rw [blk_cell HG4.out];rfl
  have c3:W4.cell? ⟨n0+1+1+1,3,none⟩=some (.slice (some ⟨n0+1,0,none⟩) 1 1):=by rw [blk_cell HG4.out];rfl
  have c4:W4.cell? ⟨n0+1+1+1,4,none⟩=some (.slice (some ⟨n0+1+1,0,none⟩) 1 1):=by rw [blk_cell HG4.out];rfl
  refine tstart (fun W:World=>W.cell? ⟨n0+1+1+1,0,none⟩=some (.string ⟨#[103]⟩)∧W.cell? ⟨n0+1+1+1,1,none⟩=some (.bool true)∧W.cell? ⟨n0+1+1+1,2,none⟩=some (.slice (some ⟨n0,0,none⟩) 2 2)∧W.cell? ⟨n0+1+1+1,3,none⟩=some (.slice (some ⟨n0+1,0,none⟩) 1 1)∧W.cell? ⟨n0+1+1+1,4,none⟩=some (.slice (some ⟨n0+1+1,0,none⟩) 1 1)) 8 (by kernel_rfl) ⟨s_drew (c0),s_drew (c1),s_drew (c2),s_drew (c3),s_drew (c4)⟩ (fun hHeld=>?_)
  have hb:=b_drew W4
  replace hHeld:((fun W:World=>W.cell? ⟨n0+1+1+1,0,none⟩=some (.string ⟨#[103]⟩)∧W.cell? ⟨n0+1+1+1,1,none⟩=some (.bool true)∧W.cell? ⟨n0+1+1+1,2,none⟩=some (.slice (some ⟨n0,0,none⟩) 2 2)∧W.cell? ⟨n0+1+1+1,3,none⟩=some (.slice (some ⟨n0+1,0,none⟩) 1 1)∧W.cell? ⟨n0+1+1+1,4,none⟩=some (.slice (some ⟨n0+1+1,0,none⟩) 1 1))) W4.drew:=hHeld
  generalize W4.drew=y0 at hHeld hb ⊢
  refine ton 0 17 (.agg #[.string ⟨#[103]⟩,.bool true,.slice (some ⟨n0,0,none⟩) 2 2,.slice (some ⟨n0+1,0,none⟩) 1 1,.slice (some ⟨n0+1+1,0,none⟩) 1 1]) ?_
  try simp only [sA,sB,sC]
  clear c0 c1 c2 c3 c4
  have hz4:=blk_lt HG4.out
  refine tgo2 (i:=1) (j:=6) (by kernel_rfl) rfl rfl (fun K hK=>?_) (fun K hK=>?_)
  ·
   have hlc:W4.heap.size≤y0.heap.size:=hb.size
   go_simp
   refine (normal_of y0).mono ?_
   rintro e y1 ⟨rfl,hb'⟩
   refine hK.out _ _ (fun _=>(by obtain ⟨k0,k1,k2,k3,k4⟩:=hHeld;exact ⟨cell_later' hb' k0,cell_later' hb' k1,cell_later' hb' k2,cell_later' hb' k3,cell_later' hb' k4⟩)) (fun hHeld=>?_)
   replace hHeld:=hHeld (by decide)
   clear hK K
   try simp only [sA,sB,sC]
   replace hb:=below_keep hb' hb
   clear hb' hlc
   refine tgo2 (i:=2) (j:=6) (by kernel_rfl) rfl rfl (fun K hK=>?_) (fun K hK=>?_)
   ·
    have hlc:W4.heap.size≤y1.heap.size:=hb.size
    go_simp
    refine (ctree_of exA nrmO (GVX n0) TA 0 y1 (Lh (HV4.out.keep hb)) (Lh (tab_below htb.out (show Below w.heap.size w y1 by rw [HN0.out];exact HB4.out.trans (hb.mono (by omega))))) HTR).mono ?_
    rintro e y2 ⟨tv,rfl,htv,hb'⟩
    obtain ⟨bv,rfl,-,hst⟩:=htv
    obtain ⟨ao,c,rfl,-⟩:=id hst
    rw [HL.out] at hst
    rw [HL.out]
    obtain ⟨TN,hTN⟩:∃ X,bb TA.name=X:=⟨_,rfl⟩
    obtain ⟨TD,hTD⟩:∃ X,TA.dir=X:=⟨_,rfl⟩
    rw [hTN,hTD]
    clear hTN hTD
    refine hK.out _ _ (fun _=>(by obtain ⟨k0,k1,k2,k3,k4⟩:=hHeld;exact ⟨cell_later' hb' k0,cell_later' hb' k1,cell_later' hb' k2,cell_later' hb' k3,cell_later' hb' k4⟩)) (fun hHeld=>?_)
    replace hHeld:=hHeld (by decide)
    clear hK K
    try simp only [sA,sB,sC]
    replace hb:=below_keep hb' hb
    clear hb' hlc
    refine ton 3 16 (.tuple #[(.agg #[.string TN,.bool TD,.slice ao 3 c]),.int .i64 0]) ?_
    refine ton 4 20 (.agg #[.string TN,.bool TD,.slice ao 3 c]) ?_
    refine ton 5 21 (.int .i64 0) ?_
    try simp only [sA,sB,sC]
    refine tgo (i:=6) (by kernel_rfl) rfl (fun K hK=>?_)
    have hs:=blk_new y2 #[.string ⟨#[]⟩,.bool false,.slice none 0 0] 33
    have hb':=al1 y2 (.cells #[.string ⟨#[]⟩,.bool false,.slice none 0 0] 33)
    go_simp
    refine hK.out _ _ (fun _=>(by obtain ⟨k0,k1,k2,k3,k4⟩:=hHeld;exact ⟨s_alloc k0,s_alloc k1,s_alloc k2,s_alloc k3,s_alloc k4⟩)) (fun hHeld=>?_)
    replace hHeld:=hHeld (by decide)
    clear hK K
    try simp only [sA,sB,sC]
    replace hst:=hst.keep hb'
    have hls:W4.heap.size≤y2.heap.size:=hb.size
    obtain ⟨tb,hss⟩:∃ s,y2.heap.size=s:=⟨_,rfl⟩
    rw [hss] at hs hls
    simp only [hss]
    replace hb:=below_keep hb' hb
    generalize y2.alloc (.cells #[.string ⟨#[]⟩,.bool false,.slice none 0 0] 33)=z2 at hs hb hHeld hst ⊢
    clear hb' hss
    have f0:z2.frozen? ⟨tb,0,none⟩=false:=blk_free hs
    have e0:z2.cell? ⟨tb,0,none⟩=some (.string ⟨#[]⟩):=by rw [blk_cell hs];rfl
    have f1:z2.frozen? ⟨tb,1,none⟩=false:=blk_free hs
    have e1:z2.cell? ⟨tb,1,none⟩=some (.bool false):=by rw [blk_cell hs];rfl
    have f2:z2.frozen? ⟨tb,2,none⟩=false:=blk_free hs
    have e2:z2.cell? ⟨tb,2,none⟩=some (.slice none 0 0):=by rw [blk_cell hs];rfl
    refine tgo (i:=7) (by kernel_rfl) rfl (fun K hK=>?_)
    go_simp
    refine hK.out _ _ (fun _=>(by obtain ⟨k0,k1,k2,k3,k4⟩:=hHeld;exact ⟨s_set (by simp only;omega) (s_set (by simp only;omega) (s_set (by simp only;omega) k0)),s_set (by simp only;omega) (s_set (by simp only;omega) (s_set (by simp only;omega) k1)),s_set (by simp only;omega) (s_set (by simp only;omega) (s_set (by simp only;omega) k2)),s_set (by simp only;omega) (s_set (by simp only;omega) (s_set (by simp only;omega) k3)),s_set (by simp only;omega) (s_set (by simp only;omega) (s_set (by simp only;omega) k4))⟩)) (fun hHeld=>?_)
    replace hHeld:=hHeld (by decide)
    clear hK K
    try simp only [sA,sB,sC]
    have hI:AwI w n0 tb (((z2.setCell ⟨tb,0,none⟩ (.string TN)).setCell ⟨tb,1,none⟩ (.bool TD)).setCell ⟨tb,2,none⟩ (.slice ao 3 c)):=by
     have hbt:=HB4.out.trans (hb.mono (by omega))
     have hstB:Sts z2 (.slice ao 3 c) exB:=by rw [← HTA.out] at hst;exact hst
     have hbs:Below W4.heap.size W4 (((z2.setCell ⟨tb,0,none⟩ (.string TN)).setCell ⟨tb,1,none⟩ (.bool TD)).setCell ⟨tb,2,none⟩ (.slice ao 3 c)):=below_set3 hb (by omega) _ _ _
     exact ⟨below_set3 hbt (by omega) _ _ _,by omega,blk_keep hbs HG4.out,HV4.out.keep hbs,TN,TD,ao,c,blk_set3 hs _ _ _,sts_box hstB hs (far3 _ _ _)⟩
    refine tgo (i:=8) (by kernel_rfl) rfl (fun K hK=>?_)
    go_simp
    refine hK.out _ _ (fun h=>absurd rfl h) (fun hHeld=>?_)
    clear hK K hHeld
    try simp only [sA,sB,sC]
    refine tdone (by kernel_rfl) ?_ _
    exact ⟨rfl,(HM.out _ _).2 ⟨tb,rfl,hI⟩⟩
   ·
    have hs:=blk_new y1 #[.string ⟨#[]⟩,.bool false,.slice none 0 0] 33
    have hb':=al1 y1 (.cells #[.string ⟨#[]⟩,.bool false,.slice none 0 0] 33)
    go_simp
    refine hK.out _ _ (fun _=>(by obtain ⟨k0,k1,k2,k3,k4⟩:=hHeld;exact ⟨s_alloc k0,s_alloc k1,s_alloc k2,s_alloc k3,s_alloc k4⟩)) (fun hHeld=>?_)
    replace hHeld:=hHeld (by decide)
    clear hK K
    try simp only [sA,sB,sC]
    have hls:W4.heap.size≤y1.heap.size:=hb.size
    obtain ⟨tb,hss⟩:∃ s,y1.heap.size=s:=⟨_,rfl⟩
    rw [hss] at hs hls
    simp only [hss]
    replace hb:=below_keep hb' hb
    generalize y1.alloc (.cells #[.string ⟨#[]⟩,.bool false,.slice none 0 0] 33)=z1 at hs hb hHeld ⊢
    clear hb' hss
    refine tgo (i:=2) (by kernel_rfl) rfl (fun K hK=>?_)
    have hlc:W4.heap.size≤z1.heap.size:=hb.size
    go_simp
    refine (ctree_of exA nrmO (GVX n0) TA 0 z1 (Lh (HV4.out.keep hb)) (Lh (tab_below htb.out (show Below w.heap.size w z1 by rw [HN0.out];exact HB4.out.trans (hb.mono (by omega))))) HTR).mono ?_
    rintro e x2 ⟨tv,rfl,htv,hb'⟩
    obtain ⟨bv,rfl,-,hst⟩:=htv
    obtain ⟨ao,c,rfl,-⟩:=id hst
    rw [HL.out] at hst
    rw [HL.out]
    obtain ⟨TN,hTN⟩:∃ X,bb TA.name=X:=⟨_,rfl⟩
    obtain ⟨TD,hTD⟩:∃ X,TA.dir=X:=⟨_,rfl⟩
    rw [hTN,hTD]
    clear hTN hTD
    refine hK.out _ _ (fun _=>(by obtain ⟨k0,k1,k2,k3,k4⟩:=hHeld;exact ⟨cell_later' hb' k0,cell_later' hb' k1,cell_later' hb' k2,cell_later' hb' k3,cell_later' hb' k4⟩)) (fun hHeld=>?_)
    replace hHeld:=hHeld (by decide)
    clear hK K
    try simp only [sA,sB,sC]
    replace hs:=blk_keep hb' hs
    replace hb:=below_keep hb' hb
    clear hb' hlc
    refine ton 3 16 (.tuple #[(.agg #[.string TN,.bool TD,.slice ao 3 c]),.int .i64 0]) ?_
    refine ton 4 20 (.agg #[.string TN,.bool TD,.slice ao 3 c]) ?_
    refine ton 5 21 (.int .i64 0) ?_
    try simp only [sA,sB,sC]
    have f0:x2.frozen? ⟨tb,0,none⟩=false:=blk_free hs
    have e0:x2.cell? ⟨tb,0,none⟩=some (.string ⟨#[]⟩):=by rw [blk_cell hs];rfl
    have f1:x2.frozen? ⟨tb,1,none⟩=false:=blk_free hs
    have e1:x2.cell? ⟨tb,1,none⟩=some (.bool false):=by rw [blk_cell hs];rfl
    have f2:x2.frozen? ⟨tb,2,none⟩=false:=blk_free hs
    have e2:x2.cell? ⟨tb,2,none⟩=some (.slice none 0 0):=by rw [blk_cell hs];rfl
    refine tgo (i:=7) (by kernel_rfl) rfl (fun K hK=>?_)
    go_simp
    refine hK.out _ _ (fun _=>(by obtain ⟨k0,k1,k2,k3,k4⟩:=hHeld;exact ⟨s_set (by simp only;omega) (s_set (by simp only;omega) (s_set (by simp only;omega) k0)),s_set (by simp only;omega) (s_set (by simp only;omega) (s_set (by simp only;omega) k1)),s_set (by simp only;omega) (s_set (by simp only;omega) (s_set (by simp only;omega) k2)),s_set (by simp only;omega) (s_set (by simp only;omega) (s_set (by simp only;omega) k3)),s_set (by simp only;omega) (s_set (by simp only;omega) (s_set (by simp only;omega) k4))⟩)) (fun hHeld=>?_)
    replace hHeld:=hHeld (by decide)
    clear hK K
    try simp only [sA,sB,sC]
    have hI:AwI w n0 tb (((x2.setCell ⟨tb,0,none⟩ (.string TN)).setCell ⟨tb,1,none⟩ (.bool TD)).setCell ⟨tb,2,none⟩ (.slice ao 3 c)):=by
     have hbt:=HB4.out.trans (hb.mono (by omega))
     have hstB:Sts x2 (.slice ao 3 c) exB:=by rw [← HTA.out] at hst;exact hst
     have hbs:Below W4.heap.size W4 (((x2.setCell ⟨tb,0,none⟩ (.string TN)).setCell ⟨tb,1,none⟩ (.bool TD)).setCell ⟨tb,2,none⟩ (.slice ao 3 c)):=below_set3 hb (by omega) _ _ _
     exact ⟨below_set3 hbt (by omega) _ _ _,by omega,blk_keep hbs HG4.out,HV4.out.keep hbs,TN,TD,ao,c,blk_set3 hs _ _ _,sts_box hstB hs (far3 _ _ _)⟩
    refine tgo (i:=8) (by kernel_rfl) rfl (fun K hK=>?_)
    go_simp
    refine hK.out _ _ (fun h=>absurd rfl h) (fun hHeld=>?_)
    clear hK K hHeld
    try simp only [sA,sB,sC]
    refine tdone (by kernel_rfl) ?_ _
    exact ⟨rfl,(HM.out _ _).2 ⟨tb,rfl,hI⟩⟩
  ·
   have hs:=blk_new y0 #[.string ⟨#[]⟩,.bool false,.slice none 0 0] 33
   have hb':=al1 y0 (.cells #[.string ⟨#[]⟩,.bool false,.slice none 0 0] 33)
   go_simp
   refine hK.out _ _ (fun _=>(by obtain ⟨k0,k1,k2,k3,k4⟩:=hHeld;exact ⟨s_alloc k0,s_alloc k1,s_alloc k2,s_alloc k3,s_alloc k4⟩)) (fun hHeld=>?_)
   replace hHeld:=hHeld (by decide)
   clear hK K
   try simp only [sA,sB,sC]
   have hls:W4.heap.size≤y0.heap.size:=hb.size
   obtain ⟨tb,hss⟩:∃ s,y0.heap.size=s:=⟨_,rfl⟩
   rw [hss] at hs hls
   simp only [hss]
   replace hb:=below_keep hb' hb
   generalize y0.alloc (.cells #[.string ⟨#[]⟩,.bool false,.slice none 0 0] 33)=z0 at hs hb hHeld ⊢
   clear hb' hss
   refine tgo (i:=1) (by kernel_rfl) rfl (fun K hK=>?_)
   have hlc:W4.heap.size≤z0.heap.size:=hb.size
   go_simp
   refine (normal_of z0).mono ?_
   rintro e x1 ⟨rfl,hb'⟩
   refine hK.out _ _ (fun _=>(by obtain ⟨k0,k1,k2,k3,k4⟩:=hHeld;exact ⟨cell_later' hb' k0,cell_later' hb' k1,cell_later' hb' k2,cell_later' hb' k3,cell_later' hb' k4⟩)) (fun hHeld=>?_)
   replace hHeld:=hHeld (by decide)
   clear hK K
   try simp only [sA,sB,sC]
   replace hs:=blk_keep hb' hs
   replace hb:=below_keep hb' hb
   clear hb' hlc
   refine tgo (i:=2) (by kernel_rfl) rfl (fun K hK=>?_)
   have hlc:W4.heap.size≤x1.heap.size:=hb.size
   go_simp
   refine (ctree_of exA nrmO (GVX n0) TA 0 x1 (Lh (HV4.out.keep hb)) (Lh (tab_below htb.out (show Below w.heap.size w x1 by rw [HN0.out];exact HB4.out.trans (hb.mono (by omega))))) HTR).mono ?_
   rintro e x2 ⟨tv,rfl,htv,hb'⟩
   obtain ⟨bv,rfl,-,hst⟩:=htv
   obtain ⟨ao,c,rfl,-⟩:=id hst
   rw [HL.out] at hst
   rw [HL.out]
   obtain ⟨TN,hTN⟩:∃ X,bb TA.name=X:=⟨_,rfl⟩
   obtain ⟨TD,hTD⟩:∃ X,TA.dir=X:=⟨_,rfl⟩
   rw [hTN,hTD]
   clear hTN hTD
   refine hK.out _ _ (fun _=>(by obtain ⟨k0,k1,k2,k3,k4⟩:=hHeld;exact ⟨cell_later' hb' k0,cell_later' hb' k1,cell_later' hb' k2,cell_later' hb' k3,cell_later' hb' k4⟩)) (fun hHeld=>?_)
   replace hHeld:=hHeld (by decide)
   clear hK K
   try simp only [sA,sB,sC]
   replace hs:=blk_keep hb' hs
   replace hb:=below_keep hb' hb
   clear hb' hlc
   refine ton 3 16 (.tuple #[(.agg #[.string TN,.bool TD,.slice ao 3 c]),.int .i64 0]) ?_
   refine ton 4 20 (.agg #[.string TN,.bool TD,.slice ao 3 c]) ?_
   refine ton 5 21 (.int .i64 0) ?_
   try simp only [sA,sB,sC]
   have f0:x2.frozen? ⟨tb,0,none⟩=false:=blk_free hs
   have e0:x2.cell? ⟨tb,0,none⟩=some (.string ⟨#[]⟩):=by rw [blk_cell hs];rfl
   have f1:x2.frozen? ⟨tb,1,none⟩=false:=blk_free hs
   have e1:x2.cell? ⟨tb,1,none⟩=some (.bool false):=by rw [blk_cell hs];rfl
   have f2:x2.frozen? ⟨tb,2,none⟩=false:=blk_free hs
   have e2:x2.cell? ⟨tb,2,none⟩=some (.slice none 0 0):=by rw [blk_cell hs];rfl
   refine tgo (i:=7) (by kernel_rfl) rfl (fun K hK=>?_)
   go_simp
   refine hK.out _ _ (fun _=>(by obtain ⟨k0,k1,k2,k3,k4⟩:=hHeld;exact ⟨s_set (by simp only;omega) (s_set (by simp only;omega) (s_set (by simp only;omega) k0)),s_set (by simp only;omega) (s_set (by simp only;omega) (s_set (by simp only;omega) k1)),s_set (by simp only;omega) (s_set (by simp only;omega) (s_set (by simp only;omega) k2)),s_set (by simp only;omega) (s_set (by simp only;omega) (s_set (by simp only;omega) k3)),s_set (by simp only;omega) (s_set (by simp only;omega) (s_set (by simp only;omega) k4))⟩)) (fun hHeld=>?_)
   replace hHeld:=hHeld (by decide)
   clear hK K
   try simp only [sA,sB,sC]
   have hI:AwI w n0 tb (((x2.setCell ⟨tb,0,none⟩ (.string TN)).setCell ⟨tb,1,none⟩ (.bool TD)).setCell ⟨tb,2,none⟩ (.slice ao 3 c)):=by
    have hbt:=HB4.out.trans (hb.mono (by omega))
    have hstB:Sts x2 (.slice ao 3 c) exB:=by rw [← HTA.out] at hst;exact hst
    have hbs:Below W4.heap.size W4 (((x2.setCell ⟨tb,0,none⟩ (.string TN)).setCell ⟨tb,1,none⟩ (.bool TD)).setCell ⟨tb,2,none⟩ (.slice ao 3 c)):=below_set3 hb (by omega) _ _ _
    exact ⟨below_set3 hbt (by omega) _ _ _,by omega,blk_keep hbs HG4.out,HV4.out.keep hbs,TN,TD,ao,c,blk_set3 hs _ _ _,sts_box hstB hs (far3 _ _ _)⟩
   refine tgo (i:=8) (by kernel_rfl) rfl (fun K hK=>?_)
   go_simp
   refine hK.out _ _ (fun h=>absurd rfl h) (fun hHeld=>?_)
   clear hK K hHeld
   try simp only [sA,sB,sC]
   refine tdone (by kernel_rfl) ?_ _
   exact ⟨rfl,(HM.out _ _).2 ⟨tb,rfl,hI⟩⟩
 intro a5 w5 hm
 obtain ⟨tb,ha,hI⟩:=(HM.out _ _).1 hm
 obtain ⟨f,rfl⟩:=ha.use
 clear HM hm M ha HG4 HV4 HB4
 have HI:=Lh hI
 obtain ⟨TN,TD,ao,c,hk,hst⟩:=hI.tx
 obtain ⟨A,B,C,bc,tc,ec,eo,rfl,p0,p4,p6,p5,p7,p8⟩:=ex_cells hst
 have t2:w5.cell? ⟨tb,2,none⟩=some (.slice (some A) 3 c):=by rw [blk_cell hk];rfl
 clear hI hk hst
 go_wp2_with fail
 obtain ⟨T0,hT0⟩:∃ T,emT=T:=⟨_,rfl⟩
 have HTR0:Hid (treeE exN0 nrmO=(T0,1)):=Lh (by rw [← hT0];exact ex0_tree)
 clear hT0 p0 p4 p6 p5 p7 p8 t2
 refine (normal_of w5).mono ?_
 rintro e v1 ⟨rfl,hb1⟩
 have HI1:=Lh (HI.out.below hb1)
 clear hb1 HI
 go_wp2_with fail
 refine (ctree_of exN0 nrmO _ T0 1 v1 (Lh (ex0_grv _)) (Lh (tab_below htb.out (show Below w.heap.size w v1 by rw [HN0.out];exact HI1.out.bw))) HTR0).mono ?_
 rintro e v2 ⟨tv,rfl,htv,hb2⟩
 obtain ⟨bv,rfl,-,hst⟩:=htv
 obtain ⟨a0,c0,rfl,-⟩:=id hst
 obtain ⟨TN0,hTN⟩:∃ X,bb T0.name=X:=⟨_,rfl⟩
 obtain ⟨TD0,hTD⟩:∃ X,T0.dir=X:=⟨_,rfl⟩
 obtain ⟨n,hn⟩:∃ X,T0.body.length=X:=⟨_,rfl⟩
 rw [hTN,hTD,hn]
 have HI:=Lh ((HI1.out.below hb2).below (al1 v2 (.cells #[.string TN0,.bool TD0,.slice a0 n c0] 33)))
 clear hTN hTD hn hst hb2 HI1 HTR0
 go_wp2_with fail
 generalize v2.alloc (.cells #[.string TN0,.bool TD0,.slice a0 n c0] 33)=w6 at HI ⊢
 obtain ⟨s,q,hsq⟩:∃ s q,textE exA nrmO=(s,q):=⟨_,_,rfl⟩
 have hx:=exA_text
 rw [hsq] at hx
 obtain ⟨rfl,hsl⟩:q=0∧20 < s.length:=hx
 have HSQ:=Lh hsq
 obtain ⟨SS,hSS⟩:∃ S,bb s=S:=⟨_,rfl⟩
 have hbig:(20:Int) < (SS.size:Int):=by rw [← hSS];show (20:Int) < ((s.toArray.size:Nat):Int);rw [List.size_toArray];omega
 have hdec:decide ((20:Int) < (SS.size:Int))=true:=decide_eq_true hbig
 have HSS:=Lh hSS
 have HDE:=Lh hdec
 clear hsq hSS hsl hbig hdec
 have c0:w6.cell? ⟨n0+1+1+1,0,none⟩=some (.string ⟨#[103]⟩):=by rw [blk_cell HI.out.gx];rfl
 have c1:w6.cell? ⟨n0+1+1+1,1,none⟩=some (.bool true):=by rw [blk_cell HI.out.gx];rfl
 have c2:w6.cell? ⟨n0+1+1+1,2,none⟩=some (.slice (some ⟨n0,0,none⟩) 2 2):=by rw [blk_cell HI.out.gx];rfl
 have c3:w6.cell? ⟨n0+1+1+1,3,none⟩=some (.slice (some ⟨n0+1,0,none⟩) 1 1):=by rw [blk_cell HI.out.gx];rfl
 have c4:w6.cell? ⟨n0+1+1+1,4,none⟩=some (.slice (some ⟨n0+1+1,0,none⟩) 1 1):=by rw [blk_cell HI.out.gx];rfl
 refine tstart (fun W:World=>W.cell? ⟨n0+1+1+1,0,none⟩=some (.string ⟨#[103]⟩)∧W.cell? ⟨n0+1+1+1,1,none⟩=some (.bool true)∧W.cell? ⟨n0+1+1+1,2,none⟩=some (.slice (some ⟨n0,0,none⟩) 2 2)∧W.cell? ⟨n0+1+1+1,3,none⟩=some (.slice (some ⟨n0+1,0,none⟩) 1 1)∧W.cell? ⟨n0+1+1+1,4,none⟩=some (.slice (some ⟨n0+1+1,0,none⟩) 1 1)) 7 (by kernel_rfl) ⟨s_drew (c0),s_drew (c1),s_drew (c2),s_drew (c3),s_drew (c4)⟩ (fun hHeld=>?_)
 have hb:=b_drew w6
 replace hHeld:((fun W:World=>W.cell? ⟨n0+1+1+1,0,none⟩=some (.string ⟨#[103]⟩)∧W.cell? ⟨n0+1+1+1,1,none⟩=some (.bool true)∧W.cell? ⟨n0+1+1+1,2,none⟩=some (.slice (some ⟨n0,0,none⟩) 2 2)∧W.cell? ⟨n0+1+1+1,3,none⟩=some (.slice (some ⟨n0+1,0,none⟩) 1 1)∧W.cell? ⟨n0+1+1+1,4,none⟩=some (.slice (some ⟨n0+1+1,0,none⟩) 1 1))) w6.drew:=hHeld
 generalize w6.drew=y0 at hHeld hb ⊢
 refine ton 0 75 (.agg #[.string ⟨#[103]⟩,.bool true,.slice (some ⟨n0,0,none⟩) 2 2,.slice (some ⟨n0+1,0,none⟩) 1 1,.slice (some ⟨n0+1+1,0,none⟩) 1 1]) ?_
 try simp only [sA,sB,sC]
 clear c0 c1 c2 c3 c4
 have hz6:=blk_lt HI.out.gx
 refine tgo (i:=1) (by kernel_rfl) rfl (fun K hK=>?_)
 go_simp
 refine (normal_of y0).mono ?_
 rintro e y1 ⟨rfl,hb'⟩
 refine hK.out _ _ (fun _=>(by obtain ⟨k0,k1,k2,k3,k4⟩:=hHeld;exact ⟨cell_later' hb' k0,cell_later' hb' k1,cell_later' hb' k2,cell_later' hb' k3,cell_later' hb' k4⟩)) (fun hHeld=>?_)
 replace hHeld:=hHeld (by decide)
 clear hK K
 try simp only [sA,sB,sC]
 have hlc:w6.heap.size≤y0.heap.size:=hb.size
 replace hb:=below_keep hb' hb
 clear hb' hlc
 refine tgo (i:=2) (by kernel_rfl) rfl (fun K hK=>?_)
 go_simp
 have hlc:w6.heap.size≤y1.heap.size:=hb.size
 refine (ctext13_of exA nrmO (GVX n0) SS s 0 y1 (Lh (HI.out.gr.keep hb)) (Lh (tab_below htb.out (show Below w.heap.size w y1 by rw [HN0.out];exact HI.out.bw.trans (hb.mono (by omega))))) HSQ HSS).mono ?_
 rintro e y2 ⟨rfl,hb'⟩
 refine hK.out _ _ (fun _=>(by obtain ⟨k0,k1,k2,k3,k4⟩:=hHeld;exact ⟨cell_later' hb' k0,cell_later' hb' k1,cell_later' hb' k2,cell_later' hb' k3,cell_later' hb' k4⟩)) (fun hHeld=>?_)
 replace hHeld:=hHeld (by decide)
 clear hK K
 try simp only [sA,sB,sC]
 replace hb:=below_keep hb' hb
 clear hb' hlc
 refine ton 3 74 (.tuple #[.string SS,.int .i64 0]) ?_
 refine ton 4 78 (.string SS) ?_
 refine ton 5 79 (.int .i64 0) ?_
 try simp only [sA,sB,sC]
 refine tgo (i:=6) (by kernel_rfl) rfl (fun K hK=>?_)
 go_simp
 refine hK.out _ _ (fun _=>(by obtain ⟨k0,k1,k2,k3,k4⟩:=hHeld;exact ⟨k0,k1,k2,k3,k4⟩)) (fun hHeld=>?_)
 replace hHeld:=hHeld (by decide)
 clear hK K
 try simp only [sA,sB,sC]
 refine tgo (i:=7) (by kernel_rfl) rfl (fun K hK=>?_)
 go_simp
 refine hK.out _ _ (fun h=>absurd rfl h) (fun hHeld=>?_)
 clear hK K hHeld
 try simp only [sA,sB,sC]
 refine tdone (by kernel_rfl) ?_ _
 have HI7:=Lh (HI.out.below hb)
 clear hb
 have hdec:=HDE.out
 obtain ⟨TN,TD,ao,c,hk,hst⟩:=HI7.out.tx
 obtain ⟨A,B,C,bc,tc,ec,eo,rfl,p0,p4,p6,p5,p7,p8⟩:=ex_cells hst
 have t2:y2.cell? ⟨tb,2,none⟩=some (.slice (some A) 3 c):=by rw [blk_cell hk];rfl
 have HB:=Lh HI7.out.bw
 clear hk hst
 go_wp2
 go_ret
 exact ⟨rfl,by rw [HN0.out];exact HB.out⟩
end Go.Proofs.YtgmidodmmlmmeaaGreatDoor.xpt
