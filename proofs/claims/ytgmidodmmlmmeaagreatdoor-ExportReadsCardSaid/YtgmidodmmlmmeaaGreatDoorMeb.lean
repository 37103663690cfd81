/-
  Plain facts on the export of graphs (layer 13), P13.3: the tree that a graph and options are written as is normalized to the graph, and to the options. No function of the program is named here; conditions as each theorem states them.
  Plain facts on the export of graphs (layer 13), P13.3: the options are restored from the tree that is written, and so is all of it from any tree that is the same. No function of the program is named here; conditions as each theorem states them.
  Plain facts on the export of graphs (layer 13), P13.4: if every node is declared before it is mentioned, and no cluster is without nodes, the rule for blocks writes everything. No function of the program is named here; conditions as each theorem states them.
  Plain facts on the export of graphs (layer 13), P13.4: what statements add in a block is what the rule for blocks writes of it. No function of the program is named here; conditions as each theorem states them.
  Plain facts on the export of graphs (layer 13), P13.4: a graph that comes from a tree that declares all nodes first is written whole. No function of the program is named here; conditions as each theorem states them.
  Plain facts on the export of graphs (layer 13), P13.4: the tree that a valid graph and valid options are written as is valid, but for limits. No function of the program is named here; conditions as each theorem states them.
  What Ports of the reference of layer 13 returns: the text of ports. Condition: at most eight ports in memory, as a valid node has them.
  Plain facts on the export of graphs (layer 13): the rule for blocks step by step, attributes as they are collected, sizes of what is written. No function of the program is named here; conditions as each theorem states them.
-/
import Derived.Test.YtgmidodmmlmmeaaGreatDoorMea
namespace Go.Proofs.YtgmidodmmlmmeaaGreatDoor.xpt
open lex tre att nor
structure OpV (o:Op'):Prop where
 md:0≤o.mode∧o.mode≤4
 ns:0≤o.ns∧o.ns≤1048576
 rs:0≤o.rs∧o.rs≤1048576
 mg:0≤o.mg∧o.mg≤1048576
 rd:0≤o.rd∧o.rd≤100
theorem opv_of {o:Op'}(h:okO o=true):OpV o:=by
 unfold okO rng at h
 simp only [Bool.and_eq_true,decide_eq_true_eq] at h
 obtain ⟨⟨⟨⟨h1,h2⟩,h3⟩,h4⟩,h5⟩:=h
 exact ⟨h1,h2,h3,h4,h5⟩
theorem mode_ways {m:Int}(h0:0≤m)(h4:m≤4):modeL (modes.getD m.toNat [])=m:=by
 have h:m=0∨m=1∨m=2∨m=3∨m=4:=by omega
 rcases h with rfl | rfl | rfl | rfl | rfl <;> decide
theorem blk0_le (g:gra.Gr):∀ (f:Nat) (c:Int) (n k:Nat),n≤g.ns.length→k≤g.cs.length→(blkW g f c n k).2.1≤g.ns.length∧(blkW g f c n k).2.2≤g.cs.length
 | 0,_,_,_,hn,hk=>⟨hn,hk⟩
 | f+1,c,n,k,hn,hk=>by
  have lt1:∀ {y},g.ns[n]?=some y→n+1≤g.ns.length:=fun {y} h=>by
   rcases Nat.lt_or_ge n g.ns.length with q | q
   ·exact q
   ·rw [List.getElem?_eq_none q] at h;cases h
  have lt2:∀ {y},g.cs[k]?=some y→k+1≤g.cs.length:=fun {y} h=>by
   rcases Nat.lt_or_ge k g.cs.length with q | q
   ·exact q
   ·rw [List.getElem?_eq_none q] at h;cases h
  rw [blkW]
  cases h1:g.cs[k]? with
  | none =>
   cases h2:g.ns[n]? with
   | none=>exact ⟨hn,hk⟩
   | some y =>
    simp only
    split
    ·exact blk0_le g f c (n+1) k (lt1 h2) hk
    ·exact ⟨hn,hk⟩
  | some x =>
   simp only
   split
   ·obtain ⟨q1,q2⟩:=blk0_le g f k n (k+1) hn (lt2 h1)
    exact blk0_le g f c _ _ q1 q2
   ·cases h2:g.ns[n]? with
    | none=>exact ⟨hn,hk⟩
    | some y =>
     simp only
     split
     ·exact blk0_le g f c (n+1) k (lt1 h2) hk
     ·exact ⟨hn,hk⟩
theorem tree_ways {g:gra.Gr}{o:Op'}{T:Tr}(h:treeE g o=(T,0)):gra.validE g=0∧okO o=true∧(blk0 g).2.1=g.ns.length∧(blk0 g).2.2=g.cs.length∧T=treeG g o∧validT T=0:=by
 unfold treeE at h
 split at h
 ·exact absurd (Prod.mk.inj h).2 (by decide)
 rename_i h1
 split at h
 ·exact absurd (Prod.mk.inj h).2 (by decide)
 rename_i h2
 split at h
 ·rename_i h3;exact absurd (Prod.mk.inj h).2 h3
 rename_i h3
 obtain ⟨rfl,-⟩:=Prod.mk.inj h
 obtain ⟨q1,q2⟩:=blk0_le g (g.ns.length+g.cs.length+1) (-1) 0 0 (Nat.zero_le _) (Nat.zero_le _)
 have q1':(blk0 g).2.1≤g.ns.length:=q1
 have q2':(blk0 g).2.2≤g.cs.length:=q2
 refine ⟨Decidable.not_not.1 fun q=>h1 (Or.inl q),?_,by omega,by omega,rfl,by simpa using h3⟩
 cases hq:okO o with
 | true=>rfl
 | false=>exact absurd (Or.inr hq) h1
def optA (o:Op'):List Pr :=
 (if o.mode=0 then [] else [(wMode,modes.getD o.mode.toNat [])]) ++ ((if o.ns=10000 then [] else [(wNodesep,fmtL o.ns)]) ++ ((if o.rs=20000 then [] else [(wRanksep,fmtL o.rs)]) ++ ((if o.mg=5000 then [] else [(wMargin,fmtL o.mg)]) ++ (if o.rd=8 then [] else [(wRounds,fmtL (1000*o.rd))]))))
mutual
def decS:St→List Nm→List Nm × Bool
 | .mk k n r _ b,N=>if r.any (fun x=>!(if k=1 then N ++ [n] else N).contains x.1)=true then ((if k=1 then N ++ [n] else N),false) else decL b (if k=1 then N ++ [n] else N)
def decL:List St→List Nm→List Nm × Bool
 | [],N=>(N,true)
 | x :: t,N=>if (decS x N).2=false then decS x N else decL t (decS x N).1
end
def Grow (c:Int)(s s':Sta):Prop :=
 ∃ A B,s'.ns=s.ns ++ A∧s'.cs=s.cs ++ B∧(∀ a∈A,a.2=c∨((s.cs.length:Int)≤a.2∧a.2 < s'.cs.length))∧(∀ b∈B,b.2=c∨(s.cs.length:Int)≤b.2)∧(s.ns.length=s.ats.length→s'.ns.length=s'.ats.length)
theorem Grow.same {c:Int}{s s':Sta}(h1:s'.ns=s.ns)(h2:s'.cs=s.cs)(h3:s'.ats.length=s.ats.length):Grow c s s' :=
 ⟨[],[],by simp [h1],by simp [h2],fun a h=>(by cases h),fun a h=>(by cases h),fun h=>by rw [h1,h3,h]⟩
theorem Grow.trans {c:Int}{s t u:Sta}(h:Grow c s t)(k:Grow c t u):Grow c s u:=by
 obtain ⟨A,B,a1,a2,a3,a4,a5⟩:=h
 obtain ⟨C,D,b1,b2,b3,b4,b5⟩:=k
 have l1:t.cs.length=s.cs.length+B.length:=by rw [a2,List.length_append]
 have l2:u.cs.length=t.cs.length+D.length:=by rw [b2,List.length_append]
 refine ⟨A ++ C,B ++ D,by rw [b1,a1,List.append_assoc],by rw [b2,a2,List.append_assoc],fun x hx=>?_,fun x hx=>?_,fun q=>b5 (a5 q)⟩
 ·rcases List.mem_append.1 hx with q | q
  ·rcases a3 x q with r | r
   ·exact Or.inl r
   ·exact Or.inr (by omega)
  ·rcases b3 x q with r | r
   ·exact Or.inl r
   ·exact Or.inr (by omega)
 ·rcases List.mem_append.1 hx with q | q
  ·rcases a4 x q with r | r
   ·exact Or.inl r
   ·exact Or.inr (by omega)
  ·rcases b4 x q with r | r
   ·exact Or.inl r
   ·exact Or.inr (by omega)
theorem Grow.len {c:Int}{s s':Sta}(h:Grow c s s'):s.ns.length≤s'.ns.length∧s.cs.length≤s'.cs.length:=by
 obtain ⟨A,B,a1,a2,-⟩:=h
 rw [a1,a2,List.length_append,List.length_append];omega
theorem grow_ment (s:Sta)(n:Nm)(p:Pl):Grow p.cl s (mentS s n p):=by
 unfold mentS
 split
 ·exact ⟨[(n,p.cl)],[],rfl,by simp,fun a h=>by rw [List.mem_singleton] at h;subst h;exact Or.inl rfl,fun a h=>(by cases h),fun h=>by simp [h]⟩
 ·exact Grow.same rfl rfl rfl
theorem grow_refs (p:Pl):∀ (l:List Pr) (s:Sta),Grow p.cl s (refsS l s p)
 | [],s=>Grow.same rfl rfl rfl
 | r :: t,s=>by
  unfold refsS
  split
  ·exact Grow.same rfl rfl rfl
  ·exact (grow_ment s r.1 p).trans (grow_refs p t _)
theorem dflt_cl (k:Int)(n:Nm)(a:List Pr)(p:Pl):(dflt k n a p).cl=p.cl:=by
 unfold dflt
 split
 ·split <;> rfl
 ·rfl
theorem Grow.of {c:Int}{s t u:Sta}(h:Grow c s t)(h1:u.ns=t.ns)(h2:u.cs=t.cs)(h3:u.ats.length=t.ats.length):Grow c s u:=h.trans (Grow.same h1 h2 h3)
theorem grow_all:(∀ x:St,∀ (p:Pl) (s:Sta),Grow p.cl s (stmS x p s))∧∀ l:List St,∀ (p:Pl) (s:Sta),Grow p.cl s (blkS l p s):=by
 refine st_ind (fun k n r a b hb p s=>?_) (fun p s=>?_) (fun x t hx ht p s=>?_)
 ·rw [stmS]
  by_cases h1:k=1
  ·rw [if_pos h1]
   exact (grow_ment s n p).of rfl rfl (chg_len ..)
  rw [if_neg h1]
  by_cases h2:k=2
  ·rw [if_pos h2]
   unfold edgesS
   split
   ·exact grow_refs p r s
   ·exact (grow_refs p r s).of rfl rfl rfl
  rw [if_neg h2]
  by_cases h5:k=5
  ·rw [if_pos h5]
   split
   ·exact Grow.same rfl rfl rfl
   ·obtain ⟨A,B,a1,a2,a3,a4,a5⟩:=hb ⟨s.cs.length,p.dn,p.de⟩ ⟨s.ns,s.ats,s.cs ++ [(n,p.cl)],s.en,s.e⟩
    simp only at a1 a2 a3 a4 a5
    rw [List.length_append] at a3 a4
    simp only [List.length_cons,List.length_nil] at a3 a4
    refine ⟨A,(n,p.cl) :: B,a1,by rw [a2,List.append_assoc];rfl,fun x hx=>?_,fun x hx=>?_,a5⟩
    ·refine Or.inr ?_
     have hl:(blkS b ⟨s.cs.length,p.dn,p.de⟩ ⟨s.ns,s.ats,s.cs ++ [(n,p.cl)],s.en,s.e⟩).cs.length=s.cs.length+1+B.length:=by rw [a2];simp only [List.length_append,List.length_cons,List.length_nil]
     rcases a3 x hx with q | q
     ·rw [q,hl];omega
     ·omega
    ·rcases List.mem_cons.1 hx with rfl | hx
     ·exact Or.inl rfl
     ·rcases a4 x hx with q | q
      ·exact Or.inr (by omega)
      ·exact Or.inr (by omega)
  ·rw [if_neg h5];exact Grow.same rfl rfl rfl
 ·rw [blkS_nil];exact Grow.same rfl rfl rfl
 ·rw [blkS_cons]
  split
  ·exact Grow.same rfl rfl rfl
  split
  ·exact Grow.same rfl rfl rfl
  ·have q:=ht (dflt x.kind x.name x.attrs p) (stmS x p s)
   rw [dflt_cl] at q
   exact (hx p s).trans q
theorem ch_le {cs:List Cl}(h:gra.Wf cs):∀ (n:Nat) (j:Int),j < (n:Int)→∀ x∈gra.ch cs j,x≤j
 | 0,j,hj,x,hx=>by rw [gra.ch_neg cs j (by omega)] at hx;cases hx
 | n+1,j,hj,x,hx=>by
  by_cases h0:j < 0
  ·rw [gra.ch_neg cs j h0] at hx;cases hx
  ·have hu:=gra.up_neg cs h j (by omega)
   rw [gra.ch_cons h j (by omega)] at hx
   rcases List.mem_cons.1 hx with rfl | q
   ·omega
   ·have:=ch_le h n (gra.up cs j) (by omega) x q
    omega
theorem ch_in {cs:List Cl}(h:gra.Wf cs){k e:Nat}(hin:∀ i:Nat,k < i→i < e→(k:Int)≤gra.up cs i):∀ (n j:Nat),j < n→k≤j→j < e→(k:Int)∈gra.ch cs j
 | 0,j,hj,_,_=>by omega
 | n+1,j,hj,h1,h2=>by
  rw [gra.ch_cons h j (by omega)]
  by_cases q:j=k
  ·subst q;exact List.mem_cons_self ..
  ·have hu:=gra.up_neg cs h j (by omega)
   have hk:=hin j (by omega) h2
   obtain ⟨m,hm⟩:∃ m:Nat,gra.up cs j=(m:Int):=⟨(gra.up cs j).toNat,by omega⟩
   rw [hm] at hu hk ⊢
   exact List.mem_cons_of_mem _ (ch_in h hin n m (by omega) (by omega) (by omega))
theorem ch_out {cs:List Cl}(h:gra.Wf cs){k e:Nat}(hout:∀ i:Nat,e≤i→gra.up cs i < (k:Int)∨(e:Int)≤gra.up cs i):∀ (n:Nat) (j:Int),j < (n:Int)→(j < k∨(e:Int)≤j)→k < e→¬ (k:Int)∈gra.ch cs j
 | 0,j,hj,_,_=>by rw [gra.ch_neg cs j (by omega)];exact fun q=>nomatch q
 | n+1,j,hj,h1,h2=>fun hm=>by
  rcases h1 with q | q
  ·have:=ch_le h (n+1) j hj _ hm;omega
  ·have hu:=gra.up_neg cs h j (by omega)
   rw [gra.ch_cons h j (by omega)] at hm
   rcases List.mem_cons.1 hm with r | r
   ·omega
   ·obtain ⟨m,rfl⟩:∃ m:Nat,j=(m:Int):=⟨j.toNat,by omega⟩
    exact ch_out h hout n (gra.up cs m) (by omega) (hout m (by omega)) h2 r
theorem known_iff (n:Nm):∀ (l:List nor.Cl) (i:Nat),0≤nodeI l n i ↔ n∈l.map (·.1)
 | [],i=>by simp [nodeI]
 | x :: t,i=>by
  unfold nodeI
  by_cases h:x.1=n
  ·rw [if_pos h];simp [h]
  ·rw [if_neg h,known_iff n t (i+1)];simp [Ne.symm h]
def rowN (g:gra.Gr):List nor.Cl:=g.ns.map fun x=>(x.nm,x.cl)
def Ext (g:gra.Gr)(s:Sta):Prop:=s.ns <+: rowN g∧s.cs <+: g.cs
theorem Ext.back {g:gra.Gr}{c:Int}{s s':Sta}(h:Ext g s')(k:Grow c s s'):Ext g s:=by
 obtain ⟨A,B,a1,a2,-⟩:=k
 refine ⟨List.IsPrefix.trans ⟨A,a1.symm⟩ h.1,List.IsPrefix.trans ⟨B,a2.symm⟩ h.2⟩
theorem Ext.len {g:gra.Gr}{s:Sta}(h:Ext g s):s.ns.length≤g.ns.length∧s.cs.length≤g.cs.length:=by
 have h1:=h.1.length_le
 have h2:=h.2.length_le
 unfold rowN at h1
 rw [List.length_map] at h1
 exact ⟨h1,h2⟩
theorem pre_at {α:Type}{a b:List α}(h:a <+: b){i:Nat}(hi:i < a.length):b[i]?=some a[i]:=by
 obtain ⟨t,rfl⟩:=h
 rw [List.getElem?_append_left hi,List.getElem?_eq_getElem hi]
theorem Ext.nd {g:gra.Gr}{s:Sta}(h:Ext g s){i:Nat}(hi:i < s.ns.length):∃ y,g.ns[i]?=some y∧s.ns[i]=(y.nm,y.cl):=by
 have q:=pre_at h.1 hi
 unfold rowN at q
 rw [List.getElem?_map,Option.map_eq_some_iff] at q
 obtain ⟨y,q1,q2⟩:=q
 exact ⟨y,q1,q2.symm⟩
theorem Ext.cl {g:gra.Gr}{s:Sta}(h:Ext g s){i:Nat}(hi:i < s.cs.length):g.cs[i]?=some s.cs[i]:=pre_at h.2 hi
def Ctx (g:gra.Gr)(c:Int)(n k:Nat):Prop :=
 (∀ i y,n≤i→g.ns[i]?=some y→y.cl≤c∨(k:Int)≤y.cl)∧∀ i x,k≤i→g.cs[i]?=some x→x.2≤c∨(k:Int)≤x.2
theorem Ctx.back {g:gra.Gr}{c:Int}{s s':Sta}(h:Ctx g c s'.ns.length s'.cs.length)(he:Ext g s')(k:Grow c s s'):Ctx g c s.ns.length s.cs.length:=by
 have hl:=k.len
 obtain ⟨A,B,a1,a2,a3,a4,-⟩:=k
 refine ⟨fun i y hi hy=>?_,fun i x hi hx=>?_⟩
 ·by_cases q:i < s'.ns.length
  ·obtain ⟨z,z1,z2⟩:=he.nd q
   rw [hy] at z1
   obtain rfl:=Option.some.inj z1
   have hm:(y.nm,y.cl)∈A:=by
    rw [← z2]
    have:i - s.ns.length < A.length:=by rw [a1,List.length_append] at q;omega
    have e:s'.ns[i]=A[i - s.ns.length]:=by
     simp only [a1]
     rw [List.getElem_append_right hi]
    rw [e];exact List.getElem_mem _
   rcases a3 _ hm with r | r
   ·exact Or.inl (Int.le_of_eq r)
   ·exact Or.inr r.1
  ·rcases h.1 i y (by omega) hy with r | r
   ·exact Or.inl r
   ·exact Or.inr (by omega)
 ·by_cases q:i < s'.cs.length
  ·have z:=he.cl q
   rw [hx] at z
   obtain rfl:=Option.some.inj z
   have hm:s'.cs[i]∈B:=by
    have:i - s.cs.length < B.length:=by rw [a2,List.length_append] at q;omega
    have e:s'.cs[i]=B[i - s.cs.length]:=by
     simp only [a2]
     rw [List.getElem_append_right hi]
    rw [e];exact List.getElem_mem _
   rcases a4 _ hm with r | r
   ·exact Or.inl (Int.le_of_eq r)
   ·exact Or.inr r
  ·rcases h.2 i x (by omega) hx with r | r
   ·exact Or.inl r
   ·exact Or.inr (by omega)
section
variable {g:gra.Gr} {f n k:Nat} {c:Int}
theorem blk_node {y:gra.Nd}(hk:∀ x,g.cs[k]?=some x→¬ (x.2=c∧inC g n k=true))(hn:g.ns[n]?=some y)(hc:y.cl=c):(blkW g (f+1) c n k).2=(blkW g f c (n+1) k).2:=by
 rw [blkW]
 cases h1:g.cs[k]? with
 | none=>simp only [hn];rw [if_pos hc]
 | some x=>simp only [hn];rw [if_neg (hk x h1),if_pos hc]
theorem blk_clu {x:gra.Cl}(hk:g.cs[k]?=some x)(h:x.2=c∧inC g n k=true):(blkW g (f+1) c n k).2=(blkW g f c (blkW g f k n (k+1)).2.1 (blkW g f k n (k+1)).2.2).2:=by
 rw [blkW]
 simp only [hk]
 rw [if_pos h]
theorem blk_stop (hk:∀ x,g.cs[k]?=some x→x.2≠c)(hn:∀ y,g.ns[n]?=some y→y.cl≠c):(blkW g (f+1) c n k).2=(n,k):=by
 rw [blkW]
 cases h1:g.cs[k]? with
 | none =>
  cases h2:g.ns[n]? with
  | none=>rfl
  | some y=>simp only;rw [if_neg (hn y h2)]
 | some x =>
  simp only
  rw [if_neg (fun q=>hk x h1 q.1)]
  cases h2:g.ns[n]? with
  | none=>rfl
  | some y=>simp only;rw [if_neg (hn y h2)]
theorem mem_mems {v:Nat}:v∈gra.mems g k ↔ v < g.ns.length∧gra.has g k v=true:=by
 unfold gra.mems
 rw [List.mem_filter,List.mem_range]
theorem inC_yes (h:n∈gra.mems g k):inC g n k=true:=by
 unfold inC
 rw [List.contains_iff_mem.2 h];rfl
theorem inC_no (h:n ∉ gra.mems g k)(h0:gra.mems g k≠[]):inC g n k=false:=by
 unfold inC
 rw [Bool.or_eq_false_iff]
 refine ⟨?_,?_⟩
 ·cases q:(gra.mems g k).contains n with
  | false=>rfl
  | true=>exact absurd (List.contains_iff_mem.1 q) h
 ·cases q:gra.mems g k with
  | nil=>exact absurd q h0
  | cons a t=>rfl
end
theorem has_k {g:gra.Gr}{k v:Nat}{y:gra.Nd}(h:g.ns[v]?=some y):gra.has g k v=decide ((k:Int)∈gra.ch g.cs y.cl):=by
 unfold gra.has gra.clOf
 simp only [h]
 rw [decide_eq_false (show ¬ (k:Int)=-1 by omega),Bool.false_or]
structure Glob (g:gra.Gr):Prop where
 wf:gra.Wf g.cs
 mem:∀ k,k < g.cs.length→gra.mems g k≠[]
structure At (c:Int)(s:Sta):Prop where
 lo:-1≤c
 hi:c < s.cs.length
 ns:∀ a∈s.ns,a.2 < (s.cs.length:Int)
theorem At.grow {c:Int}{s s':Sta}(h:At c s)(k:Grow c s s'):At c s':=by
 have hl:=k.len
 obtain ⟨A,B,a1,a2,a3,-⟩:=k
 have:=h.hi
 refine ⟨h.lo,by omega,fun a ha=>?_⟩
 rw [a1] at ha
 rcases List.mem_append.1 ha with q | q
 ·have:=h.ns a q;omega
 ·rcases a3 a q with r | r
  ·omega
  ·exact r.2
def fl (g:gra.Gr)(s:Sta):Nat:=(g.ns.length - s.ns.length)+(g.cs.length - s.cs.length)+1
def Run (g:gra.Gr)(c:Int)(s s':Sta):Prop:=∀ f,fl g s≤f→∃ f',fl g s'≤f'∧(blkW g f c s.ns.length s.cs.length).2=(blkW g f' c s'.ns.length s'.cs.length).2
theorem Run.same {g:gra.Gr}{c:Int}{s s':Sta}(h1:s'.ns=s.ns)(h2:s'.cs=s.cs):Run g c s s':=fun f hf=>⟨f,by unfold fl at hf ⊢;rw [h1,h2];exact hf,by rw [h1,h2]⟩
theorem Run.trans {g:gra.Gr}{c:Int}{s t u:Sta}(h:Run g c s t)(k:Run g c t u):Run g c s u:=fun f hf=>by
 obtain ⟨f1,q1,q2⟩:=h f hf
 obtain ⟨f2,r1,r2⟩:=k f1 q1
 exact ⟨f2,r1,q2.trans r2⟩
theorem run_node {g:gra.Gr}(hg:Glob g){c:Int}{s s':Sta}{n:Nm}(ha:At c s)(he:Ext g s')(h1:s'.ns=s.ns ++ [(n,c)])(h2:s'.cs=s.cs):Run g c s s':=fun f hf=>by
 have hl:s'.ns.length=s.ns.length+1:=by rw [h1];simp
 have hle:=he.len
 obtain ⟨y,y1,y2⟩:=he.nd (i:=s.ns.length) (by omega)
 have yc:y.cl=c:=by
  have e:s'.ns[s.ns.length]=(n,c):=by simp [h1]
  rw [e] at y2
  exact (Prod.mk.inj y2).2.symm
 unfold fl at hf
 obtain ⟨f1,rfl⟩:∃ f1,f=f1+1:=⟨f - 1,by omega⟩
 refine ⟨f1,by unfold fl;rw [hl,h2];omega,?_⟩
 rw [hl,h2]
 refine blk_node (fun x hx q=>?_) y1 yc
 have hk:s.cs.length < g.cs.length:=by
  rcases Nat.lt_or_ge s.cs.length g.cs.length with r | r
  ·exact r
  ·rw [List.getElem?_eq_none r] at hx;cases hx
 rw [inC_no (fun hm=>?_) (hg.mem _ hk)] at q
 ·exact absurd q.2 (by decide)
 ·have hh:=(mem_mems.1 hm).2
  rw [has_k y1,decide_eq_true_eq,yc] at hh
  have hc:=ha.hi
  have:=ch_le hg.wf (s.cs.length) c hc _ hh
  omega
theorem run_clu {g:gra.Gr}(hg:Glob g){c:Int}{s s1 s':Sta}{n:Nm}(ha:At c s)(h1:s1.ns=s.ns)(h2:s1.cs=s.cs ++ [(n,c)])(hgr:Grow s.cs.length s1 s')(he:Ext g s')(hx:Ctx g c s'.ns.length s'.cs.length)(hr:Run g s.cs.length s1 s'):Run g c s s':=fun f hf=>by
 have hl1:s1.cs.length=s.cs.length+1:=by rw [h2];simp
 have hle:=he.len
 have hlen:=hgr.len
 have hc:=ha.hi
 have hc0:=ha.lo
 have hek:g.cs[s.cs.length]?=some (n,c):=by
  have e1:=he.back hgr
  have q:=e1.cl (i:=s.cs.length) (by omega)
  rw [q];congr 1;simp [h2]
 have hins:∀ v y,g.ns[v]?=some y→(gra.has g s.cs.length v=true ↔ (s.cs.length:Int)≤y.cl∧y.cl < (s'.cs.length:Int)):=fun v y hy=>by
  rw [has_k hy,decide_eq_true_eq]
  have hout:∀ i:Nat,s'.cs.length≤i→gra.up g.cs i < (s.cs.length:Int)∨(s'.cs.length:Int)≤gra.up g.cs i:=fun i hi=>by
   rcases Nat.lt_or_ge i g.cs.length with r | r
   ·rw [gra.up_at r]
    rcases hx.2 i g.cs[i] hi (List.getElem?_eq_getElem r) with t | t
    ·exact Or.inl (by omega)
    ·exact Or.inr t
   ·refine Or.inl ?_
    unfold gra.up
    rw [show ((i:Int)).toNat=i by omega,List.getElem?_eq_none r]
    simp only
    omega
  have hinn:∀ i:Nat,s.cs.length < i→i < s'.cs.length→((s.cs.length:Nat):Int)≤gra.up g.cs i:=fun i h3 h4=>by
   have r:i < g.cs.length:=by omega
   have q:=he.cl h4
   rw [gra.up_at r]
   rw [List.getElem?_eq_getElem r] at q
   rw [Option.some.inj q]
   obtain ⟨A,B,a1,a2,a3,a4,-⟩:=hgr
   have hm:s'.cs[i]∈B:=by
    have:i - s1.cs.length < B.length:=by rw [a2,List.length_append] at h4;omega
    have e:s'.cs[i]=B[i - s1.cs.length]:=by
     simp only [a2]
     rw [List.getElem_append_right (by omega)]
    rw [e];exact List.getElem_mem _
   rcases a4 _ hm with t | t
   ·omega
   ·omega
  refine ⟨fun hm=>?_,fun hm=>?_⟩
  ·by_cases q:(s.cs.length:Int)≤y.cl∧y.cl < (s'.cs.length:Int)
   ·exact q
   ·exact absurd hm (ch_out hg.wf hout (y.cl+1).toNat y.cl (by omega) (by omega) (by omega))
  ·obtain ⟨j,hj⟩:∃ j:Nat,y.cl=(j:Int):=⟨y.cl.toNat,by omega⟩
   rw [hj]
   exact ch_in hg.wf hinn (j+1) j (by omega) (by omega) (by omega)
 have hmem:s.ns.length∈gra.mems g s.cs.length:=by
  obtain ⟨v,hv⟩:=List.exists_mem_of_ne_nil _ (hg.mem s.cs.length (by omega))
  obtain ⟨v1,v2⟩:=mem_mems.1 hv
  have vy:g.ns[v]?=some g.ns[v]:=List.getElem?_eq_getElem v1
  have vr:=(hins v _ vy).1 v2
  have hns:s.ns.length < s'.ns.length:=by
   rcases Nat.lt_or_ge v s.ns.length with r | r
   ·obtain ⟨y,y1,y2⟩:=(he.back hgr).nd (i:=v) (by rw [h1];exact r)
    rw [vy] at y1
    obtain rfl:=Option.some.inj y1
    have e:s1.ns[v]'(by rw [h1];exact r)=s.ns[v]:=by simp only [h1]
    have:=ha.ns s.ns[v] (List.getElem_mem _)
    rw [← e,y2] at this
    simp only at this
    omega
   ·rcases Nat.lt_or_ge v s'.ns.length with t | t
    ·omega
    ·rcases hx.1 v _ t vy with u | u <;> omega
  obtain ⟨y,y1,y2⟩:=he.nd hns
  refine mem_mems.2 ⟨by omega,(hins _ y y1).2 ?_⟩
  obtain ⟨A,B,a1,a2,a3,-⟩:=hgr
  have hm:(y.nm,y.cl)∈A:=by
   rw [← y2]
   have hA:s'.ns.length=s.ns.length+A.length:=by rw [a1,List.length_append,h1]
   have e:s'.ns[s.ns.length]=A[0]'(by omega):=by
    simp only [a1]
    rw [List.getElem_append_right (by rw [h1];exact Nat.le_refl _)]
    congr 1
    rw [h1];omega
   rw [e];exact List.getElem_mem _
  rcases a3 _ hm with t | t
  ·have t':y.cl=(s.cs.length:Int):=t
   omega
  ·have t':((s1.cs.length:Nat):Int)≤y.cl∧y.cl < (s'.cs.length:Int):=t
   omega
 unfold fl at hf
 obtain ⟨f1,rfl⟩:∃ f1,f=f1+1:=⟨f - 1,by omega⟩
 obtain ⟨f2,q1,q2⟩:=hr f1 (by unfold fl;rw [h1,hl1];omega)
 unfold fl at q1
 obtain ⟨f3,rfl⟩:∃ f3,f2=f3+1:=⟨f2 - 1,by omega⟩
 rw [blk_stop (fun x hxx e=>?_) (fun y hy e=>?_)] at q2
 ·rw [h1,hl1] at q2
  refine ⟨f1,by unfold fl;rw [h1] at hlen;omega,?_⟩
  rw [blk_clu hek ⟨rfl,inC_yes hmem⟩,q2]
 ·rcases hx.2 _ x (Nat.le_refl _) hxx with t | t <;> omega
 ·rcases hx.1 _ y (Nat.le_refl _) hy with t | t <;> omega
def Kn (N:List Nm)(s:Sta):Prop:=∀ m∈N,m∈s.ns.map (·.1)
theorem Kn.grow {N:List Nm}{c:Int}{s s':Sta}(h:Kn N s)(k:Grow c s s'):Kn N s':=fun m hm=>by
 obtain ⟨A,B,a1,-⟩:=k
 rw [a1,List.map_append]
 exact List.mem_append_left _ (h m hm)
theorem ment_known' {s:Sta}{n:Nm}{p:Pl}(h:n∈s.ns.map (·.1)):(mentS s n p).ns=s.ns∧(mentS s n p).cs=s.cs:=by
 have:=(known_iff n s.ns 0).2 h
 unfold mentS
 rw [if_neg (by omega)]
 exact ⟨rfl,rfl⟩
theorem refs_known {p:Pl}:∀ (l:List Pr) (s:Sta),(∀ r∈l,r.1∈s.ns.map (·.1))→(refsS l s p).ns=s.ns∧(refsS l s p).cs=s.cs
 | [],s,_=>⟨rfl,rfl⟩
 | r :: t,s,h=>by
  obtain ⟨h1,h2⟩:=ment_known' (p:=p) (h r (List.mem_cons_self ..))
  unfold refsS
  split
  ·exact ⟨rfl,rfl⟩
  ·obtain ⟨q1,q2⟩:=refs_known t (mentS s r.1 p) (fun x hx=>by rw [h1];exact h x (List.mem_cons_of_mem _ hx))
   exact ⟨q1.trans h1,q2.trans h2⟩
theorem any_no {l:List Pr}{M:List Nm}(h:¬ l.any (fun x=>!M.contains x.1)=true):∀ r∈l,r.1∈M:=fun r hr=>by
 have q:l.any (fun x=>!M.contains x.1)=false:=by simpa using h
 rw [List.any_eq_false] at q
 have:=q r hr
 simpa using this
theorem decL_nil (N:List Nm):decL [] N=(N,true):=by rw [decL]
theorem runs {g:gra.Gr}(hg:Glob g) :
    (∀ x:St,∀ (p:Pl) (s:Sta) (N:List Nm) (lv:Int),(∀ y∈preS x lv,staE y.1 y.2=0)→(stmS x p s).e=0→(decS x N).2=true→Kn N s→At p.cl s→Ext g (stmS x p s)→Ctx g p.cl (stmS x p s).ns.length (stmS x p s).cs.length →
     Kn (decS x N).1 (stmS x p s)∧Run g p.cl s (stmS x p s)) ∧
    ∀ l:List St,∀ (p:Pl) (s:Sta) (N:List Nm) (lv:Int),(∀ y∈preL l lv,staE y.1 y.2=0)→(blkS l p s).e=0→(decL l N).2=true→Kn N s→At p.cl s→Ext g (blkS l p s)→Ctx g p.cl (blkS l p s).ns.length (blkS l p s).cs.length →
     Kn (decL l N).1 (blkS l p s)∧Run g p.cl s (blkS l p s):=by
 refine st_ind (fun k n r a b hb p s N lv hv he hd hk ha hx hc=>?_) (fun p s N lv _ _ _ hk _ _ _=>?_) (fun x t hx ht p s N lv hv he hd hk ha hxt hc=>?_)
 ·have hs:=hv (.mk k n r a b,lv) (by rw [preS_eq];exact List.mem_cons_self ..)
  obtain ⟨hkd,hr,hbd⟩:=sta_parts hs
  rw [preS_eq] at hv
  simp only [St.kind,St.refs,St.body] at hkd hr hbd hv
  rw [decS] at hd ⊢
  by_cases hany:r.any (fun x=>!(if k=1 then N ++ [n] else N).contains x.1)=true
  ·rw [if_pos hany] at hd;exact absurd hd (by simp)
  rw [if_neg hany] at hd ⊢
  have hrf:=any_no hany
  rcases hkd with h | h | h | h | h
  ·subst h
   obtain rfl:=hr (by decide)
   obtain rfl:=hbd (by decide)
   rw [decL_nil,if_pos rfl]
   rw [stmS_1] at hx hc ⊢
   have hgm:=grow_ment s n p
   by_cases hn:n∈s.ns.map (·.1)
   ·obtain ⟨m1,m2⟩:=ment_known' (p:=p) hn
    refine ⟨fun m hm=>?_,Run.same m1 m2⟩
    show m∈(mentS s n p).ns.map (·.1)
    rw [m1]
    rcases List.mem_append.1 hm with q | q
    ·exact hk m q
    ·rw [List.mem_singleton] at q;rw [q];exact hn
   ·have m1:(mentS s n p).ns=s.ns ++ [(n,p.cl)]:=by
      have:¬ 0≤nodeI s.ns n 0:=fun q=>hn ((known_iff n s.ns 0).1 q)
      unfold mentS
      rw [if_pos (by omega)]
    refine ⟨fun m hm=>?_,run_node hg ha hx m1 (ment_cs s n p)⟩
    show m∈(mentS s n p).ns.map (·.1)
    rw [m1,List.map_append]
    rcases List.mem_append.1 hm with q | q
    ·exact List.mem_append_left _ (hk m q)
    ·rw [List.mem_singleton] at q;rw [q];simp
  ·subst h
   obtain rfl:=hbd (by decide)
   rw [decL_nil,if_neg (by decide)]
   rw [if_neg (by decide)] at hrf
   rw [stmS_2]
   obtain ⟨q1,q2⟩:=refs_known (p:=p) r s (fun x hx=>hk _ (hrf x hx))
   have e1:(edgesS s r a p).ns=s.ns:=by unfold edgesS;split <;> exact q1
   have e2:(edgesS s r a p).cs=s.cs:=by unfold edgesS;split <;> exact q2
   exact ⟨fun m hm=>by rw [e1];exact hk m hm,Run.same e1 e2⟩
  ·subst h
   obtain rfl:=hbd (by decide)
   rw [decL_nil,if_neg (by decide),stmS_3]
   exact ⟨hk,Run.same rfl rfl⟩
  ·subst h
   obtain rfl:=hbd (by decide)
   rw [decL_nil,if_neg (by decide),stmS_4]
   exact ⟨hk,Run.same rfl rfl⟩
  ·subst h
   rw [if_neg (by decide)] at hd ⊢
   rw [stmS_5] at he hx hc ⊢
   split at he
   ·exact absurd (show (6:Int)=0 from he) (by decide)
   rename_i hnc
   rw [if_neg hnc] at hx hc ⊢
   have hgr:Grow s.cs.length ⟨s.ns,s.ats,s.cs ++ [(n,p.cl)],s.en,s.e⟩ (blkS b ⟨s.cs.length,p.dn,p.de⟩ ⟨s.ns,s.ats,s.cs ++ [(n,p.cl)],s.en,s.e⟩):=grow_all.2 b ⟨s.cs.length,p.dn,p.de⟩ ⟨s.ns,s.ats,s.cs ++ [(n,p.cl)],s.en,s.e⟩
   have hlen:=hgr.len
   have hhi:=ha.hi
   obtain ⟨q1,q2⟩:=hb ⟨s.cs.length,p.dn,p.de⟩ ⟨s.ns,s.ats,s.cs ++ [(n,p.cl)],s.en,s.e⟩ N (lv+1) (fun y hy=>hv y (List.mem_cons_of_mem _ (by simpa using hy))) he hd hk
    ⟨by show (-1:Int)≤(s.cs.length:Int);omega,by show (s.cs.length:Int) < ((s.cs ++ [(n,p.cl)]).length:Int);simp;omega,fun x hx=>by
     have:=ha.ns x hx
     show x.2 < ((s.cs ++ [(n,p.cl)]).length:Int)
     rw [List.length_append];simp;omega⟩ hx
    ⟨fun i y hi hy=>(hc.1 i y hi hy).imp (fun q=>by show y.cl≤(s.cs.length:Int);omega) id,fun i y hi hy=>(hc.2 i y hi hy).imp (fun q=>by show y.2≤(s.cs.length:Int);omega) id⟩
   exact ⟨q1,run_clu (s1:=⟨s.ns,s.ats,s.cs ++ [(n,p.cl)],s.en,s.e⟩) hg ha rfl rfl hgr hx hc q2⟩
 ·rw [decL_nil,blkS_nil]
  exact ⟨hk,Run.same rfl rfl⟩
 ·have h0:=blk_e _ _ _ he
  rw [preL_cons] at hv
  rw [decL] at hd ⊢
  split at hd
  ·rename_i hf;rw [hf] at hd;exact absurd hd (by decide)
  rename_i hdx
  rw [if_neg hdx]
  rw [blkS_cons,if_neg (by simp [h0])] at he hxt hc ⊢
  split at he
  ·rename_i hne;exact absurd he hne
  rename_i hne
  rw [if_neg hne] at hxt hc ⊢
  have hgt:Grow p.cl (stmS x p s) (blkS t (dflt x.kind x.name x.attrs p) (stmS x p s)):=by
   have q:=grow_all.2 t (dflt x.kind x.name x.attrs p) (stmS x p s)
   rw [dflt_cl] at q;exact q
  have hgx:=grow_all.1 x p s
  obtain ⟨q1,q2⟩:=hx p s N lv (fun y hy=>hv y (List.mem_append_left _ hy)) (blk_e _ _ _ he) (by simpa using hdx) hk ha (hxt.back hgt) (hc.back hxt hgt)
  obtain ⟨r1,r2⟩:=ht (dflt x.kind x.name x.attrs p) (stmS x p s) (decS x N).1 lv (fun y hy=>hv y (List.mem_append_right _ hy)) he hd q1 (by rw [dflt_cl];exact ha.grow hgx) hxt (by rw [dflt_cl];exact hc)
  rw [dflt_cl] at r2
  exact ⟨r1,q2.trans r2⟩
end Go.Proofs.YtgmidodmmlmmeaaGreatDoor.xpt
namespace Go.Proofs.YtgmidodmmlmmeaaGreatDoor.xpt
open Go.RowKit Go.Sort lex tre att nor
theorem nm16 {l:List UInt8}(h:isNm l=true):l.length≤16:=by
 unfold isNm at h
 simp only [Bool.and_eq_true,decide_eq_true_eq] at h
 exact h.1.2
theorem side_len {n:Int}(h0:0≤n)(h3:n≤3):(sideW n).length≤6:=by
 have h:n=0∨n=1∨n=2∨n=3:=by omega
 rcases h with rfl | rfl | rfl | rfl <;> decide
theorem port_len {p:gra.Pt}(h:PtV p):(portT p).length≤23:=by
 have:=nm16 h.1
 have:=side_len h.2.1 h.2.2
 unfold portT
 rw [List.length_append,List.length_cons];omega
theorem ports_len:∀ {ps:List gra.Pt},(∀ p∈ps,PtV p)→(portsT ps).length≤25*ps.length
 | [],_=>by rw [portsT];simp
 | [p],h=>by rw [portsT];have:=port_len (h p (List.mem_cons_self ..));simp;omega
 | p :: q :: t,h=>by
  have ih:=ports_len (ps:=q :: t) (fun x hx=>h x (List.mem_cons_of_mem _ hx))
  have:=port_len (h p (List.mem_cons_self ..))
  rw [portsT,List.length_append,List.length_cons,List.length_cons,List.length_cons]
  rw [List.length_cons] at ih ⊢
  omega
theorem take_one {α:Type}{l:List α}{k:Nat}(h:k < l.length):l.take (k+1)=l.take k ++ [l[k]]:=by rw [List.take_add_one,List.getElem?_eq_getElem h];rfl
end Go.Proofs.YtgmidodmmlmmeaaGreatDoor.xpt
namespace Go.Proofs.YtgmidodmmlmmeaaGreatDoor.xpt
open lex tre att nor
def cluN (g:gra.Gr)(c:Int)(n k:Nat):Bool:=match g.cs[k]? with
 | some x=>decide (x.2=c) && inC g n k
 | none=>false
def nodN (g:gra.Gr)(c:Int)(n:Nat):Bool:=match g.ns[n]? with
 | some y=>decide (y.cl=c)
 | none=>false
section
variable {g:gra.Gr} {f n k:Nat} {c:Int}
theorem cluN_lt (h:cluN g c n k=true):∃ hk:k < g.cs.length,(g.cs[k]).2=c∧inC g n k=true:=by
 unfold cluN at h
 rcases Nat.lt_or_ge k g.cs.length with q | q
 ·rw [List.getElem?_eq_getElem q] at h
  simp only [Bool.and_eq_true,decide_eq_true_eq] at h
  exact ⟨q,h⟩
 ·rw [List.getElem?_eq_none q] at h;cases h
theorem nodN_lt (h:nodN g c n=true):∃ hn:n < g.ns.length,(g.ns[n]).cl=c:=by
 unfold nodN at h
 rcases Nat.lt_or_ge n g.ns.length with q | q
 ·rw [List.getElem?_eq_getElem q] at h
  simp only [decide_eq_true_eq] at h
  exact ⟨q,h⟩
 ·rw [List.getElem?_eq_none q] at h;cases h
theorem cluN_at (hk:k < g.cs.length):cluN g c n k=(decide ((g.cs[k]).2=c) && inC g n k):=by
 unfold cluN;rw [List.getElem?_eq_getElem hk]
theorem cluN_end (hk:¬ k < g.cs.length):cluN g c n k=false:=by
 unfold cluN;rw [List.getElem?_eq_none (by omega)]
theorem nodN_at (hn:n < g.ns.length):nodN g c n=decide ((g.ns[n]).cl=c):=by
 unfold nodN;rw [List.getElem?_eq_getElem hn]
theorem nodN_end (hn:¬ n < g.ns.length):nodN g c n=false:=by
 unfold nodN;rw [List.getElem?_eq_none (by omega)]
theorem step_clu (hk:k < g.cs.length)(h:cluN g c n k=true):blkW g (f+1) c n k=(.mk 5 (g.cs[k]).1 [] [] (blkW g f k n (k+1)).1 :: (blkW g f c (blkW g f k n (k+1)).2.1 (blkW g f k n (k+1)).2.2).1,(blkW g f c (blkW g f k n (k+1)).2.1 (blkW g f k n (k+1)).2.2).2):=by
 obtain ⟨_,h1,h2⟩:=cluN_lt h
 rw [blkW]
 simp only [List.getElem?_eq_getElem hk]
 rw [if_pos ⟨h1,h2⟩]
theorem step_nod (h1:cluN g c n k=false)(hn:n < g.ns.length)(h:nodN g c n=true):blkW g (f+1) c n k=(nodeS (g.ns[n]) :: (blkW g f c (n+1) k).1,(blkW g f c (n+1) k).2):=by
 obtain ⟨_,h2⟩:=nodN_lt h
 rw [blkW]
 cases hq:g.cs[k]? with
 | none =>
  simp only [List.getElem?_eq_getElem hn]
  rw [if_pos h2]
 | some x =>
  simp only [List.getElem?_eq_getElem hn]
  unfold cluN at h1
  rw [hq] at h1
  simp only [Bool.and_eq_false_iff,decide_eq_false_iff_not] at h1
  rw [if_neg (fun q=>by rcases h1 with r | r;exact r q.1;rw [q.2] at r;cases r),if_pos h2]
theorem step_end (h1:cluN g c n k=false)(h:nodN g c n=false):blkW g (f+1) c n k=([],n,k):=by
 have key:(match g.ns[n]? with
       | some y=>if y.cl=c then (nodeS y :: (blkW g f c (n+1) k).1,(blkW g f c (n+1) k).2) else ([],n,k)
       | none=>([],n,k))=(([],n,k):List St × Nat × Nat):=by
  unfold nodN at h
  cases hq:g.ns[n]? with
  | none=>rfl
  | some y =>
   rw [hq] at h
   simp only [decide_eq_false_iff_not] at h
   simp only
   rw [if_neg h]
 rw [blkW]
 cases hq:g.cs[k]? with
 | none=>simp only;exact key
 | some x =>
  simp only
  unfold cluN at h1
  rw [hq] at h1
  simp only [Bool.and_eq_false_iff,decide_eq_false_iff_not] at h1
  rw [if_neg (fun q=>by rcases h1 with r | r;exact r q.1;rw [q.2] at r;cases r)]
  exact key
end
theorem len_cnt:∀ l:List St,l.length≤cnt l
 | []=>Nat.zero_le _
 | x :: t=>by rw [cnt_cons,List.length_cons];have:=len_cnt t;omega
theorem blk_ge (g:gra.Gr):∀ (f:Nat) (c:Int) (n k:Nat),n≤(blkW g f c n k).2.1∧k≤(blkW g f c n k).2.2
 | 0,_,_,_=>⟨Nat.le_refl _,Nat.le_refl _⟩
 | f+1,c,n,k=>by
  cases h1:cluN g c n k with
  | true =>
   obtain ⟨hk,-⟩:=cluN_lt h1
   rw [step_clu hk h1]
   obtain ⟨q1,q2⟩:=blk_ge g f k n (k+1)
   obtain ⟨r1,r2⟩:=blk_ge g f c (blkW g f k n (k+1)).2.1 (blkW g f k n (k+1)).2.2
   exact ⟨by simp only;omega,by simp only;omega⟩
  | false =>
   cases h2:nodN g c n with
   | true =>
    obtain ⟨hn,-⟩:=nodN_lt h2
    rw [step_nod h1 hn h2]
    obtain ⟨r1,r2⟩:=blk_ge g f c (n+1) k
    exact ⟨by simp only;omega,by simp only;omega⟩
   | false=>rw [step_end h1 h2];exact ⟨Nat.le_refl _,Nat.le_refl _⟩
theorem blk_cnt (g:gra.Gr):∀ (f:Nat) (c:Int) (n k:Nat),n≤g.ns.length→k≤g.cs.length→cnt (blkW g f c n k).1+n+k≤(blkW g f c n k).2.1+(blkW g f c n k).2.2
 | 0,_,n,k,_,_=>by show cnt []+n+k≤n+k;rw [show cnt []=0 from rfl];omega
 | f+1,c,n,k,hn,hk=>by
  cases h1:cluN g c n k with
  | true =>
   obtain ⟨hk1,-⟩:=cluN_lt h1
   rw [step_clu hk1 h1]
   obtain ⟨q1,q2⟩:=blk0_le g f k n (k+1) hn hk1
   have r1:=blk_cnt g f k n (k+1) hn hk1
   have r2:=blk_cnt g f c (blkW g f k n (k+1)).2.1 (blkW g f k n (k+1)).2.2 q1 q2
   simp only
   rw [cnt_cons]
   simp only [St.body]
   omega
  | false =>
   cases h2:nodN g c n with
   | true =>
    obtain ⟨hn1,-⟩:=nodN_lt h2
    rw [step_nod h1 hn1 h2]
    have r2:=blk_cnt g f c (n+1) k hn1 hk
    simp only
    rw [cnt_cons]
    have:cnt (nodeS g.ns[n]).body=0:=rfl
    omega
   | false=>rw [step_end h1 h2];simp only;rw [show cnt []=0 from rfl];omega
def addT (l:List Pr)(k v wo:List UInt8):List Pr:=if v=wo then l else l ++ [(k,v)]
theorem fmt_inj {a b:Int}(ha:-268435456≤a∧a≤268435456)(hb:-268435456≤b∧b≤268435456):fmtL a=fmtL b ↔ a=b:=by
 refine ⟨fun h=>?_,fun h=>by rw [h]⟩
 have h1:=prL_fmt a ha.1 ha.2
 have h2:=prL_fmt b hb.1 hb.2
 rw [h,h2] at h1
 exact (Prod.mk.inj h1).1.symm
theorem ports_iff (ps:List gra.Pt):portsT ps=[] ↔ ps=[]:=⟨fun h=>Decidable.byContradiction fun q=>ports_ne q h,fun h=>by rw [h,portsT]⟩
theorem addT_app {l:List Pr}{k v wo:List UInt8}{P:Prop}[Decidable P](h:v=wo ↔ P):addT l k v wo=l ++ (if P then [] else [(k,v)]):=by
 unfold addT
 by_cases q:P
 ·rw [if_pos (h.2 q),if_pos q,List.append_nil]
 ·rw [if_neg (fun e=>q (h.1 e)),if_neg q]
theorem addT_len (l:List Pr)(k v wo:List UInt8):(addT l k v wo).length≤l.length+1:=by
 unfold addT
 split
 ·omega
 ·rw [List.length_append];simp
theorem nodeA_bnd {x:gra.Nd}(h:NdV x):∀ r∈nodeA x,r.1.length≤maxLen∧r.2.length≤maxLen:=by
 have b1:=fmtL_le x.h (by have:=h.h;omega) (by have:=h.h;omega)
 have b2:=fmtL_le x.w (by have:=h.w;omega) (by have:=h.w;omega)
 have b3:=h.lb
 have b4:=ports_len h.pv
 have b5:=h.len
 have hm:1000≤maxLen:=by decide
 intro r hr
 unfold nodeA at hr
 simp only [List.mem_append] at hr
 rcases hr with q | q | q | q
 all_goals
  obtain ⟨rfl,-⟩:=mem_one q
  refine ⟨?_,?_⟩
  ·show _≤maxLen
   simp only [wHeight,wLabel,wPorts,wWidth,List.length_cons,List.length_nil];omega
  ·show _≤maxLen
   simp only;omega
theorem edge_in {g:gra.Gr}(hg:GV g){e:gra.Ed}(he:e∈g.es):0≤e.fr∧0≤e.to∧-1≤e.fp∧e.fp < (ndAt g.ns e.fr).ps.length∧-1≤e.tp∧e.tp < (ndAt g.ns e.to).ps.length∧e.fr < g.ns.length∧e.to < g.ns.length:=by
 obtain ⟨a,b,c,d,x,y,z,t⟩:=hg.ef e he
 exact ⟨a,c,x,y,z,t,b,d⟩
theorem ref_bnd {x:gra.Nd}(h:NdV x){p:Int}(hp:p < x.ps.length):(refP x p).1.length≤maxLen∧(refP x p).2.length≤maxLen:=by
 have hm:1000≤maxLen:=by decide
 have h1:=nm16 h.nm
 unfold refP
 refine ⟨by simp only;omega,?_⟩
 simp only
 split
 ·exact Nat.zero_le _
 ·have hl:p.toNat < x.ps.length:=by omega
  rw [List.getD_eq_getElem?_getD,List.getElem?_eq_getElem hl]
  have:=nm16 (h.pv _ (List.getElem_mem hl)).1
  simp only [Option.getD_some];omega
theorem edgeA_bnd {e:gra.Ed}(h:EdV e):∀ r∈edgeA e,r.1.length≤maxLen∧r.2.length≤maxLen:=by
 have b1:=fmtL_le (1000*e.ln) (by have:=h.ln;omega) (by have:=h.ln;omega)
 have b2:=fmtL_le (1000*e.wt) (by have:=h.wt;omega) (by have:=h.wt;omega)
 have b3:=h.lb
 have hm:1000≤maxLen:=by decide
 intro r hr
 unfold edgeA at hr
 simp only [List.mem_append] at hr
 rcases hr with q | q | q
 all_goals
  obtain ⟨rfl,-⟩:=mem_one q
  refine ⟨?_,?_⟩
  ·show _≤maxLen
   simp only [wLabel,wLen,wWeight,List.length_cons,List.length_nil];omega
  ·show _≤maxLen
   simp only;omega
end Go.Proofs.YtgmidodmmlmmeaaGreatDoor.xpt
