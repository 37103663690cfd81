/-
  Layer 8 (printer) as lists of bytes: the text of a tree, and that different valid trees have different texts (P8.4). No function of the program is named here; no condition.
  The printer's writer in memory, and what the methods of its builder do to it. Conditions: texts of at most 2^41 bytes.
  Different valid trees have different texts (P8.4), as lists of bytes. No function of the program is named here; no condition.
  Different valid trees have different texts (P8.4): statements and trees. No function of the program is named here; no condition.
-/
import Derived.Test.YtgmidodmmlmmeaaGreatDoorMta
import Derived.Test.YtgmidodmmlmmeaaGreatDoorMxb
namespace Go.Proofs.YtgmidodmmlmmeaaGreatDoor.prt
open lex tre
section
variable (pr:List UInt8→Int × Int)
def valS (v:List UInt8):List UInt8:=if isNm v=true then v else if (pr v).2=0 then v else quoL v
def attB (a:Pr):List UInt8:=a.1 ++ 61 :: valS pr a.2
def attT:List Pr→List UInt8
 | []=>[93]
 | a :: t=>44 :: 32 :: (attB pr a ++ attT t)
def attS:List Pr→List UInt8
 | []=>[]
 | a :: t=>91 :: (attB pr a ++ attT pr t)
def aft (l:List Pr):List UInt8:=if l.isEmpty then [] else 32 :: attS pr l
def prtP (p:List UInt8):List UInt8:=if p.isEmpty then [] else 58 :: p
def refT (d:Bool):List Pr→List UInt8
 | []=>[]
 | r :: t=>32 :: 45 :: (if d then 62 else 45) :: 32 :: (r.1 ++ (prtP r.2 ++ refT d t))
def refS (d:Bool):List Pr→List UInt8
 | []=>[]
 | r :: t=>r.1 ++ (prtP r.2 ++ refT d t)
def wSet:List UInt8:=[115,101,116]
def wClu:List UInt8:=[99,108,117,115,116,101,114]
mutual
def stS (d:Bool)(m:Nat):St→List UInt8
 | .mk k n r a b =>
  List.replicate m 32 ++
  (if k=1 then n ++ (aft pr a ++ [59,10])
  else if k=2 then refS d r ++ (aft pr a ++ [59,10])
  else if k=3 then n ++ 32 :: ((if a.isEmpty then [91,93] else attS pr a) ++ [59,10])
  else if k=4 then wSet ++ 32 :: (n ++ 32 :: 61 :: 32 :: (valS pr ((a.head?.map (·.2)).getD []) ++ [59,10]))
  else wClu ++ 32 :: (n ++ 32 :: 123 :: 10 :: (stL d (m+4) b ++ (List.replicate m 32 ++ [125,10]))))
def stL (d:Bool)(m:Nat):List St→List UInt8
 | []=>[]
 | s :: t=>stS d m s ++ stL d m t
end
def wDir (d:Bool):List UInt8:=if d then [100,105,103,114,97,112,104] else [103,114,97,112,104]
def txtT (T:Tr):List UInt8:=wDir T.dir ++ 32 :: (T.name ++ 32 :: 123 :: 10 :: (stL pr T.dir 4 T.body ++ [125,10]))
def prtT (T:Tr):List UInt8:=if validT T=0 then txtT pr T else []
theorem nm_word {l:List UInt8}(h:isNm l=true):l.all isWd=true∧l≠[]:=by
 unfold isNm at h
 simp only [Bool.and_eq_true,Bool.not_eq_true',decide_eq_true_eq] at h
 obtain ⟨⟨⟨h1,h2⟩,_⟩,_⟩:=h
 cases l with
 | nil=>cases h1
 | cons c t =>
  refine ⟨?_,by simp⟩
  rw [wordLen_cons] at h2
  by_cases hc:isLet c=true
  ·rw [if_pos hc,List.length_cons] at h2
   rw [List.all_cons,Bool.and_eq_true]
   refine ⟨by unfold isWd;rw [hc];rfl,?_⟩
   have e:=takeWhile_take isWd t
   rw [show (t.takeWhile isWd).length=t.length by omega,List.take_length] at e
   have h3:=List.all_takeWhile (p:=isWd) (l:=t)
   rw [← e] at h3
   exact h3
  ·rw [if_neg hc] at h2;simp at h2
def isUq (c:UInt8):Bool:=isNb c || decide (c.toNat=45)
theorem nb_uq {c:UInt8}(h:isNb c=true):isUq c=true:=by unfold isUq;rw [h];rfl
theorem all_mono {p q:UInt8→Bool}{l:List UInt8}(h:l.all p=true)(hpq:∀ c,p c=true→q c=true):l.all q=true:=by
 rw [List.all_eq_true] at h ⊢;exact fun x hx=>hpq x (h x hx)
theorem dgt_nb {c:UInt8}(h:isDgt c=true):isNb c=true:=by unfold isNb isWd;rw [h];simp
theorem num_uq {l:List UInt8}(h:numForm l):l.all isUq=true∧l≠[]:=by
 obtain ⟨c,t,h1,h2,h3⟩:=h
 have ht:=all_mono h2 (fun c=>nb_uq)
 have hc:=nb_uq (dgt_nb h1)
 rcases h3 with rfl | rfl
 ·exact ⟨by rw [List.all_cons,hc,ht];rfl,by simp⟩
 ·exact ⟨by rw [List.all_cons,List.all_cons,hc,ht];rfl,by simp⟩
variable {pr}
end
end Go.Proofs.YtgmidodmmlmmeaaGreatDoor.prt
namespace Go.Proofs.YtgmidodmmlmmeaaGreatDoor.prt
open Go.RowKit lex tre
def BdP (T:TypeId)(r:List Value)(w:World)(b:Nat)(p:Value)(acc:List UInt8):Prop :=
 ∃ v,w.heap[b]?=some (.cells (p :: v :: r).toArray T (0,0))∧Byt w b v acc
def Bd (T:TypeId)(r:List Value)(w:World)(b:Nat)(acc:List UInt8):Prop:=BdP T r w b (.pointer none) acc∨BdP T r w b (.pointer (some ⟨b,0,none⟩)) acc
abbrev Wr (w:World)(b:Nat)(acc:List UInt8)(lev:Int)(arr:ByteArray):Prop:=Bd 151 [.int .i64 lev,.string arr] w b acc
structure BT (T:TypeId)(n:Nat):Prop where
 ne:T≠5
 lies:liesAt Tryz.prog Tryz.prog.depth T ((n+2) / Tryz.prog.cellsOf T) 0 149 1=true
theorem bt_writer:BT 151 2:=⟨by decide,by kernel_rfl⟩
theorem bt_builder:BT 149 0:=⟨by decide,by kernel_rfl⟩
def Fr (b:Nat)(w w':World):Prop:=Below b w w'∧Lib.OthersKept 5 (some b) w w'
theorem Fr.refl (b:Nat)(w:World):Fr b w w:=⟨Below.refl _ _,Lib.OthersKept.refl _ _ _⟩
theorem Fr.trans {b:Nat}{u v w:World}(h:Fr b u v)(k:Fr b v w):Fr b u w:=⟨h.1.trans k.1,h.2.trans k.2⟩
theorem Fr.drew {b:Nat}{u w:World}(h:Fr b u w):Fr b u w.drew:=⟨h.1.drew,h.2.drew⟩
theorem Fr.of {b:Nat}{w w':World}(h:Below w.heap.size w w')(hb:b≤w.heap.size):Fr b w w' :=
 ⟨h.mono hb,fun k o hk _ _=>by rw [h.block k (Array.getElem?_eq_some_iff.1 hk).1];exact hk⟩
theorem Fr.alloc {b:Nat}{u w:World}(h:Fr b u w)(hb:b≤w.heap.size)(o:Obj):Fr b u (w.alloc o):=⟨h.1.alloc hb o,h.2.alloc o⟩
theorem Fr.heap {b k:Nat}{w w':World}{c:Array Value}{t:TypeId}{fz:Nat × Nat}(h:Fr b w w')(hk:w.heap[k]?=some (.cells c t fz))(ht:t≠5)(hb:k≠b):w'.heap[k]?=some (.cells c t fz) :=
 h.2 k _ hk (fun e=>hb (Option.some.inj e)) (fun c' fz' e=>by cases e;exact ht rfl)
section
variable {T:TypeId} {r:List Value}
theorem BdP.lt {w:World}{b:Nat}{p:Value}{acc:List UInt8}(h:BdP T r w b p acc):b < w.heap.size:=by
 obtain ⟨v,hb,_⟩:=h;exact (Array.getElem?_eq_some_iff.1 hb).1
theorem Bd.lt {w:World}{b:Nat}{acc:List UInt8}(h:Bd T r w b acc):b < w.heap.size:=h.elim BdP.lt BdP.lt
theorem BdP.keep {w w':World}{b:Nat}{p:Value}{acc:List UInt8}(h:BdP T r w b p acc)(hb:Below w.heap.size w w'):BdP T r w' b p acc:=by
 have hl:=h.lt
 obtain ⟨v,h1,h2⟩:=h
 exact ⟨v,by rw [hb.block b hl];exact h1,h2.later hb⟩
theorem Bd.keep {w w':World}{b:Nat}{acc:List UInt8}(h:Bd T r w b acc)(hb:Below w.heap.size w w'):Bd T r w' b acc:=h.imp (·.keep hb) (·.keep hb)
theorem Bd.drew {w:World}{b:Nat}{acc:List UInt8}(h:Bd T r w b acc):Bd T r w.drew b acc:=h
theorem Bd.alloc {w:World}{b:Nat}{acc:List UInt8}(h:Bd T r w b acc)(o:Obj):Bd T r (w.alloc o) b acc:=h.keep (al1 w o)
end
theorem wr_new (w:World)(arr:ByteArray):Wr (w.alloc (.cells #[.pointer none,.slice none 0 0,.int .i64 0,.string arr] 151)) w.heap.size [] 0 arr :=
 Or.inl ⟨_,heap_alloc_new w _,Byt.nil _ _⟩
theorem byt_ne {w:World}{B b:Nat}{v:Value}{l:List UInt8}{c:Array Value}{t:TypeId}(h:Byt w B v l)(hb:w.heap[b]?=some (.cells c t (0,0)))(ht:t≠5):v.ownBlock≠some b:=Lib.ownBlock_ne h hb ht
theorem bd_set {T:TypeId}{w:World}{b:Nat}{v:Value}{acc:List UInt8}{cs:Array Value}(hT:T≠5)(hb:w.heap[b]?=some (.cells cs T (0,0)))(h:Byt w b v acc)(i:Nat)(x:Value) :
    (w.setCell ⟨b,i,none⟩ x).heap[b]?=some (.cells (cs.setIfInBounds i x) T (0,0))∧Byt (w.setCell ⟨b,i,none⟩ x) b v acc:=by
 refine ⟨?_,World.ownsRow.kept (row:=some b) h ⟨rfl,rfl,rfl,by simp [World.setCell],fun k _ hk=>Below.heap_setCell _ _ _ _ (fun e=>hk (by simp [e]))⟩ (Or.inr (byt_ne h hb hT))⟩
 simp [World.setCell,Array.getElem?_modify,hb]
theorem Fr.set {b:Nat}{u w:World}(h:Fr b u w)(i:Nat)(x:Value):Fr b u (w.setCell ⟨b,i,none⟩ x):=⟨h.1.setCell (p:=⟨b,i,none⟩) (Nat.le_refl _) _,h.2.setCell ⟨b,i,none⟩ rfl _⟩
theorem Fr.grown {b:Nat}{u w w':World}{v:Value}{l:List UInt8}(h:Fr b u w)(hb:b≤w.heap.size)(hv:Byt w b v l)(hg:w.grownBy w' v.ownBlock):Fr b u w' :=
 ⟨h.1.grown hg hb (fun k hk=>(World.ownsRow.lt hv k hk).1),h.2.grown hg (Lib.ownsRowF_kind (World.ownsRowF_of hv))⟩
theorem app_text {w:World}{ops:Array Oper}{rest:List Oper}{o:Oper}{a:Act}{Q:Exit→Act→World→Prop}(hg:o.guard=none)(x y:Operand)(ho:o.op=.call { callee:=.builtin .append,args:=#[x,y],argTypes:=#[147,9] })
    (B:Nat) (v:Value) (l:List UInt8) (s:ByteArray) (hs:a.eval x=v) (hx:a.eval y=.string s) (h:Hid (Byt w B v l)) (hl:l.length+s.size≤2199023255552) (hB:B≤w.heap.size)
    (hK:∀ v' w',Byt w' B v' (l ++ s.data.toList)→w.grownBy w' v.ownBlock→wpList Tryz.prog ops Q rest (a.put o.dst v') w'):wpList Tryz.prog ops Q (o :: rest) a w:=by
 obtain ⟨i0,hi,hz0,hz1,hz2⟩:=info_byte
 refine Lib.wpList_append_own_string w hg x y 147 9 ho B 5 i0 Tryz.underlying147 Tryz.underlying9 hi hz0 hz1 hz2 v l.length _ hs h.out s hx (by unfold maxLen;omega) (by omega) hB ?_
 intro v' w' hown hgrow _
 refine hK v' w' ?_ hgrow
 have e:Lib.byteCells (l ++ s.data.toList)=Lib.byteCells l ++ Lib.strCells s:=by unfold Lib.byteCells;rw [List.map_append];rfl
 unfold Byt
 rw [e,List.length_append,size_list]
 exact hown
theorem app_one {w:World}{ops:Array Oper}{rest:List Oper}{o:Oper}{a:Act}{Q:Exit→Act→World→Prop}(hg:o.guard=none)(x y:Operand)(ho:o.op=.call { callee:=.builtin .append,args:=#[x,y],argTypes:=#[147,147] })
    (B:Nat) (v:Value) (l:List UInt8) (c:UInt8) (b:Int) (hs:a.eval x=v) (hx:a.eval y=.slice (some ⟨w.heap.size,0,none⟩) 1 1) (h:Hid (Byt w B v l)) (hb:Hid (b=(c.toNat:Int))) (hl:l.length≤2199023255552) (hB:B≤w.heap.size)
    (hK:∀ v' w',Byt w' B v' (l ++ [c])→w.grownBy w' v.ownBlock→wpList Tryz.prog ops Q rest (a.put o.dst v') w'):wpList Tryz.prog ops Q (o :: rest) a (w.alloc (.cells #[.int .u8 b] 5)):=by
 obtain ⟨i0,hi,hz0,hz1,hz2⟩:=info_byte
 refine wpList_append_own _ hg x y 147 ho B 5 i0 (.int .u8 0) 1 1 Tryz.underlying147 hi hz0 hz1 hz2 rfl (by decide) v l.length _ hs (World.ownsRow.alloc h.out _) ⟨w.heap.size,0,none⟩ 1 1 [.int .u8 b] hx rfl (cell1_new _ _ _) (by simp [Value.oneCell']) (by unfold maxLen;omega) (by omega) (by simp;omega) ?_
 intro v' w' hown hgrow _
 refine hK v' w' ?_ ?_
 ·unfold Byt;rw [byt_snoc,List.length_append,← hb.out];exact hown
 ·refine ⟨hgrow.os,hgrow.tape,hgrow.output,Nat.le_trans (by simp) hgrow.size,fun k hk hne=>?_⟩
  rw [hgrow.block k (by simp;omega) hne,heap_alloc_old w _ hk]
theorem size_builder:∃ j,Tryz.prog.info? 149=some j∧j.size=2:=by
 have h:(Tryz.prog.info? 149).map (·.size)=some 2:=by kernel_rfl
 exact Option.map_eq_some_iff.1 h
set_option maxRecDepth 100000 in
set_option maxHeartbeats 2000000 in
theorem cc_used (b:Nat)(w:World)(h0:w.cell? ⟨b,0,none⟩=some (.pointer (some ⟨b,0,none⟩))) :
    Calls Tryz.prog 250 #[.pointer (some ⟨b,0,none⟩)] w fun e w'=>e=.returned (.tuple #[])∧w'=w:=by
 obtain ⟨j,hj,_⟩:=size_builder
 go_enter Tryz.func250,Tryz.ntmps250
 go_wp2
 rw [Lib.run_neq_ptr_same w _ Tryz.underlying146 hj]
 go_wp2
 go_end0
 exact ⟨rfl,rfl⟩
set_option maxRecDepth 100000 in
set_option maxHeartbeats 2000000 in
theorem cc_fresh {T:TypeId}{n:Nat}(hT:BT T n)(b:Nat)(w:World)(h0:w.cell? ⟨b,0,none⟩=some (.pointer none))(hsh:w.shape? b=some (T,n+2))(hfz:w.frozen? ⟨b,0,none⟩=false) :
    Calls Tryz.prog 250 #[.pointer (some ⟨b,0,none⟩)] w fun e w'=>e=.returned (.tuple #[])∧w'=w.setCell ⟨b,0,none⟩ (.pointer (some ⟨b,0,none⟩)):=by
 obtain ⟨j,hj,hjs⟩:=size_builder
 go_enter Tryz.func250,Tryz.ntmps250
 go_wp2
 rw [Lib.run_to_unsafe w ⟨b,0,none⟩ Tryz.underlying146 Tryz.underlying320 hj (by rw [hjs];decide) hsh (Nat.zero_lt_succ _)]
 simp only [Result.andThen]
 rw [Oper.upon_value]
 go_wp2
 rw [run_callFunc_extern Tryz.func281 (by kernel_rfl) (by kernel_rfl) (by kernel_rfl) (e:=Extern.AbiNoEscape.same) (by kernel_rfl)]
 rw [Lib.run_noEscape]
 simp only [Result.andThen]
 rw [Oper.upon_value]
 go_wp2
 rw [Lib.run_from_unsafe w ⟨b,0,none⟩ Tryz.underlying320 Tryz.underlying146 hj hsh hT.lies]
 simp only [Result.andThen]
 rw [Oper.upon_value]
 go_wp2
 go_end0
 exact ⟨rfl,rfl⟩
section
variable {T:TypeId} {r:List Value}
theorem cc_of (hT:BT T r.length)(b:Nat)(acc:List UInt8)(w:World)(h:Hid (Bd T r w b acc)) :
    Calls Tryz.prog 250 #[.pointer (some ⟨b,0,none⟩)] w fun e w'=>e=.returned (.tuple #[])∧BdP T r w' b (.pointer (some ⟨b,0,none⟩)) acc∧Fr b w w':=by
 rcases h.out with ⟨v,hb,hv⟩ | ⟨v,hb,hv⟩
 ·refine (cc_fresh hT b w (by rw [Lib.cell_of_heap hb];rfl) (by simp [World.shape?,hb]) (Lib.frozen_of_heap hb 0)).mono ?_
  rintro e w' ⟨rfl,rfl⟩
  obtain ⟨h1,h2⟩:=bd_set hT.ne hb hv 0 (.pointer (some ⟨b,0,none⟩))
  exact ⟨rfl,⟨v,by rw [h1];simp,h2⟩,(Fr.refl b w).set _ _⟩
 ·refine (cc_used b w (by rw [Lib.cell_of_heap hb];rfl)).mono ?_
  rintro e w' ⟨rfl,rfl⟩
  exact ⟨rfl,⟨v,hb,hv⟩,Fr.refl b _⟩
set_option maxRecDepth 100000 in
set_option maxHeartbeats 4000000 in
theorem wstr_of (hT:BT T r.length)(b:Nat)(acc:List UInt8)(s:ByteArray)(w:World)(h:Hid (Bd T r w b acc))(hl:acc.length+s.size≤2199023255552) :
    Calls Tryz.prog 201 #[.pointer (some ⟨b,0,none⟩),.string s] w fun e w'=>e=.returned (.tuple #[.int .i64 s.size,.nilIface])∧Bd T r w' b (acc ++ s.data.toList)∧Fr b w w':=by
 have hne:=hT.ne
 go_enter Tryz.func201,Tryz.ntmps201
 go_wp2_with (go_at_call 250;refine (cc_of hT b acc _ h).mono ?_)
 rintro e w1 ⟨rfl,h1,hf1⟩
 have hlt:=h1.lt
 obtain ⟨v,hb,hv⟩:=h1
 obtain ⟨a0,k0,rfl,-,-⟩:=id hv.len
 have HV:=Lh hv
 have c1:w1.cell? ⟨b,1,none⟩=some (.slice a0 acc.length k0):=by rw [Lib.cell_of_heap hb];rfl
 have HB:=Lh hb
 clear hv hb h
 go_wp2_with (at_builtin;refine app_text rfl (.tmp 12) (.tmp 13) rfl b _ acc s rfl rfl HV hl (by omega) ?_)
 intro v2 w2 hv2 hgrow
 have hb2:w2.heap[b]?=_:=(hgrow.block b hlt (fun e=>byt_ne HV.out HB.out hne e.symm)).trans HB.out
 have hf2:=hf1.grown (by omega) HV.out hgrow
 have f1:w2.frozen? ⟨b,1,none⟩=false:=Lib.frozen_of_heap hb2 1
 have c2:w2.cell? ⟨b,1,none⟩=some (.slice a0 acc.length k0):=by rw [Lib.cell_of_heap hb2];rfl
 obtain ⟨ao,N,cap,rfl⟩:∃ ao N cap,v2=.slice ao N cap:=by obtain ⟨x,y,e,_,_⟩:=hv2.len;exact ⟨x,_,y,e⟩
 clear hgrow
 go_wp2
 go_ret2
 obtain ⟨h3,h4⟩:=bd_set hne hb2 hv2 1 (.slice ao N cap)
 exact ⟨rfl,Or.inr ⟨_,by rw [h3];simp,h4⟩,hf2.set _ _⟩
set_option maxRecDepth 100000 in
set_option maxHeartbeats 4000000 in
theorem wbyte_of (hT:BT T r.length)(b:Nat)(acc:List UInt8)(c:UInt8)(x:Int)(w:World)(h:Hid (Bd T r w b acc))(hl:acc.length≤2199023255552)(hx:Hid (x=(c.toNat:Int))) :
    Calls Tryz.prog 202 #[.pointer (some ⟨b,0,none⟩),.int .u8 x] w fun e w'=>e=.returned .nilIface∧Bd T r w' b (acc ++ [c])∧Fr b w w':=by
 have hne:=hT.ne
 go_enter Tryz.func202,Tryz.ntmps202
 go_wp2_with (go_at_call 250;refine (cc_of hT b acc _ h).mono ?_)
 rintro e w1 ⟨rfl,h1,hf1⟩
 have hlt:=h1.lt
 obtain ⟨v,hb,hv⟩:=h1
 obtain ⟨a0,k0,rfl,-,-⟩:=id hv.len
 have HV:=Lh hv
 have c1:w1.cell? ⟨b,1,none⟩=some (.slice a0 acc.length k0):=by rw [Lib.cell_of_heap hb];rfl
 have HB:=Lh hb
 clear hv hb h
 go_wp2_with (at_builtin;refine app_one rfl (.tmp 11) (.tmp 13) rfl b _ acc c x rfl rfl HV hx hl (by omega) ?_)
 intro v2 w2 hv2 hgrow
 have hb2:w2.heap[b]?=_:=(hgrow.block b hlt (fun e=>byt_ne HV.out HB.out hne e.symm)).trans HB.out
 have hf2:=hf1.grown (by omega) HV.out hgrow
 have f1:w2.frozen? ⟨b,1,none⟩=false:=Lib.frozen_of_heap hb2 1
 have c2:w2.cell? ⟨b,1,none⟩=some (.slice a0 acc.length k0):=by rw [Lib.cell_of_heap hb2];rfl
 obtain ⟨ao,N,cap,rfl⟩:∃ ao N cap,v2=.slice ao N cap:=by obtain ⟨x,y,e,_,_⟩:=hv2.len;exact ⟨x,_,y,e⟩
 clear hgrow
 go_wp2
 go_ret
 obtain ⟨h3,h4⟩:=bd_set hne hb2 hv2 1 (.slice ao N cap)
 exact ⟨rfl,Or.inr ⟨_,by rw [h3];simp,h4⟩,hf2.set _ _⟩
set_option maxRecDepth 100000 in
set_option maxHeartbeats 4000000 in
theorem wtext_of (b:Nat)(acc:List UInt8)(w:World)(h:Hid (Bd T r w b acc))(h0:acc≠[]) :
    Calls Tryz.prog 87 #[.pointer (some ⟨b,0,none⟩)] w fun e w'=>e=.returned (.string (ba acc))∧Below b w w':=by
 obtain ⟨p,v,hb,hv⟩:∃ p,BdP T r w b p acc:=by
  rcases h.out with h | h
  ·exact ⟨_,h⟩
  ·exact ⟨_,h⟩
 have hl0:acc.length≠0:=by simpa using h0
 obtain ⟨g,cap,cur,rfl,hbg,hg,hnc,hcm,hcs,htake⟩:∃ g cap cur,v=.slice (some ⟨g,0,none⟩) acc.length cap∧b≤g∧w.heap[g]?=some (.cells cur 5 (0,0))∧acc.length≤cap∧cap≤maxLen∧cur.size=cap*1∧cur.toList.take (acc.length*1)=Lib.byteCells acc:=by
  rcases hv.2 with ⟨_,hz⟩ | ⟨g,cap,cur,e,r⟩
  ·exact absurd hz hl0
  ·exact ⟨g,cap,cur,e,r⟩
 have c1:w.drew.cell? ⟨b,1,none⟩=some (.slice (some ⟨g,0,none⟩) acc.length cap):=by
  have hb':w.drew.heap[b]?=_:=hb
  rw [Lib.cell_of_heap hb'];rfl
 have hSD:(Builtin.unsafeSliceData_ #[147] 226 #[.slice (some ⟨g,0,none⟩) acc.length cap]).run Tryz.prog w.drew=.ok (.pointer (some ⟨g,0,none⟩)) w.drew :=
  Lib.run_unsafeSliceData_row _ _ _ _ _ _ (by omega)
 have hUS:(Builtin.unsafeString_ #[226,3] 9 #[.pointer (some ⟨g,0,none⟩),.int .i64 acc.length]).run Tryz.prog w.drew=.ok (.string ⟨acc.toArray⟩) (w.drew.freeze ⟨g,0,none⟩ acc.length):=by
  have hg':w.drew.heap[g]?=some (.cells cur 5 (0,0)):=hg
  refine Lib.run_unsafeString_row w.drew 226 3 9 5 Tryz.underlying226 (by kernel_rfl) g cur.size (by simp [World.shape?,hg']) acc h0 (by omega) (by unfold maxLen at hcm;omega) ?_
  intro j x hx
  exact World.ownsRow.cells hv (g:=g) rfl j (.int .u8 x.toNat) (by simp [Lib.byteCells,hx])
 have HG:=Lh hbg
 clear hb hv h hbg hg hcs htake hnc hcm hl0 h0
 go_enter Tryz.func87,Tryz.ntmps87
 go_wp2
 go_region
 all_goals
  go_wp2
  go_ret
  exact ⟨rfl,Lib.below_freeze (Below.drew (Below.refl b w)) (p:=⟨g,0,none⟩) HG.out _⟩
end
end Go.Proofs.YtgmidodmmlmmeaaGreatDoor.prt
namespace Go.Proofs.YtgmidodmmlmmeaaGreatDoor.prt
open lex tre
section
variable {pr:List UInt8→Int × Int}
def keysW (l:List Pr):Prop:=∀ a∈l,a.1.all isWd=true
theorem attT_head (l:List Pr)(s:List UInt8):∃ x u,attT pr l ++ s=x :: u∧isUq x=false:=by
 cases l with
 | nil=>exact ⟨93,s,rfl,by decide⟩
 | cons a t=>exact ⟨44,_,rfl,by decide⟩
def RStop (s:List UInt8):Prop:=(∃ u,s=59 :: u)∨∃ u,s=32 :: 91 :: u
theorem aft_stop (l:List Pr)(s:List UInt8):RStop (aft pr l ++ 59 :: s):=by
 cases l with
 | nil=>exact Or.inl ⟨s,rfl⟩
 | cons a t=>exact Or.inr ⟨_,by simp only [aft,attS,List.isEmpty_cons,Bool.false_eq_true,if_false,List.cons_append];rfl⟩
def PStop (s:List UInt8):Prop:=(∃ u,s=59 :: u)∨∃ u,s=32 :: u
theorem refT_stop (d:Bool)(l:List Pr){s:List UInt8}(h:RStop s):PStop (refT d l ++ s):=by
 cases l with
 | nil =>
  rcases h with ⟨u,rfl⟩ | ⟨u,rfl⟩
  ·exact Or.inl ⟨u,rfl⟩
  ·exact Or.inr ⟨_,rfl⟩
 | cons r t=>exact Or.inr ⟨_,rfl⟩
theorem PStop.cons {s:List UInt8}(h:PStop s):∃ x u,s=x :: u∧isWd x=false∧x≠58:=by
 rcases h with ⟨u,rfl⟩ | ⟨u,rfl⟩
 ·exact ⟨_,_,rfl,by decide,by decide⟩
 ·exact ⟨_,_,rfl,by decide,by decide⟩
theorem prtP_head (p:List UInt8){s:List UInt8}(h:PStop s):∃ x u,prtP p ++ s=x :: u∧isWd x=false:=by
 cases p with
 | nil=>obtain ⟨x,u,e,h1,_⟩:=h.cons;exact ⟨x,u,e,h1⟩
 | cons c p=>exact ⟨58,_,rfl,by decide⟩
end
theorem attL_keys {k:Int}(hk:k≠4):∀ {l done:List Pr},attL k done l=0→∀ a∈l,isNm a.1=true:=by
 intro l
 induction l with
 | nil=>intro done _ a ha;simp at ha
 | cons x t ih =>
  intro done h a ha
  unfold attL at h
  by_cases h1:k≠4∧isNm x.1=false
  ·rw [if_pos h1] at h;exact absurd h (by decide)
  ·rw [if_neg h1] at h
   have hx:isNm x.1=true:=by
    cases e:isNm x.1
    ·exact absurd ⟨hk,e⟩ h1
    ·rfl
   split at h
   ·exact absurd h (by decide)
   ·split at h
    ·exact absurd h (by decide)
    ·split at h
     ·exact absurd h (by decide)
     ·rcases List.mem_cons.1 ha with rfl | ha
      ·exact hx
      ·exact ih h a ha
inductive Form:St→Prop where
 | node (n a):isNm n=true→keysW a→Form (.mk 1 n [] a [])
 | edge (r r2 t a):(∀ x∈r :: r2 :: t,isNm x.1=true∧(x.2=[]∨isNm x.2=true))→keysW a→Form (.mk 2 [] (r :: r2 :: t) a [])
 | dflt (n a):(n=wNode∨n=wEdge)→keysW a→Form (.mk 3 n [] a [])
 | sset (n v):isNm n=true→Form (.mk 4 n [] [([],v)] [])
 | clus (n b):isNm n=true→Form (.mk 5 n [] [] b)
theorem form_of {s:St}{lv:Int}(h:staE s lv=0):Form s:=by
 unfold staE at h
 by_cases h1:fldE s≠0
 ·rw [if_pos h1] at h;exact absurd h h1
 rw [if_neg h1] at h
 by_cases h2:s.kind=5∧6≤lv
 ·rw [if_pos h2] at h;exact absurd h (by decide)
 rw [if_neg h2] at h
 by_cases h3:s.kind≠2∧s.kind≠3∧isNm s.name=false
 ·rw [if_pos h3] at h;exact absurd h (by decide)
 rw [if_neg h3] at h
 by_cases h4:s.refs.all refB=false
 ·rw [if_pos h4] at h;exact absurd h (by decide)
 rw [if_neg h4] at h
 clear h2
 simp only [ne_eq,Decidable.not_not] at h1
 unfold fldE at h1
 by_cases f1:s.kind < 1∨5 < s.kind
 ·rw [if_pos f1] at h1;exact absurd h1 (by decide)
 rw [if_neg f1] at h1
 by_cases f2:(s.kind=2∧s.name≠[])∨(s.kind≠2∧0 < s.refs.length)∨(s.kind=5∧0 < s.attrs.length)∨(s.kind≠5∧0 < s.body.length)
 ·rw [if_pos f2] at h1;exact absurd h1 (by decide)
 rw [if_neg f2] at h1
 by_cases f3:(s.kind=3∧s.name≠wNode∧s.name≠wEdge)∨(s.kind=2∧s.refs.length < 2)
 ·rw [if_pos f3] at h1;exact absurd h1 (by decide)
 rw [if_neg f3] at h1
 by_cases f4:s.kind=4∧(s.attrs.length≠1∨(s.attrs.head?.map (·.1))≠some [])
 ·rw [if_pos f4] at h1;exact absurd h1 (by decide)
 clear h1
 unfold attE at h
 by_cases f5:16 < s.attrs.length
 ·rw [if_pos f5] at h;exact absurd h (by decide)
 rw [if_neg f5] at h
 clear f5
 obtain ⟨k,n,r,a,b⟩:=s
 simp only [St.kind,St.name,St.refs,St.attrs,St.body] at h h3 h4 f1 f2 f3 f4
 have hr:k≠2→r=[]:=fun e=>by
  cases r with
  | nil=>rfl
  | cons x t=>exact absurd (Or.inr (Or.inl ⟨e,by simp⟩)) f2
 have hb:k≠5→b=[]:=fun e=>by
  cases b with
  | nil=>rfl
  | cons x t=>exact absurd (Or.inr (Or.inr (Or.inr ⟨e,by simp⟩))) f2
 have hn:k≠2→k≠3→isNm n=true:=fun e e'=>by
  cases q:isNm n
  ·exact absurd ⟨e,e',q⟩ h3
  ·rfl
 have hk:k≠4→keysW a:=fun e x hx=>by
  exact (nm_word (attL_keys e h x hx)).1
 have hc:k=1∨k=2∨k=3∨k=4∨k=5:=by omega
 rcases hc with rfl | rfl | rfl | rfl | rfl
 ·rw [hr (by decide),hb (by decide)];exact .node n a (hn (by decide) (by decide)) (hk (by decide))
 ·rw [hb (by decide)]
  have en:n=[]:=by
   cases n with
   | nil=>rfl
   | cons x t=>exact absurd (Or.inl ⟨rfl,by simp⟩) f2
  rw [en]
  cases r with
  | nil=>exact absurd (Or.inr ⟨rfl,by simp⟩) f3
  | cons r t =>
   cases t with
   | nil=>exact absurd (Or.inr ⟨rfl,by simp⟩) f3
   | cons r2 t =>
    refine .edge r r2 t a (fun x hx=>?_) (hk (by decide))
    simp only [Bool.not_eq_false,List.all_eq_true] at h4
    have:=h4 x hx
    unfold refB at this
    rw [Bool.and_eq_true,Bool.or_eq_true] at this
    exact ⟨this.1,this.2.imp (fun e=>by simpa using e) id⟩
 ·rw [hr (by decide),hb (by decide)]
  refine .dflt n a ?_ (hk (by decide))
  by_cases e:n=wNode
  ·exact Or.inl e
  ·by_cases e':n=wEdge
   ·exact Or.inr e'
   ·exact absurd (Or.inl ⟨rfl,e,e'⟩) f3
 ·rw [hr (by decide),hb (by decide)]
  cases a with
  | nil=>exact absurd ⟨rfl,Or.inl (by simp)⟩ f4
  | cons x t =>
   cases t with
   | cons y t=>exact absurd ⟨rfl,Or.inl (by simp)⟩ f4
   | nil =>
    obtain ⟨x,v⟩:=x
    cases x with
    | nil=>exact .sset n v (hn (by decide) (by decide))
    | cons c x=>exact absurd ⟨rfl,Or.inr (by simp)⟩ f4
 ·rw [hr (by decide)]
  cases a with
  | nil=>exact .clus n b (hn (by decide) (by decide))
  | cons x t=>exact absurd (Or.inr (Or.inr (Or.inl ⟨rfl,by simp⟩))) f2
section
variable {pr:List UInt8→Int × Int}
def vS (s:St):Prop:=∃ lv,∀ x∈preS s lv,staE x.1 x.2=0
def vL (l:List St):Prop:=∃ lv,∀ x∈preL l lv,staE x.1 x.2=0
theorem vS.form {s:St}(h:vS s):Form s:=by
 obtain ⟨lv,h⟩:=h
 exact form_of (h (s,lv) (by rw [preS_eq];simp))
theorem vS.body {s:St}(h:vS s):vL s.body:=by
 obtain ⟨lv,h⟩:=h
 exact ⟨_,fun x hx=>h x (by rw [preS_eq];exact List.mem_cons_of_mem _ hx)⟩
theorem vL.cons {s:St}{t:List St}(h:vL (s :: t)):vS s∧vL t:=by
 obtain ⟨lv,h⟩:=h
 exact ⟨⟨lv,fun x hx=>h x (by rw [preL_cons];exact List.mem_append_left _ hx)⟩,⟨lv,fun x hx=>h x (by rw [preL_cons];exact List.mem_append_right _ hx)⟩⟩
end
end Go.Proofs.YtgmidodmmlmmeaaGreatDoor.prt
