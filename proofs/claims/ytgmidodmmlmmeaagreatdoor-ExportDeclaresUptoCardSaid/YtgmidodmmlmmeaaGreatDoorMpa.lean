/-
  Contracts and plain facts of the layers below; conditions as each theorem states them.
-/
import Derived.Test.YtgmidodmmlmmeaaGreatDoorMxa
import Derived.Lib.Join
import Derived.Test.YtgmidodmmlmmeaaGreatDoorMtb
import Derived.Lib.QuietBelow
set_option maxHeartbeats 8000000
set_option maxRecDepth 100000
namespace Go.Proofs.YtgmidodmmlmmeaaGreatDoor.prt
open lex tre
section
variable (pr:List UInt8->Int × Int)
def yiD (v:List UInt8):List UInt8:=if yK v=true then v else if (pr v).2=0 then v else yqi v
def yik (a:Pr):List UInt8:=a.1++61::yiD pr a.2
def yrT:List Pr->List UInt8
 | []=>[93]
 | a::t=>44::32::(yik pr a++yrT t)
def ymF:List Pr->List UInt8
 | []=>[]
 | a::t=>91::(yik pr a++yrT pr t)
def aft (l:List Pr):List UInt8:=if l.isEmpty then [] else 32::ymF pr l
def ymG (p:List UInt8):List UInt8:=if p.isEmpty then [] else 58::p
def yrU (d:Bool):List Pr->List UInt8
 | []=>[]
 | r::t=>32::45::(if d then 62 else 45)::32::(r.1++(ymG r.2++yrU d t))
def ymH (d:Bool):List Pr->List UInt8
 | []=>[]
 | r::t=>r.1++(ymG r.2++yrU d t)
def yrV:List UInt8:=[115,101,116]
def wClu:List UInt8:=[99,108,117,115,116,101,114]
mutual
def stS (d:Bool)(m:Nat):St->List UInt8
 | .mk k n r a b =>
  List.replicate m 32 ++
  (if k=1 then n++(aft pr a++[59,10])
  else if k=2 then ymH d r++(aft pr a++[59,10])
  else if k=3 then n++32::((if a.isEmpty then [91,93] else ymF pr a)++[59,10])
  else if k=4 then yrV++32::(n++32::61::32::(yiD pr ((a.head?.map (·.2)).getD [])++[59,10]))
  else wClu++32::(n++32::123::10::(stL d (m+4) b++(List.replicate m 32++[125,10]))))
def stL (d:Bool)(m:Nat):List St->List UInt8
 | []=>[]
 | s::t=>stS d m s++stL d m t
end
def yrW (d:Bool):List UInt8:=if d then [100,105,103,114,97,112,104] else [103,114,97,112,104]
def ytl (T:Tr):List UInt8:=yrW T.dir++32::(T.name++32::123::10::(stL pr T.dir 4 T.body++[125,10]))
def yph (T:Tr):List UInt8:=if yab T=0 then ytl pr T else []
theorem yrX {l:List UInt8}(h:yK l=true):l.all ycP=true/\l≠[]:=by
 unfold yK at h;simp only[Bool.and_eq_true,Bool.not_eq_true',decide_eq_true_eq] at h;obtain⟨⟨⟨h1,h2⟩,_⟩,_⟩:=h
 cases l with
 | nil=>cases h1
 | cons c t =>
  refine⟨?_,by simp⟩;rw[ybn] at h2
  by_cases hc:ybA c=true
  ·rw[if_pos hc,List.length_cons] at h2
   rw[List.all_cons,Bool.and_eq_true];refine⟨by unfold ycP;rw[hc];rfl,?_⟩;have e:=yc1 ycP t;rw[show (t.takeWhile ycP).length=t.length by omega,List.take_length] at e;have h3:=List.all_takeWhile (p:=ycP) (l:=t);rw[<- e] at h3;exact h3
  ·rw[if_neg hc] at h2;simp at h2
variable {pr}
end
end Go.Proofs.YtgmidodmmlmmeaaGreatDoor.prt
namespace Go.Proofs.YtgmidodmmlmmeaaGreatDoor.prt
open Go.RowKit lex tre _root_.Go.Proofs.Tryz
def BdP (T:TypeId)(r:List Value)(w:World)(b:Nat)(p:Value)(acc:List UInt8):Prop :=
 ∃ v,w.heap[b]?=some (.cells (p::v::r).toArray T (0,0))/\Byt w b v acc
def Bd (T:TypeId)(r:List Value)(w:World)(b:Nat)(acc:List UInt8):Prop:=BdP T r w b (.pointer none) acc\/BdP T r w b (.pointer (some ⟨b,0,none⟩)) acc
abbrev Wr (w:World)(b:Nat)(acc:List UInt8)(lev:Int)(arr:ByteArray):Prop:=Bd 151 [.int .i64 lev,.string arr] w b acc
structure BT (T:TypeId)(n:Nat):Prop where
 ne:T≠5
 lies:liesAt Tryz.prog Tryz.prog.depth T ((n+2) / Tryz.prog.cellsOf T) 0 149 1=true
theorem ycL:BT 151 2:=⟨by decide,by kernel_rfl⟩
theorem ycX:BT 149 0:=⟨by decide,by kernel_rfl⟩
def Fr (b:Nat)(w w':World):Prop:=Below b w w'/\Lib.OthersKept 5 (some b) w w'
theorem Fr.refl (b:Nat)(w:World):Fr b w w:=⟨Below.refl _ _,Lib.OthersKept.refl _ _ _⟩
theorem Fr.trans {b:Nat}{u v w:World}(h:Fr b u v)(k:Fr b v w):Fr b u w:=⟨h.1.trans k.1,h.2.trans k.2⟩
theorem Fr.drew {b:Nat}{u w:World}(h:Fr b u w):Fr b u w.drew:=⟨h.1.drew,h.2.drew⟩
theorem Fr.of {b:Nat}{w w':World}(h:Below w.heap.size w w')(hb:b<=w.heap.size):Fr b w w' :=
 ⟨h.mono hb,fun k o hk _ _=>by rw[h.block k (Array.getElem?_eq_some_iff.1 hk).1];exact hk⟩
theorem Fr.alloc {b:Nat}{u w:World}(h:Fr b u w)(hb:b<=w.heap.size)(o:Obj):Fr b u (w.alloc o):=⟨h.1.alloc hb o,h.2.alloc o⟩
theorem Fr.heap {b k:Nat}{w w':World}{c:Array Value}{t:TypeId}{fz:Nat × Nat}(h:Fr b w w')(hk:w.heap[k]?=some (.cells c t fz))(ht:t≠5)(hb:k≠b):w'.heap[k]?=some (.cells c t fz) :=
 h.2 k _ hk (fun e=>hb (Option.some.inj e)) (fun c' fz' e=>by cases e;exact ht rfl)
section
variable {T:TypeId} {r:List Value}
theorem BdP.lt {w:World}{b:Nat}{p:Value}{acc:List UInt8}(h:BdP T r w b p acc):b<w.heap.size:=by
 obtain⟨v,hb,_⟩:=h;exact(Array.getElem?_eq_some_iff.1 hb).1
theorem Bd.lt {w:World}{b:Nat}{acc:List UInt8}(h:Bd T r w b acc):b<w.heap.size:=h.elim BdP.lt BdP.lt
theorem BdP.keep {w w':World}{b:Nat}{p:Value}{acc:List UInt8}(h:BdP T r w b p acc)(hb:Below w.heap.size w w'):BdP T r w' b p acc:=by
 have hl:=h.lt;obtain⟨v,h1,h2⟩:=h;exact⟨v,by rw[hb.block b hl];exact h1,h2.later hb⟩
theorem Bd.keep {w w':World}{b:Nat}{acc:List UInt8}(h:Bd T r w b acc)(hb:Below w.heap.size w w'):Bd T r w' b acc:=h.imp (·.keep hb) (·.keep hb)
theorem Bd.alloc {w:World}{b:Nat}{acc:List UInt8}(h:Bd T r w b acc)(o:Obj):Bd T r (w.alloc o) b acc:=h.keep (al1 w o)
end
theorem ytm (w:World)(arr:ByteArray):Wr (w.alloc (.cells #[.pointer none,.slice none 0 0,.int .i64 0,.string arr] 151)) w.heap.size [] 0 arr :=
 Or.inl ⟨_,heap_alloc_new w _,Byt.nil _ _⟩
theorem ymI {w:World}{B b:Nat}{v:Value}{l:List UInt8}{c:Array Value}{t:TypeId}(h:Byt w B v l)(hb:w.heap[b]?=some (.cells c t (0,0)))(ht:t≠5):v.ownBlock≠some b:=Lib.ownBlock_ne h hb ht
theorem ygo {T:TypeId}{w:World}{b:Nat}{v:Value}{acc:List UInt8}{cs:Array Value}(hT:T≠5)(hb:w.heap[b]?=some (.cells cs T (0,0)))(h:Byt w b v acc)(i:Nat)(x:Value) :
    (w.setCell ⟨b,i,none⟩ x).heap[b]?=some (.cells (cs.setIfInBounds i x) T (0,0))/\Byt (w.setCell ⟨b,i,none⟩ x) b v acc:=by
 refine⟨?_,World.ownsRow.kept (row:=some b) h ⟨rfl,rfl,rfl,by simp[World.setCell],fun k _ hk=>Below.heap_setCell _ _ _ _ (fun e=>hk (by simp[e]))⟩ (Or.inr (ymI h hb hT))⟩;simp[World.setCell,Array.getElem?_modify,hb]
theorem Fr.set {b:Nat}{u w:World}(h:Fr b u w)(i:Nat)(x:Value):Fr b u (w.setCell ⟨b,i,none⟩ x):=⟨h.1.setCell (p:=⟨b,i,none⟩) (Nat.le_refl _) _,h.2.setCell ⟨b,i,none⟩ rfl _⟩
theorem Fr.grown {b:Nat}{u w w':World}{v:Value}{l:List UInt8}(h:Fr b u w)(hb:b<=w.heap.size)(hv:Byt w b v l)(hg:w.grownBy w' v.ownBlock):Fr b u w' :=
 ⟨h.1.grown hg hb (fun k hk=>(World.ownsRow.lt hv k hk).1),h.2.grown hg (Lib.ownsRowF_kind (World.ownsRowF_of hv))⟩
theorem ypi {w:World}{ops:Array Oper}{rest:List Oper}{o:Oper}{a:Act}{Q:Exit->Act->World->Prop}(hg:o.guard=none)(x y:Operand)(ho:o.op=.call { callee:=.builtin .append,args:=#[x,y],argTypes:=#[147,9] })
    (B:Nat) (v:Value) (l:List UInt8) (s:ByteArray) (hs:a.eval x=v) (hx:a.eval y=.string s) (h:Hid (Byt w B v l)) (hl:l.length+s.size<=2199023255552) (hB:B<=w.heap.size)
    (hK:∀ v' w',Byt w' B v' (l++s.data.toList)->w.grownBy w' v.ownBlock->wpList Tryz.prog ops Q rest (a.put o.dst v') w'):wpList Tryz.prog ops Q (o::rest) a w:=by
 obtain⟨i0,hi,hz0,hz1,hz2⟩:=yfl;refine Lib.wpList_append_own_string w hg x y 147 9 ho B 5 i0 underlying147 underlying9 hi hz0 hz1 hz2 v l.length _ hs h.out s hx (by unfold maxLen;omega) (by omega) hB ?_;intro v' w' hown hgrow _;refine hK v' w' ?_ hgrow;have e:Lib.byteCells (l++s.data.toList)=Lib.byteCells l++Lib.strCells s:=by unfold Lib.byteCells;rw[List.map_append];rfl
 unfold Byt;rw[e,List.length_append,yp];exact hown
theorem yrY {w:World}{ops:Array Oper}{rest:List Oper}{o:Oper}{a:Act}{Q:Exit->Act->World->Prop}(hg:o.guard=none)(x y:Operand)(ho:o.op=.call { callee:=.builtin .append,args:=#[x,y],argTypes:=#[147,147] })
    (B:Nat) (v:Value) (l:List UInt8) (c:UInt8) (b:Int) (hs:a.eval x=v) (hx:a.eval y=.slice (some ⟨w.heap.size,0,none⟩) 1 1) (h:Hid (Byt w B v l)) (hb:Hid (b=(c.toNat:Int))) (hl:l.length<=2199023255552) (hB:B<=w.heap.size)
    (hK:∀ v' w',Byt w' B v' (l++[c])->w.grownBy w' v.ownBlock->wpList Tryz.prog ops Q rest (a.put o.dst v') w'):wpList Tryz.prog ops Q (o::rest) a (w.alloc (.cells #[.int .u8 b] 5)):=by
 obtain⟨i0,hi,hz0,hz1,hz2⟩:=yfl;refine wpList_append_own _ hg x y 147 ho B 5 i0 (.int .u8 0) 1 1 underlying147 hi hz0 hz1 hz2 rfl (by decide) v l.length _ hs (World.ownsRow.alloc h.out _) ⟨w.heap.size,0,none⟩ 1 1 [.int .u8 b] hx rfl (yfm _ _ _) (by simp[Value.oneCell']) (by unfold maxLen;omega) (by omega) (by simp;omega) ?_;intro v' w' hown hgrow _;refine hK v' w' ?_ ?_
 ·unfold Byt;rw[yjZ,List.length_append,<- hb.out];exact hown
 ·refine⟨hgrow.os,hgrow.tape,hgrow.output,Nat.le_trans (by simp) hgrow.size,fun k hk hne=>?_⟩
  rw[hgrow.block k (by simp;omega) hne,heap_alloc_old w _ hk]
theorem yec:∃ j,Tryz.prog.info? 149=some j/\j.size=2:=by
 have h:(Tryz.prog.info? 149).map (·.size)=some 2:=by kernel_rfl
 exact Option.map_eq_some_iff.1 h
theorem yrZ (b:Nat)(w:World)(h0:w.cell? ⟨b,0,none⟩=some (.pointer (some ⟨b,0,none⟩))) :
    Calls Tryz.prog 250 #[.pointer (some ⟨b,0,none⟩)] w fun e w'=>e=.returned (.tuple #[])/\w'=w:=by
 obtain⟨j,hj,_⟩:=yec;go_enter func250,ntmps250;go_wp2;rw[Lib.run_neq_ptr_same w _ underlying146 hj];go_wp2
 go_end0
 exact⟨rfl,rfl⟩
theorem yke {T:TypeId}{n:Nat}(hT:BT T n)(b:Nat)(w:World)(h0:w.cell? ⟨b,0,none⟩=some (.pointer none))(hsh:w.shape? b=some (T,n+2))(hfz:w.frozen? ⟨b,0,none⟩=false) :
    Calls Tryz.prog 250 #[.pointer (some ⟨b,0,none⟩)] w fun e w'=>e=.returned (.tuple #[])/\w'=w.setCell ⟨b,0,none⟩ (.pointer (some ⟨b,0,none⟩)):=by
 obtain⟨j,hj,hjs⟩:=yec;go_enter func250,ntmps250;go_wp2;rw[Lib.run_to_unsafe w ⟨b,0,none⟩ underlying146 underlying320 hj (by rw[hjs];decide) hsh (Nat.zero_lt_succ _)];simp only[Result.andThen];rw[Oper.upon_value];go_wp2;rw[run_callFunc_extern func281 (by kernel_rfl) (by kernel_rfl) (by kernel_rfl) (e:=Extern.AbiNoEscape.same) (by kernel_rfl)];rw[Lib.run_noEscape];simp only[Result.andThen];rw[Oper.upon_value];go_wp2;rw[Lib.run_from_unsafe w ⟨b,0,none⟩ underlying320 underlying146 hj hsh hT.lies];simp only[Result.andThen];rw[Oper.upon_value];go_wp2
 go_end0
 exact⟨rfl,rfl⟩
section
variable {T:TypeId} {r:List Value}
theorem ytn (hT:BT T r.length)(b:Nat)(acc:List UInt8)(w:World)(h:Hid (Bd T r w b acc)) :
    Calls Tryz.prog 250 #[.pointer (some ⟨b,0,none⟩)] w fun e w'=>e=.returned (.tuple #[])/\BdP T r w' b (.pointer (some ⟨b,0,none⟩)) acc/\Fr b w w':=by
 rcases h.out with ⟨v,hb,hv⟩ | ⟨v,hb,hv⟩
 ·refine(yke hT b w (by rw[Lib.cell_of_heap hb];rfl) (by simp[World.shape?,hb]) (Lib.frozen_of_heap hb 0)).mono ?_
  rintro e w' ⟨rfl,rfl⟩;obtain⟨h1,h2⟩:=ygo hT.ne hb hv 0 (.pointer (some ⟨b,0,none⟩));exact⟨rfl,⟨v,by rw[h1];simp,h2⟩,(Fr.refl b w).set _ _⟩
 ·refine(yrZ b w (by rw[Lib.cell_of_heap hb];rfl)).mono ?_
  rintro e w' ⟨rfl,rfl⟩;exact⟨rfl,⟨v,hb,hv⟩,Fr.refl b _⟩
theorem yfr (hT:BT T r.length)(b:Nat)(acc:List UInt8)(s:ByteArray)(w:World)(h:Hid (Bd T r w b acc))(hl:acc.length+s.size<=2199023255552) :
    Calls Tryz.prog 201 #[.pointer (some ⟨b,0,none⟩),.string s] w fun e w'=>e=.returned (.tuple #[.int .i64 s.size,.nilIface])/\Bd T r w' b (acc++s.data.toList)/\Fr b w w':=by
 have hne:=hT.ne;go_enter func201,ntmps201
 go_wp2_with (go_at_call 250;refine(ytn hT b acc _ h).mono ?_)
 rintro e w1 ⟨rfl,h1,hf1⟩;have hlt:=h1.lt;obtain⟨v,hb,hv⟩:=h1;obtain⟨a0,k0,rfl,-,-⟩:=id hv.len;have HV:=Lh hv;have c1:w1.cell? ⟨b,1,none⟩=some (.slice a0 acc.length k0):=by rw[Lib.cell_of_heap hb];rfl
 have HB:=Lh hb;clear hv hb h
 go_wp2_with (at_builtin;refine ypi rfl (.tmp 12) (.tmp 13) rfl b _ acc s rfl rfl HV hl (by omega) ?_)
 intro v2 w2 hv2 hgrow;have hb2:w2.heap[b]?=_:=(hgrow.block b hlt (fun e=>ymI HV.out HB.out hne e.symm)).trans HB.out;have hf2:=hf1.grown (by omega) HV.out hgrow;have f1:w2.frozen? ⟨b,1,none⟩=false:=Lib.frozen_of_heap hb2 1;have c2:w2.cell? ⟨b,1,none⟩=some (.slice a0 acc.length k0):=by rw[Lib.cell_of_heap hb2];rfl
 obtain⟨ao,N,cap,rfl⟩:∃ ao N cap,v2=.slice ao N cap:=by obtain⟨x,y,e,_,_⟩:=hv2.len;exact⟨x,_,y,e⟩
 clear hgrow;go_wp2
 go_ret2
 obtain⟨h3,h4⟩:=ygo hne hb2 hv2 1 (.slice ao N cap);exact⟨rfl,Or.inr ⟨_,by rw[h3];simp,h4⟩,hf2.set _ _⟩
theorem ypj (hT:BT T r.length)(b:Nat)(acc:List UInt8)(c:UInt8)(x:Int)(w:World)(h:Hid (Bd T r w b acc))(hl:acc.length<=2199023255552)(hx:Hid (x=(c.toNat:Int))) :
    Calls Tryz.prog 202 #[.pointer (some ⟨b,0,none⟩),.int .u8 x] w fun e w'=>e=.returned .nilIface/\Bd T r w' b (acc++[c])/\Fr b w w':=by
 have hne:=hT.ne;go_enter func202,ntmps202
 go_wp2_with (go_at_call 250;refine(ytn hT b acc _ h).mono ?_)
 rintro e w1 ⟨rfl,h1,hf1⟩;have hlt:=h1.lt;obtain⟨v,hb,hv⟩:=h1;obtain⟨a0,k0,rfl,-,-⟩:=id hv.len;have HV:=Lh hv;have c1:w1.cell? ⟨b,1,none⟩=some (.slice a0 acc.length k0):=by rw[Lib.cell_of_heap hb];rfl
 have HB:=Lh hb;clear hv hb h
 go_wp2_with (at_builtin;refine yrY rfl (.tmp 11) (.tmp 13) rfl b _ acc c x rfl rfl HV hx hl (by omega) ?_)
 intro v2 w2 hv2 hgrow;have hb2:w2.heap[b]?=_:=(hgrow.block b hlt (fun e=>ymI HV.out HB.out hne e.symm)).trans HB.out;have hf2:=hf1.grown (by omega) HV.out hgrow;have f1:w2.frozen? ⟨b,1,none⟩=false:=Lib.frozen_of_heap hb2 1;have c2:w2.cell? ⟨b,1,none⟩=some (.slice a0 acc.length k0):=by rw[Lib.cell_of_heap hb2];rfl
 obtain⟨ao,N,cap,rfl⟩:∃ ao N cap,v2=.slice ao N cap:=by obtain⟨x,y,e,_,_⟩:=hv2.len;exact⟨x,_,y,e⟩
 clear hgrow;go_wp2;go_ret;obtain⟨h3,h4⟩:=ygo hne hb2 hv2 1 (.slice ao N cap);exact⟨rfl,Or.inr ⟨_,by rw[h3];simp,h4⟩,hf2.set _ _⟩
theorem yhh (b:Nat)(acc:List UInt8)(w:World)(h:Hid (Bd T r w b acc))(h0:acc≠[]) :
    Calls Tryz.prog 87 #[.pointer (some ⟨b,0,none⟩)] w fun e w'=>e=.returned (.string (ba acc))/\Below b w w':=by
 obtain⟨p,v,hb,hv⟩:∃ p,BdP T r w b p acc:=by
  rcases h.out with h | h
  ·exact⟨_,h⟩
  ·exact⟨_,h⟩
 have hl0:acc.length≠0:=by simpa using h0
 obtain⟨g,cap,cur,rfl,hbg,hg,hnc,hcm,hcs,htake⟩:∃ g cap cur,v=.slice (some ⟨g,0,none⟩) acc.length cap/\b<=g/\w.heap[g]?=some (.cells cur 5 (0,0))/\acc.length<=cap/\cap<=maxLen/\cur.size=cap*1/\cur.toList.take (acc.length*1)=Lib.byteCells acc:=by
  rcases hv.2 with ⟨_,hz⟩ | ⟨g,cap,cur,e,r⟩
  ·exact absurd hz hl0
  ·exact⟨g,cap,cur,e,r⟩
 have c1:w.drew.cell? ⟨b,1,none⟩=some (.slice (some ⟨g,0,none⟩) acc.length cap):=by
  have hb':w.drew.heap[b]?=_:=hb;rw[Lib.cell_of_heap hb'];rfl
 have hSD:(Builtin.unsafeSliceData_ #[147] 226 #[.slice (some ⟨g,0,none⟩) acc.length cap]).run Tryz.prog w.drew=.ok (.pointer (some ⟨g,0,none⟩)) w.drew :=
  Lib.run_unsafeSliceData_row _ _ _ _ _ _ (by omega)
 have hUS:(Builtin.unsafeString_ #[226,3] 9 #[.pointer (some ⟨g,0,none⟩),.int .i64 acc.length]).run Tryz.prog w.drew=.ok (.string ⟨acc.toArray⟩) (w.drew.freeze ⟨g,0,none⟩ acc.length):=by
  have hg':w.drew.heap[g]?=some (.cells cur 5 (0,0)):=hg;refine Lib.run_unsafeString_row w.drew 226 3 9 5 underlying226 (by kernel_rfl) g cur.size (by simp[World.shape?,hg']) acc h0 (by omega) (by unfold maxLen at hcm;omega) ?_;intro j x hx;exact World.ownsRow.cells hv (g:=g) rfl j (.int .u8 x.toNat) (by simp[Lib.byteCells,hx])
 have HG:=Lh hbg;clear hb hv h hbg hg hcs htake hnc hcm hl0 h0;go_enter func87,ntmps87;go_wp2
 go_region
 all_goals
  go_wp2;go_ret;exact⟨rfl,Lib.below_freeze (Below.drew (Below.refl b w)) (p:=⟨g,0,none⟩) HG.out _⟩
end
end Go.Proofs.YtgmidodmmlmmeaaGreatDoor.prt
namespace Go.Proofs.YtgmidodmmlmmeaaGreatDoor.prt
open lex tre
section
variable {pr:List UInt8->Int × Int}
def ypk (l:List Pr):Prop:=∀ a∈l,a.1.all ycP=true
end
theorem yil {k:Int}(hk:k≠4):∀ {l done:List Pr},yc6 k done l=0->∀ a∈l,yK a.1=true:=by
 intro l
 induction l with
 | nil=>intro done _ a ha;simp at ha
 | cons x t ih =>
  intro done h a ha;unfold yc6 at h
  by_cases h1:k≠4/\yK x.1=false
  ·rw[if_pos h1] at h;exact absurd h (by decide)
  ·rw[if_neg h1] at h
   have hx:yK x.1=true:=by
    cases e:yK x.1
    ·exact absurd ⟨hk,e⟩ h1
    ·rfl
   split at h
   ·exact absurd h (by decide)
   ·split at h
    ·exact absurd h (by decide)
    ·split at h
     ·exact absurd h (by decide)
     ·rcases List.mem_cons.1 ha with rfl | ha
      ·exact hx
      ·exact ih h a ha
inductive Form:St->Prop where
 | node (n a):yK n=true->ypk a->Form (.mk 1 n [] a [])
 | edge (r r2 t a):(∀ x∈r::r2::t,yK x.1=true/\(x.2=[]\/yK x.2=true))->ypk a->Form (.mk 2 [] (r::r2::t) a [])
 | dflt (n a):(n=yc0\/n=ybR)->ypk a->Form (.mk 3 n [] a [])
 | sset (n v):yK n=true->Form (.mk 4 n [] [([],v)] [])
 | clus (n b):yK n=true->Form (.mk 5 n [] [] b)
theorem ydZ {s:St}{lv:Int}(h:ybs s lv=0):Form s:=by
 unfold ybs at h
 by_cases h1:ydL s≠0
 ·rw[if_pos h1] at h;exact absurd h h1
 rw[if_neg h1] at h
 by_cases h2:s.kind=5/\6<=lv
 ·rw[if_pos h2] at h;exact absurd h (by decide)
 rw[if_neg h2] at h
 by_cases h3:s.kind≠2/\s.kind≠3/\yK s.name=false
 ·rw[if_pos h3] at h;exact absurd h (by decide)
 rw[if_neg h3] at h
 by_cases h4:s.refs.all ydj=false
 ·rw[if_pos h4] at h;exact absurd h (by decide)
 rw[if_neg h4] at h;clear h2;simp only[ne_eq,Decidable.not_not] at h1;unfold ydL at h1
 by_cases f1:s.kind<1\/5<s.kind
 ·rw[if_pos f1] at h1;exact absurd h1 (by decide)
 rw[if_neg f1] at h1
 by_cases f2:(s.kind=2/\s.name≠[])\/(s.kind≠2/\0<s.refs.length)\/(s.kind=5/\0<s.attrs.length)\/(s.kind≠5/\0<s.body.length)
 ·rw[if_pos f2] at h1;exact absurd h1 (by decide)
 rw[if_neg f2] at h1
 by_cases f3:(s.kind=3/\s.name≠yc0/\s.name≠ybR)\/(s.kind=2/\s.refs.length<2)
 ·rw[if_pos f3] at h1;exact absurd h1 (by decide)
 rw[if_neg f3] at h1
 by_cases f4:s.kind=4/\(s.attrs.length≠1\/(s.attrs.head?.map (·.1))≠some [])
 ·rw[if_pos f4] at h1;exact absurd h1 (by decide)
 clear h1;unfold yjh at h
 by_cases f5:16<s.attrs.length
 ·rw[if_pos f5] at h;exact absurd h (by decide)
 rw[if_neg f5] at h;clear f5;obtain⟨k,n,r,a,b⟩:=s;simp only[St.kind,St.name,St.refs,St.attrs,St.body] at h h3 h4 f1 f2 f3 f4
 have hr:k≠2->r=[]:=fun e=>by
  cases r with
  | nil=>rfl
  | cons x t=>exact absurd (Or.inr (Or.inl ⟨e,by simp⟩)) f2
 have hb:k≠5->b=[]:=fun e=>by
  cases b with
  | nil=>rfl
  | cons x t=>exact absurd (Or.inr (Or.inr (Or.inr ⟨e,by simp⟩))) f2
 have hn:k≠2->k≠3->yK n=true:=fun e e'=>by
  cases q:yK n
  ·exact absurd ⟨e,e',q⟩ h3
  ·rfl
 have hk:k≠4->ypk a:=fun e x hx=>by
  exact(yrX (yil e h x hx)).1
 have hc:k=1\/k=2\/k=3\/k=4\/k=5:=by omega
 rcases hc with rfl | rfl | rfl | rfl | rfl
 ·rw[hr (by decide),hb (by decide)];exact .node n a (hn (by decide) (by decide)) (hk (by decide))
 ·rw[hb (by decide)]
  have en:n=[]:=by
   cases n with
   | nil=>rfl
   | cons x t=>exact absurd (Or.inl ⟨rfl,by simp⟩) f2
  rw[en]
  cases r with
  | nil=>exact absurd (Or.inr ⟨rfl,by simp⟩) f3
  | cons r t =>
   cases t with
   | nil=>exact absurd (Or.inr ⟨rfl,by simp⟩) f3
   | cons r2 t =>
    refine .edge r r2 t a (fun x hx=>?_) (hk (by decide));simp only[Bool.not_eq_false,List.all_eq_true] at h4;have:=h4 x hx;unfold ydj at this;rw[Bool.and_eq_true,Bool.or_eq_true] at this;exact⟨this.1,this.2.imp (fun e=>by simpa using e) id⟩
 ·rw[hr (by decide),hb (by decide)]
  refine .dflt n a ?_ (hk (by decide))
  by_cases e:n=yc0
  ·exact Or.inl e
  ·by_cases e':n=ybR
   ·exact Or.inr e'
   ·exact absurd (Or.inl ⟨rfl,e,e'⟩) f3
 ·rw[hr (by decide),hb (by decide)]
  cases a with
  | nil=>exact absurd ⟨rfl,Or.inl (by simp)⟩ f4
  | cons x t =>
   cases t with
   | cons y t=>exact absurd ⟨rfl,Or.inl (by simp)⟩ f4
   | nil =>
    obtain⟨x,v⟩:=x
    cases x with
    | nil=>exact .sset n v (hn (by decide) (by decide))
    | cons c x=>exact absurd ⟨rfl,Or.inr (by simp)⟩ f4
 ·rw[hr (by decide)]
  cases a with
  | nil=>exact .clus n b (hn (by decide) (by decide))
  | cons x t=>exact absurd (Or.inr (Or.inr (Or.inl ⟨rfl,by simp⟩))) f2
section
variable {pr:List UInt8->Int × Int}
def vS (s:St):Prop:=∃ lv,∀ x∈ykD s lv,ybs x.1 x.2=0
def vL (l:List St):Prop:=∃ lv,∀ x∈ybt l lv,ybs x.1 x.2=0
theorem vS.form {s:St}(h:vS s):Form s:=by
 obtain⟨lv,h⟩:=h;exact ydZ (h (s,lv) (by rw[y6];simp))
theorem vS.body {s:St}(h:vS s):vL s.body:=by
 obtain⟨lv,h⟩:=h;exact⟨_,fun x hx=>h x (by rw[y6];exact List.mem_cons_of_mem _ hx)⟩
end
section
variable {pr:List UInt8->Int × Int}
def yfs (l:List Pr):Prop:=∀ a∈l,yK a.1=true/\a.2.length<=32/\a.2.all yar=true
def ypl (l:List Pr):Prop:=∀ x∈l,yK x.1=true/\(x.2=[]\/yK x.2=true)
end
theorem ymJ {k:Int}:∀ {l done:List Pr},yc6 k done l=0->∀ a∈l,a.2.length<=32/\a.2.all yar=true:=by
 intro l
 induction l with
 | nil=>intro done _ a ha;simp at ha
 | cons x t ih =>
  intro done h a ha;unfold yc6 at h
  split at h
  ·exact absurd h (by decide)
  ·split at h
   ·exact absurd h (by decide)
   ·split at h
    ·exact absurd h (by decide)
    ·rename_i h3
     split at h
     ·exact absurd h (by decide)
     ·rename_i h4
      rcases List.mem_cons.1 ha with rfl | ha
      ·exact⟨by omega,by simpa using h4⟩
      ·exact ih h a ha
theorem ykf {s:St}{lv:Int}(h:ybs s lv=0):yc6 s.kind [] s.attrs=0:=by
 unfold ybs at h
 by_cases h1:ydL s≠0
 ·rw[if_pos h1] at h;exact absurd h h1
 rw[if_neg h1] at h
 by_cases h2:s.kind=5/\6<=lv
 ·rw[if_pos h2] at h;exact absurd h (by decide)
 rw[if_neg h2] at h
 by_cases h3:s.kind≠2/\s.kind≠3/\yK s.name=false
 ·rw[if_pos h3] at h;exact absurd h (by decide)
 rw[if_neg h3] at h
 by_cases h4:s.refs.all ydj=false
 ·rw[if_pos h4] at h;exact absurd h (by decide)
 rw[if_neg h4] at h;unfold yjh at h
 by_cases f5:16<s.attrs.length
 ·rw[if_pos f5] at h;exact absurd h (by decide)
 rwa [if_neg f5] at h
theorem vS.vals {s:St}(h:vS s):∀ a∈s.attrs,a.2.length<=32/\a.2.all yar=true:=by
 obtain⟨lv,h⟩:=h;exact ymJ (ykf (h (s,lv) (by rw[y6];simp)))
theorem vS.att {s:St}(h:vS s)(hk:s.kind≠4):yfs s.attrs:=by
 have h2:=h.vals;obtain⟨lv,h⟩:=h;exact fun a ha=>⟨yil hk (ykf (h (s,lv) (by rw[y6];simp))) a ha,h2 a ha⟩
section
variable {pr:List UInt8->Int × Int}
end
end Go.Proofs.YtgmidodmmlmmeaaGreatDoor.prt
namespace Go.Proofs.YtgmidodmmlmmeaaGreatDoor.prt
open Go.RowKit lex tre
theorem ydi {l:List UInt8}(h:yK l=true):l.length<=16:=by
 unfold yK at h;simp only[Bool.and_eq_true,decide_eq_true_eq] at h;exact h.1.2
theorem yr0 (v:List UInt8):(yqi v).length<=2*v.length+2:=by
 unfold yqi;have:=ymm v;simp only[List.length_cons,List.length_append,List.length_nil];omega
theorem yhi {v:List UInt8}(h:v.length<=32):(yiD prL v).length<=66:=by
 unfold yiD;have:=yr0 v
 split
 ·omega
 ·split <;> omega
theorem ykg {a:Pr}(h:yK a.1=true/\a.2.length<=32/\a.2.all yar=true):(yik prL a).length<=83:=by
 have h1:=ydi h.1;have h2:=yhi h.2.1;unfold yik;rw[List.length_append,List.length_cons];omega
theorem ypm:∀ {l:List Pr},yfs l->(yrT prL l).length<=1+85*l.length:=by
 intro l
 induction l with
 | nil=>intro _;simp[yrT]
 | cons a t ih =>
  intro h;have h1:=ykg (h a (by simp));have h2:=ih (fun x hx=>h x (List.mem_cons_of_mem _ hx));simp only[yrT,List.length_cons,List.length_append];omega
theorem yev {l:List Pr}(h:yfs l):(ymF prL l).length<=2+85*l.length:=by
 cases l with
 | nil=>simp[ymF]
 | cons a t =>
  have h1:=ykg (h a (by simp));have h2:=ypm (fun x hx=>h x (List.mem_cons_of_mem _ hx):yfs t);simp only[ymF,List.length_cons,List.length_append];omega
theorem yhj {l:List Pr}(h:yfs l):(aft prL l).length<=3+85*l.length:=by
 have:=yev h;unfold aft
 split
 ·simp
 ·rw[List.length_cons];omega
theorem ykh {p:List UInt8}(h:p=[]\/yK p=true):(ymG p).length<=17:=by
 unfold ymG
 rcases h with rfl | h
 ·simp
 ·have:=ydi h
  split
  ·simp
  ·rw[List.length_cons];omega
theorem ypn (d:Bool):∀ {l:List Pr},ypl l->(yrU d l).length<=37*l.length:=by
 intro l
 induction l with
 | nil=>intro _;simp[yrU]
 | cons a t ih =>
  intro h;have h1:=ydi (h a (by simp)).1;have h2:=ykh (h a (by simp)).2;have h3:=ih (fun x hx=>h x (List.mem_cons_of_mem _ hx));simp only[yrU,List.length_cons,List.length_append];omega
theorem yki (d:Bool){l:List Pr}(h:ypl l):(ymH d l).length<=37*l.length:=by
 cases l with
 | nil=>simp[ymH]
 | cons a t =>
  have h1:=ydi (h a (by simp)).1;have h2:=ykh (h a (by simp)).2;have h3:=ypn d (fun x hx=>h x (List.mem_cons_of_mem _ hx):ypl t);simp only[ymH,List.length_cons,List.length_append];omega
theorem ymK (pr:List UInt8->Int × Int)(l:List Pr):yrT pr l=Lib.joinTail [44,32] (l.map (yik pr))++[93]:=by
 induction l with
 | nil=>rfl
 | cons a t ih=>simp only[yrT,ih];simp[Lib.joinTail]
def ylb (l:List Pr):List UInt8:=Lib.join (l.map (yik prL)) [44,32]
theorem yft {l:List Pr}(h:l≠[]):ymF prL l=91::(ylb l++[93]):=by
 cases l with
 | nil=>exact absurd rfl h
 | cons a t=>simp only[ymF,ymK,ylb,List.map_cons,Lib.join_cons,List.append_assoc]
def arrS (d:Bool):List UInt8:=[32,45,if d then 62 else 45,32]
def yi3 (r:Pr):List UInt8:=r.1++ymG r.2
theorem ymL (d:Bool)(l:List Pr):yrU d l=Lib.joinTail (arrS d) (l.map yi3):=by
 induction l with
 | nil=>rfl
 | cons a t ih=>simp only[yrU,ih];simp[Lib.joinTail,arrS,yi3]
theorem ymM (d:Bool)(l:List Pr):ymH d l=Lib.join (l.map yi3) (arrS d):=by
 cases l with
 | nil=>rfl
 | cons a t=>simp only[ymH,ymL,List.map_cons,Lib.join_cons,yi3,List.append_assoc]
theorem ykj {l:List Pr}(h:yfs l):(ylb l).length<=85*l.length:=by
 cases l with
 | nil=>simp[ylb,Lib.join_nil]
 | cons a t =>
  have h1:=yev h;rw[yft (by simp)] at h1;simp only[List.length_cons,List.length_append,List.length_nil] at h1 |-;omega
end Go.Proofs.YtgmidodmmlmmeaaGreatDoor.prt
namespace Go.Proofs.YtgmidodmmlmmeaaGreatDoor.prt
open Go.RowKit Go.Sort lex tre
theorem yay {a b:ByteArray}(h:a=b):Ending.returned (.string a)=.returned (.string b):=by rw[h]
theorem ycm {a b:ByteArray}(h:a.data.toList=b.data.toList):a=b:=yml h
theorem ydE {l:List Pr}:l.take l.length=l:=List.take_length
theorem ymN {p:ByteArray}:(p.toList.isEmpty=true->ymG p.data.toList=[])/\(p.toList.isEmpty=false->ymG p.data.toList=58::p.data.toList):=by
 rw[ByteArray.toList_eq]
 constructor
 ·intro h;unfold ymG;rw[if_pos h]
 ·intro h;unfold ymG;rw[if_neg (by rw[h];decide)]
end Go.Proofs.YtgmidodmmlmmeaaGreatDoor.prt
namespace Go.Proofs.YtgmidodmmlmmeaaGreatDoor.prt
open Go.RowKit Go.Sort lex tre _root_.Go.Proofs.Tryz
section
variable {T:TypeId} {r:List Value}
theorem yr1 {w:World}{b:Nat}{cs:Array Value}{p:Value}(hT:T≠5)(hb:w.heap[b]?=some (.cells (p :: .slice none 0 0::r).toArray T (0,0)))(hm:cs.size<=maxLen) :
    BdP T r ((w.setCell ⟨b,1,none⟩ (.slice (some ⟨w.heap.size,0,none⟩) 0 cs.size)).alloc (.cells cs 5)) b p []:=by
 have hlt:b<w.heap.size:=(Array.getElem?_eq_some_iff.1 hb).1;obtain⟨h1,_⟩:=ygo hT hb (Byt.nil w b) 1 (.slice (some ⟨w.heap.size,0,none⟩) 0 cs.size);have hz:(w.setCell ⟨b,1,none⟩ (.slice (some ⟨w.heap.size,0,none⟩) 0 cs.size)).heap.size=w.heap.size:=by simp[World.setCell]
 have hn:=heap_alloc_new (w.setCell ⟨b,1,none⟩ (.slice (some ⟨w.heap.size,0,none⟩) 0 cs.size)) (.cells cs 5);rw[hz] at hn;exact⟨_,by rw[Lib.alloc_old _ _ b (by omega),h1];simp,⟨rfl,Or.inr ⟨w.heap.size,cs.size,cs,rfl,Nat.le_of_lt hlt,hn,Nat.zero_le _,hm,by simp,by simp[Lib.byteCells]⟩⟩⟩
theorem ymO (hT:T≠5)(b n:Nat)(w:World)(p:Value)(hb:w.heap[b]?=some (.cells (p :: .slice none 0 0::r).toArray T (0,0)))(hn:n<=1000000) :
    Calls Tryz.prog 290 #[.pointer (some ⟨b,0,none⟩),.int .i64 n] w fun e w'=>e=.returned (.tuple #[])/\BdP T r w' b p []/\Fr b w w':=by
 obtain⟨cs,hrun,hle,hmax⟩:=Lib.run_makeNoZero (P:=Tryz.prog) w.drew #[3] 147 5 underlying147 n (by omega);have hlt:b<w.heap.size:=(Array.getElem?_eq_some_iff.1 hb).1
 have hw:IntKind.i64.wrap (IntKind.i64.wrap 0+(n:Int))=n:=by
  rw[IntKind.wrap_i64,IntKind.wrap_i64];omega
 have hcall:(callFunc 312 #[.int .i64 (IntKind.i64.wrap (IntKind.i64.wrap 0+(n:Int)))]).run Tryz.prog w.drew=.ok (.value (.slice (some ⟨w.drew.heap.size,0,none⟩) n cs.size)) (w.drew.drew.drew.alloc (.cells cs 5)):=by
  rw[hw,run_callFunc_extern func312 (by kernel_rfl) (by kernel_rfl) (by kernel_rfl) (e:=Extern.BytealgMakeNoZero.makeNoZero #[3] #[147]) (by kernel_rfl),hrun];rfl
 have c1:w.drew.cell? ⟨b,1,none⟩=some (.slice none 0 0):=by
  have h:w.drew.heap[b]?=_:=hb;rw[Lib.cell_of_heap h];rfl
 have hb2:(w.alloc (.cells cs 5)).heap[b]?=_:=(Lib.alloc_old w _ b hlt).trans hb;have c2:(w.alloc (.cells cs 5)).cell? ⟨b,1,none⟩=some (.slice none 0 0):=by rw[Lib.cell_of_heap hb2];rfl
 have f2:(w.alloc (.cells cs 5)).frozen? ⟨b,1,none⟩=false:=Lib.frozen_of_heap hb2 1
 have hcopy:∀ W:World,(Builtin.copy_ #[147,147] 3 #[.slice (some ⟨w.heap.size,0,none⟩) 0 cs.size,.slice none 0 0]).run Tryz.prog W=.ok (goInt 0) W :=
  fun W=>run_copy_none W 147 147 3 5 _ _ 0 cs.size 0 0 underlying147 (by kernel_rfl) rfl
 have hfin:=Lh (yr1 hT hb (hmax (by unfold maxLen;omega)));have hfr:Hid (Fr b w ((w.setCell ⟨b,1,none⟩ (.slice (some ⟨w.heap.size,0,none⟩) 0 cs.size)).alloc (.cells cs 5))):=Lh (((Fr.refl b w).set _ _).alloc (by simp[World.setCell];omega) _);clear hw hb2 hb;go_enter func290,ntmps290;go_wp2_with fail
 go_region_held3 (fun w'=>w'.cell? ⟨b,1,none⟩=some (.slice none 0 0)) (first | assumption | exact c1 | exact c2) (fail)
 all_goals (go_wp2;go_end0;exact⟨rfl,hfin.out,hfr.out.drew.drew.drew⟩)
theorem ymP (hT:BT T r.length)(b n:Nat)(w:World)(hb:Hid (w.heap[b]?=some (.cells (.pointer none :: .slice none 0 0::r).toArray T (0,0))))(hn:n<=1000000) :
    Calls Tryz.prog 273 #[.pointer (some ⟨b,0,none⟩),.int .i64 n] w fun e w'=>e=.returned (.tuple #[])/\Bd T r w' b []/\Fr b w w':=by
 have hmx:Tryz.prog.follows .mixedOrders=true:=by kernel_rfl
 have hcf:=yke hT b w (by rw[Lib.cell_of_heap hb.out];rfl) (by simp[World.shape?,hb.out]) (Lib.frozen_of_heap hb.out 0)
 have hb1:(w.setCell ⟨b,0,none⟩ (.pointer (some ⟨b,0,none⟩))).heap[b]?=some (.cells (.pointer (some ⟨b,0,none⟩) :: .slice none 0 0::r).toArray T (0,0)):=by
  simp[World.setCell,Array.getElem?_modify,hb.out]
 have hf1:Fr b w (w.setCell ⟨b,0,none⟩ (.pointer (some ⟨b,0,none⟩))):=(Fr.refl b w).set _ _;obtain⟨w1,hw1⟩:∃ w1,w.setCell ⟨b,0,none⟩ (.pointer (some ⟨b,0,none⟩))=w1:=⟨_,rfl⟩
 rw[hw1] at hcf hb1 hf1;clear hw1;have HCF:=Lh hcf;clear hcf;go_enter func273,ntmps273
 go_wp2_with (go_at_call 250;refine(HCF.out).mono ?_)
 rintro e w2 ⟨rfl,rfl⟩;have c1:w2.cell? ⟨b,1,none⟩=some (.slice none 0 0):=by rw[Lib.cell_of_heap hb1];rfl
 have t1:=fun d os=>cell_regrown c1 d os
 have HB:=Lh hb1;clear c1 hb1;go_wp2_with fail
 refine wp_region_quiet_below hmx (by kernel_rfl) ?_
 repeat (go_big_quiet_step (fail))
 refine wpQuiet_nil ?_;intro _ hw';obtain⟨⟨dq,osq⟩,hw''⟩:=hw';subst hw'';have hbq:=below_regrown w2 dq osq;have hlt:b<w2.heap.size:=(Array.getElem?_eq_some_iff.1 HB.out).1;generalize grow (redrawn w2 dq) osq=w3 at hbq |-;have hb3:w3.heap[b]?=_:=(hbq.block b hlt).trans HB.out;have hf3:=hf1.trans (Fr.of hbq (by omega));have HG:=Lh (ymO hT.ne b n w3 _ hb3 hn);have hg0:Bd T r w3 b []:=Or.inr ⟨_,hb3,Byt.nil _ _⟩;have HG0:=Lh hg0;clear hb3 hg0 t1
 by_cases h0:(0:Int)<n
 ·go_wp2_with (go_at_call 290;refine(HG.out).mono ?_;rintro e w4 ⟨rfl,h4,hf4⟩)
  go_end0
  exact⟨rfl,Or.inr h4,hf3.trans hf4⟩
 ·go_wp2
  go_end0
  exact⟨rfl,HG0.out,hf3⟩
end
theorem yr2 (xs:List (List UInt8))(k:Nat):Lib.lens (xs.take k)<=Lib.lens xs:=Lib.lens_take_le _ _
theorem ykY (bk o c:Nat)(xs:List ByteArray)(sep Q:ByteArray)(w:World)(hcells:Hid (∀ (j:Nat) x,xs[j]?=some x->w.cell? ⟨bk,o+j,none⟩=some (.string x)))(hbk:bk<w.heap.size)
    (h2:2<=xs.length) (hN:xs.length<=40) (hcap:xs.length<=c) (hs0:1<=sep.size) (hs1:sep.size<=10) (hQ:Q.size<=100000) (hq:Hid (Lib.join (xs.map (·.data.toList)) sep.data.toList=Q.data.toList)) :
    Calls Tryz.prog 242 #[.slice (some ⟨bk,o,none⟩) xs.length c,.string sep] w fun e w'=>e=.returned (.string Q)/\Below w.heap.size w w':=by
 obtain⟨x0,r,hxs⟩:∃ x0 r,xs=x0::r:=by
  cases xs with
  | nil=>simp at h2
  | cons a t=>exact⟨a,t,rfl⟩
 have hJ:sep.size*(xs.length-1)+Lib.lens (xs.map (·.data.toList))=Q.size:=by
  have:=Lib.join_length x0.data.toList (r.map (·.data.toList)) sep.data.toList;rw[<- yz Q,<- hq.out,hxs];simp only[List.map_cons];rw[this,List.length_map,yz,List.length_cons,Nat.add_sub_cancel]
 generalize hM:sep.size*(xs.length-1)=M at hJ;have hcast:((xs.length:Int)-1)=((xs.length-1:Nat):Int):=by omega
 have hdv:¬ (9223372036854775807 / ((xs.length:Int)-1)<=(sep.size:Int)):=by
  have h3:((xs.length:Int)-1)<=39:=by omega
  have h4:0<((xs.length:Int)-1):=by omega
  have h5:(11:Int)<=9223372036854775807 / ((xs.length:Int)-1):=by
   rw[Int.le_ediv_iff_mul_le h4];omega
  omega
 have hprod:wrap64 ((sep.size:Int)*((xs.length:Int)-1))=(M:Int):=by
  have e:(sep.size:Int)*((xs.length-1:Nat):Int)=((sep.size*(xs.length-1):Nat):Int):=IntWalk.up_mul rfl rfl;rw[hcast,e,hM];exact IntWalk.wrap64_in _ ⟨by omega,by omega⟩
 have hne0:((xs.length:Int)==0)=false:=beq_eq_false_iff_ne.2 (by omega);have hne1:((xs.length:Int)==1)=false:=beq_eq_false_iff_ne.2 (by omega);have hsp:(0:Int)<(sep.size:Int):=by omega
 have HXS:=Lh hxs;have HJ:=Lh hJ;have hMb:M<=100000:=by omega
 clear hxs hJ hcast hM;go_enter func242,ntmps242;go_wp2_with fail
 go_loop [5,41] (fun n i=>∃ k:Nat,k<=xs.length/\i=.int .i64 k/\n=.int .i64 ((M+Lib.lens ((xs.map (·.data.toList)).take k):Nat):Int)) (fun _ i=>xs.length-(intOf i).toNat)
 case atStart=>exact⟨0,Nat.zero_le _,rfl,by simp[Lib.lens]⟩
 case round =>
  obtain⟨k,hk,rfl,rfl⟩:=hrel
  by_cases hkn:k<xs.length
  ·obtain⟨x,hx⟩:∃ x,xs[k]?=some x:=⟨xs[k],List.getElem?_eq_getElem hkn⟩
   have hc:=hcells.out k x hx;have hstep:=Lib.lens_take_succ (xs.map (·.data.toList)) k x.data.toList (by simp[hx]);have hbound:=yr2 (xs.map (·.data.toList)) (k+1);have hJ2:=HJ.out;rw[yz] at hstep;generalize hA1:Lib.lens ((xs.map (·.data.toList)).take (k+1))=A1 at hstep hbound;generalize Lib.lens ((xs.map (·.data.toList)).take k)=A0 at hstep;have HA1:=Lh hA1;have hA0b:A0<=100000:=by omega
   have hA1b:A0+x.size<=100000:=by omega
   have hA1e:=Lh hstep;clear hA1 hbound hJ2 hstep;go_wp2
   go_round
   case rel=>exact⟨k+1,by omega,by go_num,by rw[HA1.out,hA1e.out];refine congrArg _ ?_;omega⟩
   case measure=>simp[intOf];omega
  ·obtain rfl:k=xs.length:=by omega
   have hall:(xs.map (·.data.toList)).take xs.length=xs.map (·.data.toList):=List.take_of_length_le (by simp);rw[hall];have hMT:((M+Lib.lens (xs.map (·.data.toList)):Nat):Int)=(Q.size:Int):=by rw[HJ.out]
   rw[hMT];clear hall hMT;go_wp2_with fail
   refine(ymP ycX w.heap.size Q.size _ (Lh (heap_alloc_new w _)) (by omega)).mono ?_;rintro e w1 ⟨rfl,h1,hf1⟩;have hb1:Below w.heap.size w w1:=((Below.refl w.heap.size w).alloc (Nat.le_refl _) _).trans hf1.1;have hx0:xs[0]?=some x0:=by rw[HXS.out];rfl
   have hc0:w1.cell? ⟨bk,o,none⟩=some (.string x0):=by
    rw[hb1.cell (p:=⟨bk,o,none⟩) hbk];exact hcells.out 0 x0 hx0
   have H1:=Lh h1;have HB1:=Lh hb1
   have hwhole:Q.data.toList=x0.data.toList++Lib.joinTail sep.data.toList (r.map (·.data.toList)):=by
    rw[<- hq.out,HXS.out,List.map_cons,Lib.join_cons]
   have hCle:∀ k,(x0.data.toList++Lib.joinTail sep.data.toList ((r.map (·.data.toList)).take k)).length<=100000:=fun k=>by
    have h1:=congrArg List.length hwhole;rw[yz,List.length_append] at h1;have h2:=Lib.joinTail_take_le sep.data.toList (r.map (·.data.toList)) k;rw[List.length_append];omega
   have HCLE:=Lh hCle;have HWH:=Lh hwhole;have hx0s:x0.size<=100000:=by have:=hCle 0;rw[List.length_append,yz] at this;omega
   clear h1 hf1 hb1 hx0 hCle hwhole;go_wp2_with fail
   refine(yfr ycX w.heap.size [] x0 w1 H1 (by simp;omega)).mono ?_;rintro e w2 ⟨rfl,h2',hf2⟩;have H2:Hid (Bd 149 [] w2 w.heap.size (x0.data.toList++Lib.joinTail sep.data.toList ((r.map (·.data.toList)).take 0))):=Lh (by simpa [Lib.joinTail] using h2');have HB2:=Lh (HB1.out.trans hf2.1);have hrl:r.length=xs.length-1:=by rw[HXS.out];simp
   clear h2' hf2 HB1 H1 hc0;go_wp2_with fail
   go_loopw [65] (fun i wr=>∃ k:Nat,k<=r.length/\i=.int .i64 k/\Hid (Bd 149 [] wr w.heap.size (x0.data.toList++Lib.joinTail sep.data.toList ((r.map (·.data.toList)).take k)))/\Hid (Below w.heap.size w wr)) (fun i _=>r.length-(intOf i).toNat)
   case atStart=>exact⟨0,Nat.zero_le _,rfl,H2,HB2⟩
   case round =>
    obtain⟨k,hk',rfl,HB,HW⟩:=hrel
    rename World=>wr
    by_cases hkr:k<r.length
    ·obtain⟨y,hy⟩:∃ y,r[k]?=some y:=⟨r[k],List.getElem?_eq_getElem hkr⟩
     have hxy:xs[k+1]?=some y:=by rw[HXS.out];simpa using hy
     have hcy:wr.cell? ⟨bk,o+1+k,none⟩=some (.string y):=by
      rw[HW.out.cell (p:=⟨bk,o+1+k,none⟩) hbk,show o+1+k=o+(k+1) by omega];exact hcells.out (k+1) y hxy
     have hts:=Lib.joinTail_take_succ sep.data.toList (r.map (·.data.toList)) k y.data.toList (by simp[hy]);have hl1:=HCLE.out (k+1);rw[hts] at hl1;simp only[List.length_append,yz] at hl1;have HN:Hid (x0.data.toList++Lib.joinTail sep.data.toList ((r.map (·.data.toList)).take k)++sep.data.toList++y.data.toList=x0.data.toList++Lib.joinTail sep.data.toList ((r.map (·.data.toList)).take (k+1))):=Lh (by rw[hts];simp);have hl0:(x0.data.toList++Lib.joinTail sep.data.toList ((r.map (·.data.toList)).take k)).length=x0.size+(Lib.joinTail sep.data.toList ((r.map (·.data.toList)).take k)).length:=by rw[List.length_append,yz]
     generalize x0.data.toList++Lib.joinTail sep.data.toList ((r.map (·.data.toList)).take k)=acc at HB HN hl0;generalize (Lib.joinTail sep.data.toList ((r.map (·.data.toList)).take k)).length=J at hl0 hl1;have hl2:acc.length+sep.size+y.size<=100000:=by omega
     clear hxy hy hts hl1 hl0;go_wp2_with fail
     refine(yfr ycX w.heap.size acc sep wr HB (by omega)).mono ?_;rintro e w3 ⟨rfl,h3,hf3⟩;have H3:=Lh h3;have HB3:=Lh (HW.out.trans hf3.1);clear h3 hf3;go_wp2_with fail
     refine(yfr ycX w.heap.size (acc++sep.data.toList) y w3 H3 (by rw[List.length_append,yz];omega)).mono ?_;rintro e w4 ⟨rfl,h4,hf4⟩;rw[HN.out] at h4;have H4:=Lh h4;have HB4:=Lh (HB3.out.trans hf4.1);clear h4 hf4;go_wp2
     go_roundw
     case rel=>exact⟨k+1,by omega,by go_num,H4,HB4⟩
     case measure=>simp[intOf];omega
    ·obtain rfl:k=r.length:=by omega
     have hfull:(r.map (·.data.toList)).take r.length=r.map (·.data.toList):=List.take_of_length_le (by simp);have hB:=HB.out;rw[hfull,<- HWH.out] at hB;have HBQ:=Lh hB
     have hQ1:0<Q.size:=by
      have h5:xs.length-1≠0:=by omega
      have h6:=Lib.join_length x0.data.toList (r.map (·.data.toList)) sep.data.toList;have h7:=congrArg List.length HWH.out;rw[<- Lib.join_cons,h6,List.length_map,yz,yz,hrl] at h7;have h8:1<=sep.size*(xs.length-1):=Nat.mul_pos hs0 (by omega);omega
     have hQn:Q.data.toList≠[]:=by intro e;rw[<- yz,e] at hQ1;simp at hQ1
     clear hB hfull HB hQ1;go_wp2_with fail
     refine(yhh w.heap.size Q.data.toList wr HBQ hQn).mono ?_;rintro e w5 ⟨rfl,hb5⟩;have HB5:=Lh (HW.out.trans hb5);clear hb5;go_wp2;go_ret;exact⟨yay (ycm (by simp)),HB5.out⟩
end Go.Proofs.YtgmidodmmlmmeaaGreatDoor.prt
