/-
  What stmt and stmts of the reference of layer 8 return. Conditions: statements as a valid tree has them; texts of at most a million bytes.
  What statement, cluster and block of the landed printer's writer write. Conditions: statements as a valid tree has them; texts of at most a million bytes.
-/
import Derived.Test.YtgmidodmmlmmeaaGreatDoorPrtCc
import Derived.Laws.EntriesVeiled
namespace Go.Proofs.YtgmidodmmlmmeaaGreatDoor.prt
open Go.RowKit Go.Sort lex tre
theorem stL_app {pr:List UInt8→Int × Int}(d:Bool)(m:Nat)(a b:List St):stL pr d m (a ++ b)=stL pr d m a ++ stL pr d m b:=by
 induction a with
 | nil=>rfl
 | cons s t ih=>rw [List.cons_append];simp only [stL,ih,List.append_assoc]
theorem stL_take {pr:List UInt8→Int × Int}(d:Bool)(m:Nat){l:List St}{k:Nat}(h:k < l.length):stL pr d m (l.take (k+1))=stL pr d m (l.take k) ++ stS pr d m l[k]:=by
 rw [List.take_add_one,List.getElem?_eq_getElem h,stL_app]
 show _ ++ (stS pr d m l[k] ++ [])=_
 rw [List.append_nil]
theorem stL_le {pr:List UInt8→Int × Int}(d:Bool)(m:Nat)(l:List St)(k:Nat):(stL pr d m (l.take k)).length≤(stL pr d m l).length:=by
 have h:=stL_app (pr:=pr) d m (l.take k) (l.drop k)
 rw [List.take_append_drop] at h
 rw [h,List.length_append];omega
theorem vL_at {l:List St}(h:vL l){k:Nat}(hk:k < l.length):vS l[k]:=by
 obtain ⟨lv,h⟩:=h
 refine ⟨lv,fun x hx=>h x ?_⟩
 have:l=l.take k ++ (l[k] :: l.drop (k+1)):=by rw [← List.drop_eq_getElem_cons hk,List.take_append_drop]
 rw [this,preL_app,preL_cons]
 exact List.mem_append_right _ (List.mem_append_left _ hx)
theorem okL_at {l:List St}(h:okL l){k:Nat}(hk:k < l.length):(l[k].refs.length≤40∧l[k].attrs.length≤40)∧okL l[k].body:=by
 have e:l=l.take k ++ (l[k] :: l.drop (k+1)):=by rw [← List.drop_eq_getElem_cons hk,List.take_append_drop]
 have h2:okL (l[k] :: l.drop (k+1)):=fun x hx=>h x (by rw [e,preL_app];exact List.mem_append_right _ hx)
 exact ⟨(okL_cons.1 h2).1,(okL_cons.1 h2).2.1⟩
theorem prs_in {w:World}{v:Value}{x:List UInt8}(h:Prs w v [([],x)]):∃ A cap,v=.slice (some A) 1 cap∧prAt w A 0 ([],x):=by
 obtain ⟨ao,cap,rfl,_,_,hA⟩:=h
 obtain ⟨A,rfl,h2⟩:=hA (by simp)
 exact ⟨A,cap,rfl,h2 0 (by simp)⟩
def blkT (d:Bool)(lev:Nat)(kw X:ByteArray)(l:List St):List UInt8 :=
 List.replicate (4*lev) 32 ++ (kw.data.toList ++ 32 :: (X.data.toList ++ 32 :: 123 :: 10 :: (stL prL d (4*(lev+1)) l ++ (List.replicate (4*lev) 32 ++ [125,10]))))
def CBl (l:List St):Prop:=∀ (w0 w:World) (b:Nat) (acc:List UInt8) (lev:Nat) (d:Bool) (kw X:ByteArray) (v:Value),Hid (Below w0.heap.size w0 w)→w0.heap.size≤b→Hid (Wr w b acc lev (arrB d))→Hid (Sts w0 v l)→Hid (vL l)→Hid (okL l)→X.size≤16→kw.size≤16 →
 acc.length+(blkT d lev kw X l).length+10000≤1000000→Calls Tryz.prog 86 #[.pointer (some ⟨b,0,none⟩),.string kw,.string X,v] w fun e w'=>e=.returned (.tuple #[])∧Wr w' b (acc ++ blkT d lev kw X l) lev (arrB d)∧Fr b w w'
def CSt (s:St):Prop:=∀ (w0 w:World) (b:Nat) (acc:List UInt8) (lev:Nat) (d:Bool) (rv av bv:Value),Hid (Below w0.heap.size w0 w)→w0.heap.size≤b→Hid (Wr w b acc lev (arrB d))→Hid (fvOk w0 ⟨s,0,rv,av,bv⟩)→Hid (vS s)→Hid ((s.refs.length≤40∧s.attrs.length≤40)∧okL s.body) →
 acc.length+(stS prL d (4*lev) s).length+10000≤1000000→Calls Tryz.prog 151 #[.pointer (some ⟨b,0,none⟩),stV s rv av bv] w fun e w'=>e=.returned (.tuple #[])∧Wr w' b (acc ++ stS prL d (4*lev) s) lev (arrB d)∧Fr b w w'
theorem s6_drew {w:World}{k j i:Nat}{a c d e f g:Value}(h:w.cell? ⟨k,0,none⟩=some a∧w.cell? ⟨k,1,none⟩=some c∧w.cell? ⟨k,2,none⟩=some d∧w.cell? ⟨k,3,none⟩=some e∧w.cell? ⟨k,4,none⟩=some f∧w.cell? ⟨j,i,none⟩=some g) :
    w.drew.cell? ⟨k,0,none⟩=some a∧w.drew.cell? ⟨k,1,none⟩=some c∧w.drew.cell? ⟨k,2,none⟩=some d∧w.drew.cell? ⟨k,3,none⟩=some e∧w.drew.cell? ⟨k,4,none⟩=some f∧w.drew.cell? ⟨j,i,none⟩=some g:=h
theorem s6_fr {b:Nat}{w w':World}{k j i:Nat}{a c d e f g:Value}{cs cs':Array Value}{t t':TypeId}(hf:Fr b w w')(hk:w.heap[k]?=some (.cells cs t (0,0)))(ht:t≠5)(hkb:k≠b)(hj:w.heap[j]?=some (.cells cs' t' (0,0)))(ht':t'≠5)(hjb:j≠b)
    (h:w.cell? ⟨k,0,none⟩=some a∧w.cell? ⟨k,1,none⟩=some c∧w.cell? ⟨k,2,none⟩=some d∧w.cell? ⟨k,3,none⟩=some e∧w.cell? ⟨k,4,none⟩=some f∧w.cell? ⟨j,i,none⟩=some g) :
    w'.cell? ⟨k,0,none⟩=some a∧w'.cell? ⟨k,1,none⟩=some c∧w'.cell? ⟨k,2,none⟩=some d∧w'.cell? ⟨k,3,none⟩=some e∧w'.cell? ⟨k,4,none⟩=some f∧w'.cell? ⟨j,i,none⟩=some g :=
 ⟨cell_fr hf hk ht hkb h.1,cell_fr hf hk ht hkb h.2.1,cell_fr hf hk ht hkb h.2.2.1,cell_fr hf hk ht hkb h.2.2.2.1,cell_fr hf hk ht hkb h.2.2.2.2.1,cell_fr hf hj ht' hjb h.2.2.2.2.2⟩
abbrev fnArr:Array Value:=#[.nilFunc,.func (.func 203) #[] #[],.func (.func 204) #[] #[],.func (.func 205) #[] #[],.func (.func 206) #[] #[],.func (.func 207) #[] #[]]
set_option maxRecDepth 100000 in
set_option maxHeartbeats 8000000 in
theorem cstat1 (b:Nat)(X:ByteArray)(ro so bo:Option Addr)(rn rc sn sc bn bc:Nat)(w:World)(hbw:b < w.heap.size)(Q:World→Prop)
    (HC:Hid (∀ W,Below w.heap.size w W→Calls Tryz.prog 203 #[.pointer (some ⟨b,0,none⟩),.agg #[.int .i64 1,.string X,.slice ro rn rc,.slice so sn sc,.slice bo bn bc]] W fun e w'=>e=.returned (.tuple #[])∧Q w'∧Fr b W w')) :
    Calls Tryz.prog 151 #[.pointer (some ⟨b,0,none⟩),.agg #[.int .i64 1,.string X,.slice ro rn rc,.slice so sn sc,.slice bo bn bc]] w fun e w'=>e=.returned (.tuple #[])∧Q w'∧Fr b w w':=by
 have hB:=al2 w (.cells #[.int .i64 1,.string X,.slice ro rn rc,.slice so sn sc,.slice bo bn bc] 67) (.cells fnArr 270)
 have hk1:((w.alloc (.cells #[.int .i64 1,.string X,.slice ro rn rc,.slice so sn sc,.slice bo bn bc] 67)).alloc (.cells fnArr 270)).heap[w.heap.size]?=_:=heap_keep (heap_alloc_new w (.cells #[.int .i64 1,.string X,.slice ro rn rc,.slice so sn sc,.slice bo bn bc] 67)) (al1 ..)
 have hk2:=heap_alloc_new (w.alloc (.cells #[.int .i64 1,.string X,.slice ro rn rc,.slice so sn sc,.slice bo bn bc] 67)) (.cells fnArr 270)
 have hsz:(w.alloc (.cells #[.int .i64 1,.string X,.slice ro rn rc,.slice so sn sc,.slice bo bn bc] 67)).heap.size=w.heap.size+1:=by simp
 rw [hsz] at hk2
 go_enter Tryz.func151,Tryz.ntmps151
 go_wp2_with fail
 have hP0:((w.alloc (.cells #[.int .i64 1,.string X,.slice ro rn rc,.slice so sn sc,.slice bo bn bc] 67)).alloc (.cells fnArr 270)).cell? ⟨w.heap.size,0,none⟩=some (.int .i64 1)∧((w.alloc (.cells #[.int .i64 1,.string X,.slice ro rn rc,.slice so sn sc,.slice bo bn bc] 67)).alloc (.cells fnArr 270)).cell? ⟨w.heap.size,1,none⟩=some (.string X)∧((w.alloc (.cells #[.int .i64 1,.string X,.slice ro rn rc,.slice so sn sc,.slice bo bn bc] 67)).alloc (.cells fnArr 270)).cell? ⟨w.heap.size,2,none⟩=some (.slice ro rn rc)∧((w.alloc (.cells #[.int .i64 1,.string X,.slice ro rn rc,.slice so sn sc,.slice bo bn bc] 67)).alloc (.cells fnArr 270)).cell? ⟨w.heap.size,3,none⟩=some (.slice so sn sc)∧((w.alloc (.cells #[.int .i64 1,.string X,.slice ro rn rc,.slice so sn sc,.slice bo bn bc] 67)).alloc (.cells fnArr 270)).cell? ⟨w.heap.size,4,none⟩=some (.slice bo bn bc)∧((w.alloc (.cells #[.int .i64 1,.string X,.slice ro rn rc,.slice so sn sc,.slice bo bn bc] 67)).alloc (.cells fnArr 270)).cell? ⟨w.heap.size+1,1,none⟩=some (.func (.func 203) #[] #[]):=⟨by rw [Lib.cell_of_heap hk1];rfl,by rw [Lib.cell_of_heap hk1];rfl,by rw [Lib.cell_of_heap hk1];rfl,by rw [Lib.cell_of_heap hk1];rfl,by rw [Lib.cell_of_heap hk1];rfl,by rw [Lib.cell_of_heap hk2];rfl⟩
 show Code.wp _ _ _ _ ((w.alloc (.cells #[.int .i64 1,.string X,.slice ro rn rc,.slice so sn sc,.slice bo bn bc] 67)).alloc (.cells fnArr 270))
 generalize (w.alloc (.cells #[.int .i64 1,.string X,.slice ro rn rc,.slice so sn sc,.slice bo bn bc] 67)).alloc (.cells fnArr 270)=w2 at *
 have hs2:=hB.size
 have HB:=Lh hB
 have HK1:=Lh hk1
 have HK2:=Lh hk2
 clear hsz hk1 hk2
 go_region_held3 (fun w'=>w'.cell? ⟨w.heap.size,0,none⟩=some (.int .i64 1)∧w'.cell? ⟨w.heap.size,1,none⟩=some (.string X)∧w'.cell? ⟨w.heap.size,2,none⟩=some (.slice ro rn rc)∧w'.cell? ⟨w.heap.size,3,none⟩=some (.slice so sn sc)∧w'.cell? ⟨w.heap.size,4,none⟩=some (.slice bo bn bc)∧w'.cell? ⟨w.heap.size+1,1,none⟩=some (.func (.func 203) #[] #[]))
  (first | assumption | (with_reducible refine s6_drew ?_;assumption))
  (first | (go_at_call 203;(with_reducible refine (HC.out _ (b_drew HB.out)).mono ?_);rintro e w8 ⟨rfl,hq,hf8⟩;have hS8:=s6_fr hf8 HK1.out (by decide) (by omega) HK2.out (by decide) (by omega) hP0))
 all_goals
  have hfr:=(Fr.of HB.out (by omega)).trans ((Fr.refl b w2).drew.trans hf8)
  go_wp2
  go_end0
  exact ⟨rfl,hq,hfr⟩
set_option maxRecDepth 100000 in
set_option maxHeartbeats 8000000 in
theorem cstat2 (b:Nat)(X:ByteArray)(ro so bo:Option Addr)(rn rc sn sc bn bc:Nat)(w:World)(hbw:b < w.heap.size)(Q:World→Prop)
    (HC:Hid (∀ W,Below w.heap.size w W→Calls Tryz.prog 204 #[.pointer (some ⟨b,0,none⟩),.agg #[.int .i64 2,.string X,.slice ro rn rc,.slice so sn sc,.slice bo bn bc]] W fun e w'=>e=.returned (.tuple #[])∧Q w'∧Fr b W w')) :
    Calls Tryz.prog 151 #[.pointer (some ⟨b,0,none⟩),.agg #[.int .i64 2,.string X,.slice ro rn rc,.slice so sn sc,.slice bo bn bc]] w fun e w'=>e=.returned (.tuple #[])∧Q w'∧Fr b w w':=by
 have hB:=al2 w (.cells #[.int .i64 2,.string X,.slice ro rn rc,.slice so sn sc,.slice bo bn bc] 67) (.cells fnArr 270)
 have hk1:((w.alloc (.cells #[.int .i64 2,.string X,.slice ro rn rc,.slice so sn sc,.slice bo bn bc] 67)).alloc (.cells fnArr 270)).heap[w.heap.size]?=_:=heap_keep (heap_alloc_new w (.cells #[.int .i64 2,.string X,.slice ro rn rc,.slice so sn sc,.slice bo bn bc] 67)) (al1 ..)
 have hk2:=heap_alloc_new (w.alloc (.cells #[.int .i64 2,.string X,.slice ro rn rc,.slice so sn sc,.slice bo bn bc] 67)) (.cells fnArr 270)
 have hsz:(w.alloc (.cells #[.int .i64 2,.string X,.slice ro rn rc,.slice so sn sc,.slice bo bn bc] 67)).heap.size=w.heap.size+1:=by simp
 rw [hsz] at hk2
 go_enter Tryz.func151,Tryz.ntmps151
 go_wp2_with fail
 have hP0:((w.alloc (.cells #[.int .i64 2,.string X,.slice ro rn rc,.slice so sn sc,.slice bo bn bc] 67)).alloc (.cells fnArr 270)).cell? ⟨w.heap.size,0,none⟩=some (.int .i64 2)∧((w.alloc (.cells #[.int .i64 2,.string X,.slice ro rn rc,.slice so sn sc,.slice bo bn bc] 67)).alloc (.cells fnArr 270)).cell? ⟨w.heap.size,1,none⟩=some (.string X)∧((w.alloc (.cells #[.int .i64 2,.string X,.slice ro rn rc,.slice so sn sc,.slice bo bn bc] 67)).alloc (.cells fnArr 270)).cell? ⟨w.heap.size,2,none⟩=some (.slice ro rn rc)∧((w.alloc (.cells #[.int .i64 2,.string X,.slice ro rn rc,.slice so sn sc,.slice bo bn bc] 67)).alloc (.cells fnArr 270)).cell? ⟨w.heap.size,3,none⟩=some (.slice so sn sc)∧((w.alloc (.cells #[.int .i64 2,.string X,.slice ro rn rc,.slice so sn sc,.slice bo bn bc] 67)).alloc (.cells fnArr 270)).cell? ⟨w.heap.size,4,none⟩=some (.slice bo bn bc)∧((w.alloc (.cells #[.int .i64 2,.string X,.slice ro rn rc,.slice so sn sc,.slice bo bn bc] 67)).alloc (.cells fnArr 270)).cell? ⟨w.heap.size+1,2,none⟩=some (.func (.func 204) #[] #[]):=⟨by rw [Lib.cell_of_heap hk1];rfl,by rw [Lib.cell_of_heap hk1];rfl,by rw [Lib.cell_of_heap hk1];rfl,by rw [Lib.cell_of_heap hk1];rfl,by rw [Lib.cell_of_heap hk1];rfl,by rw [Lib.cell_of_heap hk2];rfl⟩
 show Code.wp _ _ _ _ ((w.alloc (.cells #[.int .i64 2,.string X,.slice ro rn rc,.slice so sn sc,.slice bo bn bc] 67)).alloc (.cells fnArr 270))
 generalize (w.alloc (.cells #[.int .i64 2,.string X,.slice ro rn rc,.slice so sn sc,.slice bo bn bc] 67)).alloc (.cells fnArr 270)=w2 at *
 have hs2:=hB.size
 have HB:=Lh hB
 have HK1:=Lh hk1
 have HK2:=Lh hk2
 clear hsz hk1 hk2
 go_region_held3 (fun w'=>w'.cell? ⟨w.heap.size,0,none⟩=some (.int .i64 2)∧w'.cell? ⟨w.heap.size,1,none⟩=some (.string X)∧w'.cell? ⟨w.heap.size,2,none⟩=some (.slice ro rn rc)∧w'.cell? ⟨w.heap.size,3,none⟩=some (.slice so sn sc)∧w'.cell? ⟨w.heap.size,4,none⟩=some (.slice bo bn bc)∧w'.cell? ⟨w.heap.size+1,2,none⟩=some (.func (.func 204) #[] #[]))
  (first | assumption | (with_reducible refine s6_drew ?_;assumption))
  (first | (go_at_call 204;(with_reducible refine (HC.out _ (b_drew HB.out)).mono ?_);rintro e w8 ⟨rfl,hq,hf8⟩;have hS8:=s6_fr hf8 HK1.out (by decide) (by omega) HK2.out (by decide) (by omega) hP0))
 all_goals
  have hfr:=(Fr.of HB.out (by omega)).trans ((Fr.refl b w2).drew.trans hf8)
  go_wp2
  go_end0
  exact ⟨rfl,hq,hfr⟩
set_option maxRecDepth 100000 in
set_option maxHeartbeats 8000000 in
theorem cstat3 (b:Nat)(X:ByteArray)(ro so bo:Option Addr)(rn rc sn sc bn bc:Nat)(w:World)(hbw:b < w.heap.size)(Q:World→Prop)
    (HC:Hid (∀ W,Below w.heap.size w W→Calls Tryz.prog 205 #[.pointer (some ⟨b,0,none⟩),.agg #[.int .i64 3,.string X,.slice ro rn rc,.slice so sn sc,.slice bo bn bc]] W fun e w'=>e=.returned (.tuple #[])∧Q w'∧Fr b W w')) :
    Calls Tryz.prog 151 #[.pointer (some ⟨b,0,none⟩),.agg #[.int .i64 3,.string X,.slice ro rn rc,.slice so sn sc,.slice bo bn bc]] w fun e w'=>e=.returned (.tuple #[])∧Q w'∧Fr b w w':=by
 have hB:=al2 w (.cells #[.int .i64 3,.string X,.slice ro rn rc,.slice so sn sc,.slice bo bn bc] 67) (.cells fnArr 270)
 have hk1:((w.alloc (.cells #[.int .i64 3,.string X,.slice ro rn rc,.slice so sn sc,.slice bo bn bc] 67)).alloc (.cells fnArr 270)).heap[w.heap.size]?=_:=heap_keep (heap_alloc_new w (.cells #[.int .i64 3,.string X,.slice ro rn rc,.slice so sn sc,.slice bo bn bc] 67)) (al1 ..)
 have hk2:=heap_alloc_new (w.alloc (.cells #[.int .i64 3,.string X,.slice ro rn rc,.slice so sn sc,.slice bo bn bc] 67)) (.cells fnArr 270)
 have hsz:(w.alloc (.cells #[.int .i64 3,.string X,.slice ro rn rc,.slice so sn sc,.slice bo bn bc] 67)).heap.size=w.heap.size+1:=by simp
 rw [hsz] at hk2
 go_enter Tryz.func151,Tryz.ntmps151
 go_wp2_with fail
 have hP0:((w.alloc (.cells #[.int .i64 3,.string X,.slice ro rn rc,.slice so sn sc,.slice bo bn bc] 67)).alloc (.cells fnArr 270)).cell? ⟨w.heap.size,0,none⟩=some (.int .i64 3)∧((w.alloc (.cells #[.int .i64 3,.string X,.slice ro rn rc,.slice so sn sc,.slice bo bn bc] 67)).alloc (.cells fnArr 270)).cell? ⟨w.heap.size,1,none⟩=some (.string X)∧((w.alloc (.cells #[.int .i64 3,.string X,.slice ro rn rc,.slice so sn sc,.slice bo bn bc] 67)).alloc (.cells fnArr 270)).cell? ⟨w.heap.size,2,none⟩=some (.slice ro rn rc)∧((w.alloc (.cells #[.int .i64 3,.string X,.slice ro rn rc,.slice so sn sc,.slice bo bn bc] 67)).alloc (.cells fnArr 270)).cell? ⟨w.heap.size,3,none⟩=some (.slice so sn sc)∧((w.alloc (.cells #[.int .i64 3,.string X,.slice ro rn rc,.slice so sn sc,.slice bo bn bc] 67)).alloc (.cells fnArr 270)).cell? ⟨w.heap.size,4,none⟩=some (.slice bo bn bc)∧((w.alloc (.cells #[.int .i64 3,.string X,.slice ro rn rc,.slice so sn sc,.slice bo bn bc] 67)).alloc (.cells fnArr 270)).cell? ⟨w.heap.size+1,3,none⟩=some (.func (.func 205) #[] #[]):=⟨by rw [Lib.cell_of_heap hk1];rfl,by rw [Lib.cell_of_heap hk1];rfl,by rw [Lib.cell_of_heap hk1];rfl,by rw [Lib.cell_of_heap hk1];rfl,by rw [Lib.cell_of_heap hk1];rfl,by rw [Lib.cell_of_heap hk2];rfl⟩
 show Code.wp _ _ _ _ ((w.alloc (.cells #[.int .i64 3,.string X,.slice ro rn rc,.slice so sn sc,.slice bo bn bc] 67)).alloc (.cells fnArr 270))
 generalize (w.alloc (.cells #[.int .i64 3,.string X,.slice ro rn rc,.slice so sn sc,.slice bo bn bc] 67)).alloc (.cells fnArr 270)=w2 at *
 have hs2:=hB.size
 have HB:=Lh hB
 have HK1:=Lh hk1
 have HK2:=Lh hk2
 clear hsz hk1 hk2
 go_region_held3 (fun w'=>w'.cell? ⟨w.heap.size,0,none⟩=some (.int .i64 3)∧w'.cell? ⟨w.heap.size,1,none⟩=some (.string X)∧w'.cell? ⟨w.heap.size,2,none⟩=some (.slice ro rn rc)∧w'.cell? ⟨w.heap.size,3,none⟩=some (.slice so sn sc)∧w'.cell? ⟨w.heap.size,4,none⟩=some (.slice bo bn bc)∧w'.cell? ⟨w.heap.size+1,3,none⟩=some (.func (.func 205) #[] #[]))
  (first | assumption | (with_reducible refine s6_drew ?_;assumption))
  (first | (go_at_call 205;(with_reducible refine (HC.out _ (b_drew HB.out)).mono ?_);rintro e w8 ⟨rfl,hq,hf8⟩;have hS8:=s6_fr hf8 HK1.out (by decide) (by omega) HK2.out (by decide) (by omega) hP0))
 all_goals
  have hfr:=(Fr.of HB.out (by omega)).trans ((Fr.refl b w2).drew.trans hf8)
  go_wp2
  go_end0
  exact ⟨rfl,hq,hfr⟩
set_option maxRecDepth 100000 in
set_option maxHeartbeats 8000000 in
theorem cstat4 (b:Nat)(X:ByteArray)(ro so bo:Option Addr)(rn rc sn sc bn bc:Nat)(w:World)(hbw:b < w.heap.size)(Q:World→Prop)
    (HC:Hid (∀ W,Below w.heap.size w W→Calls Tryz.prog 206 #[.pointer (some ⟨b,0,none⟩),.agg #[.int .i64 4,.string X,.slice ro rn rc,.slice so sn sc,.slice bo bn bc]] W fun e w'=>e=.returned (.tuple #[])∧Q w'∧Fr b W w')) :
    Calls Tryz.prog 151 #[.pointer (some ⟨b,0,none⟩),.agg #[.int .i64 4,.string X,.slice ro rn rc,.slice so sn sc,.slice bo bn bc]] w fun e w'=>e=.returned (.tuple #[])∧Q w'∧Fr b w w':=by
 have hB:=al2 w (.cells #[.int .i64 4,.string X,.slice ro rn rc,.slice so sn sc,.slice bo bn bc] 67) (.cells fnArr 270)
 have hk1:((w.alloc (.cells #[.int .i64 4,.string X,.slice ro rn rc,.slice so sn sc,.slice bo bn bc] 67)).alloc (.cells fnArr 270)).heap[w.heap.size]?=_:=heap_keep (heap_alloc_new w (.cells #[.int .i64 4,.string X,.slice ro rn rc,.slice so sn sc,.slice bo bn bc] 67)) (al1 ..)
 have hk2:=heap_alloc_new (w.alloc (.cells #[.int .i64 4,.string X,.slice ro rn rc,.slice so sn sc,.slice bo bn bc] 67)) (.cells fnArr 270)
 have hsz:(w.alloc (.cells #[.int .i64 4,.string X,.slice ro rn rc,.slice so sn sc,.slice bo bn bc] 67)).heap.size=w.heap.size+1:=by simp
 rw [hsz] at hk2
 go_enter Tryz.func151,Tryz.ntmps151
 go_wp2_with fail
 have hP0:((w.alloc (.cells #[.int .i64 4,.string X,.slice ro rn rc,.slice so sn sc,.slice bo bn bc] 67)).alloc (.cells fnArr 270)).cell? ⟨w.heap.size,0,none⟩=some (.int .i64 4)∧((w.alloc (.cells #[.int .i64 4,.string X,.slice ro rn rc,.slice so sn sc,.slice bo bn bc] 67)).alloc (.cells fnArr 270)).cell? ⟨w.heap.size,1,none⟩=some (.string X)∧((w.alloc (.cells #[.int .i64 4,.string X,.slice ro rn rc,.slice so sn sc,.slice bo bn bc] 67)).alloc (.cells fnArr 270)).cell? ⟨w.heap.size,2,none⟩=some (.slice ro rn rc)∧((w.alloc (.cells #[.int .i64 4,.string X,.slice ro rn rc,.slice so sn sc,.slice bo bn bc] 67)).alloc (.cells fnArr 270)).cell? ⟨w.heap.size,3,none⟩=some (.slice so sn sc)∧((w.alloc (.cells #[.int .i64 4,.string X,.slice ro rn rc,.slice so sn sc,.slice bo bn bc] 67)).alloc (.cells fnArr 270)).cell? ⟨w.heap.size,4,none⟩=some (.slice bo bn bc)∧((w.alloc (.cells #[.int .i64 4,.string X,.slice ro rn rc,.slice so sn sc,.slice bo bn bc] 67)).alloc (.cells fnArr 270)).cell? ⟨w.heap.size+1,4,none⟩=some (.func (.func 206) #[] #[]):=⟨by rw [Lib.cell_of_heap hk1];rfl,by rw [Lib.cell_of_heap hk1];rfl,by rw [Lib.cell_of_heap hk1];rfl,by rw [Lib.cell_of_heap hk1];rfl,by rw [Lib.cell_of_heap hk1];rfl,by rw [Lib.cell_of_heap hk2];rfl⟩
 show Code.wp _ _ _ _ ((w.alloc (.cells #[.int .i64 4,.string X,.slice ro rn rc,.slice so sn sc,.slice bo bn bc] 67)).alloc (.cells fnArr 270))
 generalize (w.alloc (.cells #[.int .i64 4,.string X,.slice ro rn rc,.slice so sn sc,.slice bo bn bc] 67)).alloc (.cells fnArr 270)=w2 at *
 have hs2:=hB.size
 have HB:=Lh hB
 have HK1:=Lh hk1
 have HK2:=Lh hk2
 clear hsz hk1 hk2
 go_region_held3 (fun w'=>w'.cell? ⟨w.heap.size,0,none⟩=some (.int .i64 4)∧w'.cell? ⟨w.heap.size,1,none⟩=some (.string X)∧w'.cell? ⟨w.heap.size,2,none⟩=some (.slice ro rn rc)∧w'.cell? ⟨w.heap.size,3,none⟩=some (.slice so sn sc)∧w'.cell? ⟨w.heap.size,4,none⟩=some (.slice bo bn bc)∧w'.cell? ⟨w.heap.size+1,4,none⟩=some (.func (.func 206) #[] #[]))
  (first | assumption | (with_reducible refine s6_drew ?_;assumption))
  (first | (go_at_call 206;(with_reducible refine (HC.out _ (b_drew HB.out)).mono ?_);rintro e w8 ⟨rfl,hq,hf8⟩;have hS8:=s6_fr hf8 HK1.out (by decide) (by omega) HK2.out (by decide) (by omega) hP0))
 all_goals
  have hfr:=(Fr.of HB.out (by omega)).trans ((Fr.refl b w2).drew.trans hf8)
  go_wp2
  go_end0
  exact ⟨rfl,hq,hfr⟩
set_option maxRecDepth 100000 in
set_option maxHeartbeats 8000000 in
theorem cstat5 (b:Nat)(X:ByteArray)(ro so bo:Option Addr)(rn rc sn sc bn bc:Nat)(w:World)(hbw:b < w.heap.size)(Q:World→Prop)
    (HC:Hid (∀ W,Below w.heap.size w W→Calls Tryz.prog 207 #[.pointer (some ⟨b,0,none⟩),.agg #[.int .i64 5,.string X,.slice ro rn rc,.slice so sn sc,.slice bo bn bc]] W fun e w'=>e=.returned (.tuple #[])∧Q w'∧Fr b W w')) :
    Calls Tryz.prog 151 #[.pointer (some ⟨b,0,none⟩),.agg #[.int .i64 5,.string X,.slice ro rn rc,.slice so sn sc,.slice bo bn bc]] w fun e w'=>e=.returned (.tuple #[])∧Q w'∧Fr b w w':=by
 have hB:=al2 w (.cells #[.int .i64 5,.string X,.slice ro rn rc,.slice so sn sc,.slice bo bn bc] 67) (.cells fnArr 270)
 have hk1:((w.alloc (.cells #[.int .i64 5,.string X,.slice ro rn rc,.slice so sn sc,.slice bo bn bc] 67)).alloc (.cells fnArr 270)).heap[w.heap.size]?=_:=heap_keep (heap_alloc_new w (.cells #[.int .i64 5,.string X,.slice ro rn rc,.slice so sn sc,.slice bo bn bc] 67)) (al1 ..)
 have hk2:=heap_alloc_new (w.alloc (.cells #[.int .i64 5,.string X,.slice ro rn rc,.slice so sn sc,.slice bo bn bc] 67)) (.cells fnArr 270)
 have hsz:(w.alloc (.cells #[.int .i64 5,.string X,.slice ro rn rc,.slice so sn sc,.slice bo bn bc] 67)).heap.size=w.heap.size+1:=by simp
 rw [hsz] at hk2
 go_enter Tryz.func151,Tryz.ntmps151
 go_wp2_with fail
 have hP0:((w.alloc (.cells #[.int .i64 5,.string X,.slice ro rn rc,.slice so sn sc,.slice bo bn bc] 67)).alloc (.cells fnArr 270)).cell? ⟨w.heap.size,0,none⟩=some (.int .i64 5)∧((w.alloc (.cells #[.int .i64 5,.string X,.slice ro rn rc,.slice so sn sc,.slice bo bn bc] 67)).alloc (.cells fnArr 270)).cell? ⟨w.heap.size,1,none⟩=some (.string X)∧((w.alloc (.cells #[.int .i64 5,.string X,.slice ro rn rc,.slice so sn sc,.slice bo bn bc] 67)).alloc (.cells fnArr 270)).cell? ⟨w.heap.size,2,none⟩=some (.slice ro rn rc)∧((w.alloc (.cells #[.int .i64 5,.string X,.slice ro rn rc,.slice so sn sc,.slice bo bn bc] 67)).alloc (.cells fnArr 270)).cell? ⟨w.heap.size,3,none⟩=some (.slice so sn sc)∧((w.alloc (.cells #[.int .i64 5,.string X,.slice ro rn rc,.slice so sn sc,.slice bo bn bc] 67)).alloc (.cells fnArr 270)).cell? ⟨w.heap.size,4,none⟩=some (.slice bo bn bc)∧((w.alloc (.cells #[.int .i64 5,.string X,.slice ro rn rc,.slice so sn sc,.slice bo bn bc] 67)).alloc (.cells fnArr 270)).cell? ⟨w.heap.size+1,5,none⟩=some (.func (.func 207) #[] #[]):=⟨by rw [Lib.cell_of_heap hk1];rfl,by rw [Lib.cell_of_heap hk1];rfl,by rw [Lib.cell_of_heap hk1];rfl,by rw [Lib.cell_of_heap hk1];rfl,by rw [Lib.cell_of_heap hk1];rfl,by rw [Lib.cell_of_heap hk2];rfl⟩
 show Code.wp _ _ _ _ ((w.alloc (.cells #[.int .i64 5,.string X,.slice ro rn rc,.slice so sn sc,.slice bo bn bc] 67)).alloc (.cells fnArr 270))
 generalize (w.alloc (.cells #[.int .i64 5,.string X,.slice ro rn rc,.slice so sn sc,.slice bo bn bc] 67)).alloc (.cells fnArr 270)=w2 at *
 have hs2:=hB.size
 have HB:=Lh hB
 have HK1:=Lh hk1
 have HK2:=Lh hk2
 clear hsz hk1 hk2
 go_region_held3 (fun w'=>w'.cell? ⟨w.heap.size,0,none⟩=some (.int .i64 5)∧w'.cell? ⟨w.heap.size,1,none⟩=some (.string X)∧w'.cell? ⟨w.heap.size,2,none⟩=some (.slice ro rn rc)∧w'.cell? ⟨w.heap.size,3,none⟩=some (.slice so sn sc)∧w'.cell? ⟨w.heap.size,4,none⟩=some (.slice bo bn bc)∧w'.cell? ⟨w.heap.size+1,5,none⟩=some (.func (.func 207) #[] #[]))
  (first | assumption | (with_reducible refine s6_drew ?_;assumption))
  (first | (go_at_call 207;(with_reducible refine (HC.out _ (b_drew HB.out)).mono ?_);rintro e w8 ⟨rfl,hq,hf8⟩;have hS8:=s6_fr hf8 HK1.out (by decide) (by omega) HK2.out (by decide) (by omega) hP0))
 all_goals
  have hfr:=(Fr.of HB.out (by omega)).trans ((Fr.refl b w2).drew.trans hf8)
  go_wp2
  go_end0
  exact ⟨rfl,hq,hfr⟩
end Go.Proofs.YtgmidodmmlmmeaaGreatDoor.prt
