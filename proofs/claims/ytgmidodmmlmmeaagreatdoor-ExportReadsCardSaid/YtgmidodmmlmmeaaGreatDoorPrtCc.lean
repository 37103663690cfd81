/-
  What defaults, set and edge of the landed printer's writer write. Conditions: names, attributes and references as valid statements have them; texts of at most a million bytes.
-/
import Derived.Test.YtgmidodmmlmmeaaGreatDoorMpc
namespace Go.Proofs.YtgmidodmmlmmeaaGreatDoor.prt
open Go.RowKit Go.Sort lex tre
set_option maxRecDepth 100000 in
set_option maxHeartbeats 8000000 in
theorem cdflt_of (b:Nat)(acc:List UInt8)(lev:Nat)(arr:ByteArray)(kd:Int)(X A:ByteArray)(a:List Pr)(ro so bo:Option Addr)(rn rc sn sc bn bc:Nat)(w:World)(HW:Hid (Wr w b acc lev arr))(hX:X.size≤16)(HP:Hid (Prs w (.slice so sn sc) a))(ha:a.length≤40)(HO:Hid (attOk a))(HA:Hid (91 :: (attJ a ++ [93])=A.data.toList))
    (hl:acc.length+4*lev+5000≤1000000) :
    Calls Tryz.prog 205 #[.pointer (some ⟨b,0,none⟩),.agg #[.int .i64 kd,.string X,.slice ro rn rc,.slice so sn sc,.slice bo bn bc]] w fun e w'=>e=.returned (.tuple #[])∧Wr w' b (acc ++ (List.replicate (4*lev) 32 ++ (X.data.toList ++ 32 :: (A.data.toList ++ [59,10])))) lev arr∧Fr b w w':=by
 have hB:=al1 w (.cells #[.int .i64 kd,.string X,.slice ro rn rc,.slice so sn sc,.slice bo bn bc] 67)
 have hk:=heap_alloc_new w (.cells #[.int .i64 kd,.string X,.slice ro rn rc,.slice so sn sc,.slice bo bn bc] 67)
 obtain ⟨-,c1,-,c3,-⟩:=at5_new w kd X (.slice ro rn rc) (.slice so sn sc) (.slice bo bn bc) 67
 have hbw:=HW.out.lt
 have hAs:A.size≤3500:=by rw [← b_size,← HA.out];have:=attJ_len HO.out;simp only [List.length_cons,List.length_append,List.length_nil];omega
 go_enter Tryz.func205,Tryz.ntmps205
 go_wp2_with fail
 generalize w.alloc (.cells #[.int .i64 kd,.string X,.slice ro rn rc,.slice so sn sc,.slice bo bn bc] 67)=w1 at *
 have HW1:=Lh (HW.out.keep hB)
 have HP1:=Lh (HP.out.keep hB)
 have HF1:=Lh (Fr.of hB (by omega):Fr b w w1)
 have HK:=Lh hk
 have hsz:=hB.size
 have hne:w.heap.size≠b:=by omega
 have hP0:w1.cell? ⟨w.heap.size,1,none⟩=some (.string X)∧w1.cell? ⟨w.heap.size,3,none⟩=some (.slice so sn sc):=⟨c1,c3⟩
 clear c1 c3 hk HW HP
 go_region_held3 (fun w'=>w'.cell? ⟨w.heap.size,1,none⟩=some (.string X)∧w'.cell? ⟨w.heap.size,3,none⟩=some (.slice so sn sc))
  (first | assumption | (with_reducible refine c2_drew ?_;assumption) | (with_reducible refine c2_alloc ?_;assumption))
  (first
  | (go_at_call 253;(with_reducible refine (clist_of a _ A _ (Lh (HP1.out.keep (by repeat (first | (with_reducible exact Below.refl _ _) | (with_reducible refine b_drew ?_))))) ha HO HA).mono ?_);rintro e w6 ⟨rfl,hb6⟩;have hS6:=c2_keep (by assumption) hb6;have hb16:Below w1.heap.size w1 w6:=below_keep hb6 (by repeat (first | (with_reducible exact Below.refl _ _) | (with_reducible refine b_drew ?_)));have HW6:=Lh (HW1.out.keep hb16);have HK6:=Lh (heap_keep HK.out hb16);have hs16:=hb16.size)
  | (go_at_call 150;(with_reducible refine (wline_of b acc lev arr w6.heap.size 4 [X,⟨#[32]⟩,A,⟨#[59]⟩] _ (Lh (HW6.out.alloc _)) (Lh (row_new w6 [X,⟨#[32]⟩,A,⟨#[59]⟩] #[.string X,.string ⟨#[32]⟩,.string A,.string ⟨#[59]⟩] rfl)) (by omega) rfl (by decide) (by simp [strsL];omega)).mono ?_);rintro e w8 ⟨rfl,h8,hf8⟩;have hS8:=c2_fr hf8 (heap_keep HK6.out (al1 ..)) (by decide) hne (c2_alloc hS6)))
 all_goals
  have hfr:=(HF1.out.trans (Fr.of hb16 (by omega))).trans (((Fr.refl b w6).alloc (by omega) _).trans hf8)
  have hfin:Wr w8 b (acc ++ (List.replicate (4*lev) 32 ++ (X.data.toList ++ 32 :: (A.data.toList ++ [59,10])))) lev arr:=by simpa [strsL] using h8
  go_wp2
  go_end0
  exact ⟨rfl,hfin,hfr⟩
theorem c3_drew {w:World}{k i j:Nat}{x y z:Value}{A:Addr}(h:w.cell? ⟨k,i,none⟩=some x∧w.cell? ⟨k,j,none⟩=some y∧w.cell? A=some z):w.drew.cell? ⟨k,i,none⟩=some x∧w.drew.cell? ⟨k,j,none⟩=some y∧w.drew.cell? A=some z:=h
theorem c3_keep {w w':World}{k i j:Nat}{x y z:Value}{A:Addr}(h:w.cell? ⟨k,i,none⟩=some x∧w.cell? ⟨k,j,none⟩=some y∧w.cell? A=some z)(hb:Below w.heap.size w w'):w'.cell? ⟨k,i,none⟩=some x∧w'.cell? ⟨k,j,none⟩=some y∧w'.cell? A=some z:=⟨cell_keep hb h.1,cell_keep hb h.2.1,cell_later' hb h.2.2⟩
theorem c3_alloc {w:World}{o:Obj}{k i j:Nat}{x y z:Value}{A:Addr}(h:w.cell? ⟨k,i,none⟩=some x∧w.cell? ⟨k,j,none⟩=some y∧w.cell? A=some z):(w.alloc o).cell? ⟨k,i,none⟩=some x∧(w.alloc o).cell? ⟨k,j,none⟩=some y∧(w.alloc o).cell? A=some z:=c3_keep h (al1 ..)
theorem c3_fr {b k i j:Nat}{w w':World}{c:Array Value}{t:TypeId}{x y z:Value}{A:Addr}(f:Fr b w w')(hk:w.heap[k]?=some (.cells c t (0,0)))(ht:t≠5)(hb:k≠b)(hA:A.block < b)(h:w.cell? ⟨k,i,none⟩=some x∧w.cell? ⟨k,j,none⟩=some y∧w.cell? A=some z):w'.cell? ⟨k,i,none⟩=some x∧w'.cell? ⟨k,j,none⟩=some y∧w'.cell? A=some z :=
 ⟨cell_fr f hk ht hb h.1,cell_fr f hk ht hb h.2.1,by rw [f.1.cell hA];exact h.2.2⟩
set_option maxRecDepth 100000 in
set_option maxHeartbeats 8000000 in
theorem cset_of (b:Nat)(acc:List UInt8)(lev:Nat)(arr:ByteArray)(kd:Int)(X Y A:ByteArray)(C:Addr)(ro bo:Option Addr)(rn rc sc bn bc:Nat)(w:World)(HW:Hid (Wr w b acc lev arr))(hX:X.size≤16)(hY:Y.size≤32)(hC:C.block < b)(p1:w.cell? ⟨C.block,C.off+1,none⟩=some (.string Y))(hpl:Hid (Y.data.toList.all isPl=true))(HA:Hid (valS prL Y.data.toList=A.data.toList))
    (hl:acc.length+4*lev+5000≤1000000) :
    Calls Tryz.prog 206 #[.pointer (some ⟨b,0,none⟩),.agg #[.int .i64 kd,.string X,.slice ro rn rc,.slice (some C) 1 sc,.slice bo bn bc]] w fun e w'=>e=.returned (.tuple #[])∧Wr w' b (acc ++ (List.replicate (4*lev) 32 ++ (wSet ++ 32 :: (X.data.toList ++ 32 :: 61 :: 32 :: (A.data.toList ++ [59,10]))))) lev arr∧Fr b w w':=by
 have hB:=al1 w (.cells #[.int .i64 kd,.string X,.slice ro rn rc,.slice (some C) 1 sc,.slice bo bn bc] 67)
 have hk:=heap_alloc_new w (.cells #[.int .i64 kd,.string X,.slice ro rn rc,.slice (some C) 1 sc,.slice bo bn bc] 67)
 obtain ⟨-,c1,-,c3,-⟩:=at5_new w kd X (.slice ro rn rc) (.slice (some C) 1 sc) (.slice bo bn bc) 67
 have hbw:=HW.out.lt
 have hAs:A.size≤66:=by rw [← b_size,← HA.out];exact val_len (by rw [b_size];exact hY)
 have hp1:=cell_later' hB p1
 clear p1
 go_enter Tryz.func206,Tryz.ntmps206
 go_wp2_with fail
 generalize w.alloc (.cells #[.int .i64 kd,.string X,.slice ro rn rc,.slice (some C) 1 sc,.slice bo bn bc] 67)=w1 at *
 have HW1:=Lh (HW.out.keep hB)
 have HF1:=Lh (Fr.of hB (by omega):Fr b w w1)
 have HK:=Lh hk
 have hsz:=hB.size
 have hne:w.heap.size≠b:=by omega
 have hP0:w1.cell? ⟨w.heap.size,1,none⟩=some (.string X)∧w1.cell? ⟨w.heap.size,3,none⟩=some (.slice (some C) 1 sc)∧w1.cell? ⟨C.block,C.off+1,none⟩=some (.string Y):=⟨c1,c3,hp1⟩
 clear c1 c3 hk HW hp1
 go_region_held3 (fun w'=>w'.cell? ⟨w.heap.size,1,none⟩=some (.string X)∧w'.cell? ⟨w.heap.size,3,none⟩=some (.slice (some C) 1 sc)∧w'.cell? ⟨C.block,C.off+1,none⟩=some (.string Y))
  (first | assumption | (with_reducible refine c3_drew ?_;assumption) | (with_reducible refine c3_alloc ?_;assumption))
  (first
  | (go_at_call 254;(with_reducible refine (cvalue_of Y A _ hY hpl HA).mono ?_);rintro e w6 ⟨rfl,hb6⟩;have hS6:=c3_keep (by assumption) hb6;have hb16:Below w1.heap.size w1 w6:=below_keep hb6 (by repeat (first | (with_reducible exact Below.refl _ _) | (with_reducible refine b_drew ?_)));have HW6:=Lh (HW1.out.keep hb16);have HK6:=Lh (heap_keep HK.out hb16);have hs16:=hb16.size)
  | (go_at_call 150;(with_reducible refine (wline_of b acc lev arr w6.heap.size 5 [⟨#[115,101,116,32]⟩,X,⟨#[32,61,32]⟩,A,⟨#[59]⟩] _ (Lh (HW6.out.alloc _)) (Lh (row_new w6 [⟨#[115,101,116,32]⟩,X,⟨#[32,61,32]⟩,A,⟨#[59]⟩] #[.string ⟨#[115,101,116,32]⟩,.string X,.string ⟨#[32,61,32]⟩,.string A,.string ⟨#[59]⟩] rfl)) (by omega) rfl (by decide) (by simp [strsL];omega)).mono ?_);rintro e w8 ⟨rfl,h8,hf8⟩;have hS8:=c3_fr (A:=⟨C.block,C.off+1,none⟩) hf8 (heap_keep HK6.out (al1 ..)) (by decide) hne hC (c3_alloc hS6)))
 all_goals
  have hfr:=(HF1.out.trans (Fr.of hb16 (by omega))).trans (((Fr.refl b w6).alloc (by omega) _).trans hf8)
  have hfin:Wr w8 b (acc ++ (List.replicate (4*lev) 32 ++ (wSet ++ 32 :: (X.data.toList ++ 32 :: 61 :: 32 :: (A.data.toList ++ [59,10]))))) lev arr:=by simpa [strsL,wSet] using h8
  go_wp2
  go_end0
  exact ⟨rfl,hfin,hfr⟩
def arrB (d:Bool):ByteArray:=⟨(arrS d).toArray⟩
theorem arrB_size (d:Bool):(arrB d).size=4:=by cases d <;> rfl
theorem c2x_keep {w w':World}{k b i j:Nat}{x y:Value}(h:w.cell? ⟨k,i,none⟩=some x∧w.cell? ⟨b,j,none⟩=some y)(hb:Below w.heap.size w w'):w'.cell? ⟨k,i,none⟩=some x∧w'.cell? ⟨b,j,none⟩=some y:=⟨cell_keep hb h.1,cell_keep hb h.2⟩
theorem c2x_drew {w:World}{k b i j:Nat}{x y:Value}(h:w.cell? ⟨k,i,none⟩=some x∧w.cell? ⟨b,j,none⟩=some y):w.drew.cell? ⟨k,i,none⟩=some x∧w.drew.cell? ⟨b,j,none⟩=some y:=h
theorem c2x_alloc {w:World}{o:Obj}{k b i j:Nat}{x y:Value}(h:w.cell? ⟨k,i,none⟩=some x∧w.cell? ⟨b,j,none⟩=some y):(w.alloc o).cell? ⟨k,i,none⟩=some x∧(w.alloc o).cell? ⟨b,j,none⟩=some y:=c2x_keep h (al1 ..)
theorem refs_map (d:Bool)(l:List Pr):Lib.join (l.map refX) (arrB d).data.toList=refS d l:=by rw [refS_join];rfl
set_option maxRecDepth 100000 in
set_option maxHeartbeats 8000000 in
theorem cedge_of (b:Nat)(acc:List UInt8)(lev:Nat)(d:Bool)(kd:Int)(X A R:ByteArray)(l a:List Pr)(ro so bo:Option Addr)(rn rc sn sc bn bc:Nat)(w:World)(HW:Hid (Wr w b acc lev (arrB d)))(HL:Hid (Prs w (.slice ro rn rc) l))(hll:l.length≤40)(HLO:Hid (refOk l))(HR:Hid (refS d l=R.data.toList))(HP:Hid (Prs w (.slice so sn sc) a))(ha:a.length≤40)(HO:Hid (attOk a))(HA:Hid (aft prL a=A.data.toList))
    (hl:acc.length+4*lev+8000≤1000000) :
    Calls Tryz.prog 204 #[.pointer (some ⟨b,0,none⟩),.agg #[.int .i64 kd,.string X,.slice ro rn rc,.slice so sn sc,.slice bo bn bc]] w fun e w'=>e=.returned (.tuple #[])∧Wr w' b (acc ++ (List.replicate (4*lev) 32 ++ (R.data.toList ++ (A.data.toList ++ [59,10])))) lev (arrB d)∧Fr b w w':=by
 obtain ⟨i0,hi0,hz0,hz1,hz2⟩:=info_str
 have hB:=al1 w (.cells #[.int .i64 kd,.string X,.slice ro rn rc,.slice so sn sc,.slice bo bn bc] 67)
 have hk:=heap_alloc_new w (.cells #[.int .i64 kd,.string X,.slice ro rn rc,.slice so sn sc,.slice bo bn bc] 67)
 obtain ⟨-,-,c2,c3,-⟩:=at5_new w kd X (.slice ro rn rc) (.slice so sn sc) (.slice bo bn bc) 67
 have hbw:=HW.out.lt
 have hAs:A.size≤3500:=by rw [← b_size,← HA.out];have:=aft_len HO.out;omega
 have hRs:R.size≤2000:=by rw [← b_size,← HR.out];have:=refS_len d HLO.out;omega
 obtain rfl:rn=l.length:=by obtain ⟨_,_,e,_⟩:=HL.out;cases e;rfl
 go_enter Tryz.func204,Tryz.ntmps204
 go_wp2_with fail
 generalize w.alloc (.cells #[.int .i64 kd,.string X,.slice ro l.length rc,.slice so sn sc,.slice bo bn bc] 67)=w1 at *
 have HW1:=Lh (HW.out.keep hB)
 have HP1:=Lh (HP.out.keep hB)
 have HL1:=Lh (HL.out.keep hB)
 have HF1:=Lh (Fr.of hB (by omega):Fr b w w1)
 have HK:=Lh hk
 have C3:=Lh c3
 have hsz:=hB.size
 have hne:w.heap.size≠b:=by omega
 clear hk HW HP HL c3 hB
 go_loopw [4,10] (fun u i wr=>∃ (k:Nat) (uo:Option Addr) (un uc:Nat),k≤l.length∧i=.int .i64 k∧u=.slice uo un uc∧Hid (Nrow wr w1.heap.size (.slice uo un uc) ((l.take k).map refX))∧Hid (Below w1.heap.size w1 wr)) (fun _ i _=>l.length - (intOf i).toNat)
 case atStart=>exact ⟨0,none,0,0,Nat.zero_le _,rfl,rfl,Lh (World.ownsRow_nil _ _ _ _),Lh (Below.refl _ _)⟩
 case round =>
  obtain ⟨k,uo,un,uc,hkl,rfl,rfl,HROW,HB⟩:=hrel
  rename World=>wr
  have hsw:=HB.out.size
  clear c2
  by_cases hlt:k < l.length
  ·obtain ⟨B,rfl,p0,p1,z2,z3⟩:=(HL1.out.keep HB.out).get hlt
   have hat:=HLO.out _ (List.getElem_mem hlt)
   have HTK:=Lh (take_pr hlt)
   obtain ⟨C,hC⟩:∃ C,(l.take k).map refX=C:=⟨_,rfl⟩
   have hCl:C.length=k:=by rw [← hC,List.length_map,List.length_take];omega
   have HCE:=Lh hC
   rw [hC] at HROW
   obtain ⟨x,hx⟩:∃ x,l[k]=x:=⟨_,rfl⟩
   rw [hx] at p0 p1 z2 z3 hat HTK
   clear hx hC
   obtain ⟨X1,hX1⟩:∃ Y,bb x.1=Y:=⟨_,rfl⟩
   obtain ⟨Y1,hY1⟩:∃ Y,bb x.2=Y:=⟨_,rfl⟩
   obtain ⟨V,hV⟩:∃ V,bb (refX x)=V:=⟨_,rfl⟩
   have d1:X1.data.toList=x.1:=by rw [← hX1]
   have d2:Y1.data.toList=x.2:=by rw [← hY1]
   have s1:X1.size≤16:=by rw [← b_size,d1];exact nm_le hat.1
   have s2:Y1.size≤16:=by
    rw [← b_size,d2]
    rcases hat.2 with e | e
    ·rw [e];simp
    ·exact nm_le e
   rw [hX1] at p0
   rw [hY1] at p1
   have HV:Hid (X1.data.toList ++ prtP Y1.data.toList=V.data.toList):=Lh (by rw [d1,d2,← hV];rfl)
   have HVE:=Lh hV
   have HN:Hid ((l.take (k+1)).map refX=C ++ [refX x]):=Lh (by rw [HTK.out,List.map_append,HCE.out];rfl)
   have z0:(0:Int)≤(k:Int):=by omega
   have z1:(k:Int) < (l.length:Int):=by omega
   clear hat hX1 hY1 hV d1 d2 z2 z3 HTK HCE
   obtain ⟨v0,v1⟩:=at2_str wr X1 Y1 121
   have HB1:=Lh (below_keep (al1 wr (.cells #[.string X1,.string Y1] 121)) HB.out)
   have HO1:=Lh (row_alloc (.cells #[.string X1,.string Y1] 121) HROW.out)
   go_wp2_with fail
   refine (cref_of X1 Y1 _ s1 s2 V HV).mono ?_
   rintro e w6 ⟨rfl,hb6⟩
   have HB6:=Lh (below_keep hb6 HB1.out)
   have HO6:=Lh (nrow_keep HO1.out hb6)
   have hs6:=HB6.out.size
   clear hb6 v0 v1 p0 p1
   go_wp2_with (at_builtin;refine wpList_append_own _ rfl (.tmp 14) (.tmp 17) 50 rfl w1.heap.size 9 i0 (.string ⟨#[]⟩) 1 16 Tryz.underlying50 hi0 hz0 hz1 hz2 rfl (by decide) _ C.length (nmC C) rfl (World.ownsRow.alloc HO6.out _) ⟨w6.heap.size,0,none⟩ 1 1 [.string V] rfl rfl (cell1_new _ _ _) (by simp [Value.oneCell']) (by unfold maxLen;omega) (by omega) (by simp;omega) ?_)
   intro v7 w7 hown7 hgrow _
   have HB7:=Lh ((below_keep (al1 ..) HB6.out).grown hgrow (by simp;omega) (fun q hq=>(World.ownsRow.lt HO6.out q hq).1))
   have hrow7:Nrow w7 w1.heap.size v7 ((l.take (k+1)).map refX):=by
    unfold Nrow
    rw [HN.out,nmC_app,List.length_append,hCl,HVE.out]
    exact hown7
   obtain ⟨uo7,un7,uc7,rfl⟩:∃ a n c,v7=.slice a n c:=by
    rcases hrow7.2 with ⟨e,_⟩ | ⟨g,c,_,e,_⟩
    ·exact ⟨_,_,_,e⟩
    ·exact ⟨_,_,_,e⟩
   have HR7:=Lh hrow7
   clear hgrow hown7 hrow7
   go_wp2
   go_roundw
   case rel=>exact ⟨k+1,_,_,_,by omega,by go_num,rfl,HR7,HB7⟩
   case measure=>simp [intOf];omega
  ·obtain rfl:k=l.length:=by omega
   have HRR:Hid (Nrow wr w1.heap.size (.slice uo un uc) (l.map refX)):=Lh (by have:=HROW.out;rwa [List.take_length] at this)
   have HWr:=Lh (HW1.out.keep HB.out)
   have HPr:=Lh (HP1.out.keep HB.out)
   have HKr:=Lh (heap_keep HK.out HB.out)
   have HFr:Hid (Fr b w wr):=Lh (HF1.out.trans (Fr.of HB.out (by omega)))
   have c3:=cell_keep HB.out C3.out
   have hml:(l.map refX).length≤40:=by rw [List.length_map];exact hll
   have HJ:Hid (Lib.join (l.map refX) (arrB d).data.toList=R.data.toList):=Lh (by rw [refs_map];exact HR.out)
   have ha4:=arrB_size d
   have hP0:wr.cell? ⟨w.heap.size,3,none⟩=some (.slice so sn sc)∧wr.cell? ⟨b,3,none⟩=some (.string (arrB d)):=⟨c3,(wr_cells HWr.out).2.1⟩
   clear c3 HROW HR
   go_wp2_with fail
   go_region_held3 (fun w'=>w'.cell? ⟨w.heap.size,3,none⟩=some (.slice so sn sc)∧w'.cell? ⟨b,3,none⟩=some (.string (arrB d)))
    (first | assumption | (with_reducible refine c2x_drew ?_;assumption) | (with_reducible refine c2x_alloc ?_;assumption))
    (first
    | (go_at_call 242;(with_reducible refine (sjoin_row (l.map refX) w1.heap.size _ (arrB d) R _ (Lh (row_drew HRR.out)) hml (by omega) (by omega) (by omega) HJ).mono ?_);rintro e w5 ⟨rfl,hb5⟩;have hS5:=c2x_keep (by assumption) hb5;have hb15:Below wr.heap.size wr w5:=below_keep hb5 (by repeat (first | (with_reducible exact Below.refl _ _) | (with_reducible refine b_drew ?_)));have HP5:=Lh (HPr.out.keep hb15);have hs15:=hb15.size)
    | (go_at_call 251;(with_reducible refine (cbehind_of a _ A _ HP5 ha HO HA).mono ?_);rintro e w6 ⟨rfl,hb6⟩;have hS6:=c2x_keep (by assumption) hb6;have hb16:Below wr.heap.size wr w6:=below_keep hb6 hb15;have HW6:=Lh (HWr.out.keep hb16);have HK6:=Lh (heap_keep HKr.out hb16);have hs16:=hb16.size)
    | (go_at_call 150;(with_reducible refine (wline_of b acc lev (arrB d) w6.heap.size 3 [R,A,⟨#[59]⟩] _ (Lh (HW6.out.alloc _)) (Lh (row_new w6 [R,A,⟨#[59]⟩] #[.string R,.string A,.string ⟨#[59]⟩] rfl)) (by omega) rfl (by decide) (by simp [strsL];omega)).mono ?_);rintro e w8 ⟨rfl,h8,hf8⟩;have hS8:w8.cell? ⟨w.heap.size,3,none⟩=some (.slice so sn sc)∧w8.cell? ⟨b,3,none⟩=some (.string (arrB d)):=⟨cell_fr hf8 (heap_keep HK6.out (al1 ..)) (by decide) hne (c2x_alloc hS6).1,(wr_cells h8).2.1⟩))
   all_goals
    have hfr:=(HFr.out.trans (Fr.of hb16 (by omega))).trans (((Fr.refl b w6).alloc (by omega) _).trans hf8)
    have hfin:Wr w8 b (acc ++ (List.replicate (4*lev) 32 ++ (R.data.toList ++ (A.data.toList ++ [59,10])))) lev (arrB d):=by simpa [strsL] using h8
    go_wp2
    go_end0
    exact ⟨rfl,hfin,hfr⟩
end Go.Proofs.YtgmidodmmlmmeaaGreatDoor.prt
