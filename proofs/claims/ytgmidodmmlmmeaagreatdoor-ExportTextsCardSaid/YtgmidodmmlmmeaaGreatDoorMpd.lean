/-
  What defaults, set and edge of the landed printer's writer write. Conditions: names, attributes and references as valid statements have them; texts of at most a million bytes.
  What stmt and stmts of the reference of layer 8 return. Conditions: statements as a valid tree has them; texts of at most a million bytes.
-/
import Derived.Test.YtgmidodmmlmmeaaGreatDoorMpc
namespace Go.Proofs.YtgmidodmmlmmeaaGreatDoor.prt
open Go.RowKit Go.Sort lex tre
set_option maxRecDepth 100000 in
set_option maxHeartbeats 8000000 in
theorem cdflt_of (b:Nat)(acc:List UInt8)(lev:Nat)(arr:ByteArray)(kd:Int)(X A:ByteArray)(a:List Pr)(ro so bo:Option Addr)(rn rc sn sc bn bc:Nat)(w:World)(HW:Hid (Wr w b acc lev arr))(hX:X.size≤16)(HP:Hid (Prs w (.slice so sn sc) a))(ha:a.length≤40)(HO:Hid (attOk a))(HA:Hid (91 :: (attJ a ++ [93])=A.data.toList))
    (hl:acc.length+4*lev+5000≤1000000) :
    Calls Tryz.prog 205 #[.pointer (some ⟨b,0,none⟩),.agg #[.int .i64 kd,.string X,.slice ro rn rc,.slice so sn sc,.slice bo bn bc]] w fun e w'=>e=.returned (.tuple #[])∧Wr w' b (acc ++ (List.replicate (4*lev) 32 ++ (X.data.toList ++ 32 :: (A.data.toList ++ [59,10])))) lev arr∧Fr b w w':=by
 have hB:=al1 w (.cells #[.int .i64 kd,.string X,.slice ro rn rc,.slice so sn sc,.slice bo bn bc] 67)
 have hk:=heap_alloc_new w (.cells #[.int .i64 kd,.string X,.slice ro rn rc,.slice so sn sc,.slice bo bn bc] 67)
 obtain ⟨-,c1,-,c3,-⟩:=at5_new w kd X (.slice ro rn rc) (.slice so sn sc) (.slice bo bn bc) 67
 have hbw:=HW.out.lt
 have hAs:A.size≤3500:=by rw [← b_size,← HA.out];have:=attJ_len HO.out;simp only [List.length_cons,List.length_append,List.length_nil];omega
 go_enter Tryz.func205,Tryz.ntmps205
 go_wp2_with fail
 generalize w.alloc (.cells #[.int .i64 kd,.string X,.slice ro rn rc,.slice so sn sc,.slice bo bn bc] 67)=w1 at *
 have HW1:=Lh (HW.out.keep hB)
 have HP1:=Lh (HP.out.keep hB)
 have HF1:=Lh (Fr.of hB (by omega):Fr b w w1)
 have HK:=Lh hk
 have hsz:=hB.size
 have hne:w.heap.size≠b:=by omega
 have hP0:w1.cell? ⟨w.heap.size,1,none⟩=some (.string X)∧w1.cell? ⟨w.heap.size,3,none⟩=some (.slice so sn sc):=⟨c1,c3⟩
 clear c1 c3 hk HW HP
 go_region_held3 (fun w'=>w'.cell? ⟨w.heap.size,1,none⟩=some (.string X)∧w'.cell? ⟨w.heap.size,3,none⟩=some (.slice so sn sc))
  (first | assumption | (with_reducible refine c2_drew ?_;assumption) | (with_reducible refine c2_alloc ?_;assumption))
  (first
  | (go_at_call 253;(with_reducible refine (clist_of a _ A _ (Lh (HP1.out.keep (by repeat (first | (with_reducible exact Below.refl _ _) | (with_reducible refine b_drew ?_))))) ha HO HA).mono ?_);rintro e w6 ⟨rfl,hb6⟩;have hS6:=c2_keep (by assumption) hb6;have hb16:Below w1.heap.size w1 w6:=below_keep hb6 (by repeat (first | (with_reducible exact Below.refl _ _) | (with_reducible refine b_drew ?_)));have HW6:=Lh (HW1.out.keep hb16);have HK6:=Lh (heap_keep HK.out hb16);have hs16:=hb16.size)
  | (go_at_call 150;(with_reducible refine (wline_of b acc lev arr w6.heap.size 4 [X,⟨#[32]⟩,A,⟨#[59]⟩] _ (Lh (HW6.out.alloc _)) (Lh (row_new w6 [X,⟨#[32]⟩,A,⟨#[59]⟩] #[.string X,.string ⟨#[32]⟩,.string A,.string ⟨#[59]⟩] rfl)) (by omega) rfl (by decide) (by simp [strsL];omega)).mono ?_);rintro e w8 ⟨rfl,h8,hf8⟩;have hS8:=c2_fr hf8 (heap_keep HK6.out (al1 ..)) (by decide) hne (c2_alloc hS6)))
 all_goals
  have hfr:=(HF1.out.trans (Fr.of hb16 (by omega))).trans (((Fr.refl b w6).alloc (by omega) _).trans hf8)
  have hfin:Wr w8 b (acc ++ (List.replicate (4*lev) 32 ++ (X.data.toList ++ 32 :: (A.data.toList ++ [59,10])))) lev arr:=by simpa [strsL] using h8
  go_wp2
  go_end0
  exact ⟨rfl,hfin,hfr⟩
theorem c3_drew {w:World}{k i j:Nat}{x y z:Value}{A:Addr}(h:w.cell? ⟨k,i,none⟩=some x∧w.cell? ⟨k,j,none⟩=some y∧w.cell? A=some z):w.drew.cell? ⟨k,i,none⟩=some x∧w.drew.cell? ⟨k,j,none⟩=some y∧w.drew.cell? A=some z:=h
theorem c3_keep {w w':World}{k i j:Nat}{x y z:Value}{A:Addr}(h:w.cell? ⟨k,i,none⟩=some x∧w.cell? ⟨k,j,none⟩=some y∧w.cell? A=some z)(hb:Below w.heap.size w w'):w'.cell? ⟨k,i,none⟩=some x∧w'.cell? ⟨k,j,none⟩=some y∧w'.cell? A=some z:=⟨cell_keep hb h.1,cell_keep hb h.2.1,cell_later' hb h.2.2⟩
theorem c3_alloc {w:World}{o:Obj}{k i j:Nat}{x y z:Value}{A:Addr}(h:w.cell? ⟨k,i,none⟩=some x∧w.cell? ⟨k,j,none⟩=some y∧w.cell? A=some z):(w.alloc o).cell? ⟨k,i,none⟩=some x∧(w.alloc o).cell? ⟨k,j,none⟩=some y∧(w.alloc o).cell? A=some z:=c3_keep h (al1 ..)
theorem c3_fr {b k i j:Nat}{w w':World}{c:Array Value}{t:TypeId}{x y z:Value}{A:Addr}(f:Fr b w w')(hk:w.heap[k]?=some (.cells c t (0,0)))(ht:t≠5)(hb:k≠b)(hA:A.block < b)(h:w.cell? ⟨k,i,none⟩=some x∧w.cell? ⟨k,j,none⟩=some y∧w.cell? A=some z):w'.cell? ⟨k,i,none⟩=some x∧w'.cell? ⟨k,j,none⟩=some y∧w'.cell? A=some z :=
 ⟨cell_fr f hk ht hb h.1,cell_fr f hk ht hb h.2.1,by rw [f.1.cell hA];exact h.2.2⟩
set_option maxRecDepth 100000 in
set_option maxHeartbeats 8000000 in
theorem cset_of (b:Nat)(acc:List UInt8)(lev:Nat)(arr:ByteArray)(kd:Int)(X Y A:ByteArray)(C:Addr)(ro bo:Option Addr)(rn rc sc bn bc:Nat)(w:World)(HW:Hid (Wr w b acc lev arr))(hX:X.size≤16)(hY:Y.size≤32)(hC:C.block < b)(p1:w.cell? ⟨C.block,C.off+1,none⟩=some (.string Y))(hpl:Hid (Y.data.toList.all isPl=true))(HA:Hid (valS prL Y.data.toList=A.data.toList))
    (hl:acc.length+4*lev+5000≤1000000) :
    Calls Tryz.prog 206 #[.pointer (some ⟨b,0,none⟩),.agg #[.int .i64 kd,.string X,.slice ro rn rc,.slice (some C) 1 sc,.slice bo bn bc]] w fun e w'=>e=.returned (.tuple #[])∧Wr w' b (acc ++ (List.replicate (4*lev) 32 ++ (wSet ++ 32 :: (X.data.toList ++ 32 :: 61 :: 32 :: (A.data.toList ++ [59,10]))))) lev arr∧Fr b w w':=by
 have hB:=al1 w (.cells #[.int .i64 kd,.string X,.slice ro rn rc,.slice (some C) 1 sc,.slice bo bn bc] 67)
 have hk:=heap_alloc_new w (.cells #[.int .i64 kd,.string X,.slice ro rn rc,.slice (some C) 1 sc,.slice bo bn bc] 67)
 obtain ⟨-,c1,-,c3,-⟩:=at5_new w kd X (.slice ro rn rc) (.slice (some C) 1 sc) (.slice bo bn bc) 67
 have hbw:=HW.out.lt
 have hAs:A.size≤66:=by rw [← b_size,← HA.out];exact val_len (by rw [b_size];exact hY)
 have hp1:=cell_later' hB p1
 clear p1
 go_enter Tryz.func206,Tryz.ntmps206
 go_wp2_with fail
 generalize w.alloc (.cells #[.int .i64 kd,.string X,.slice ro rn rc,.slice (some C) 1 sc,.slice bo bn bc] 67)=w1 at *
 have HW1:=Lh (HW.out.keep hB)
 have HF1:=Lh (Fr.of hB (by omega):Fr b w w1)
 have HK:=Lh hk
 have hsz:=hB.size
 have hne:w.heap.size≠b:=by omega
 have hP0:w1.cell? ⟨w.heap.size,1,none⟩=some (.string X)∧w1.cell? ⟨w.heap.size,3,none⟩=some (.slice (some C) 1 sc)∧w1.cell? ⟨C.block,C.off+1,none⟩=some (.string Y):=⟨c1,c3,hp1⟩
 clear c1 c3 hk HW hp1
 go_region_held3 (fun w'=>w'.cell? ⟨w.heap.size,1,none⟩=some (.string X)∧w'.cell? ⟨w.heap.size,3,none⟩=some (.slice (some C) 1 sc)∧w'.cell? ⟨C.block,C.off+1,none⟩=some (.string Y))
  (first | assumption | (with_reducible refine c3_drew ?_;assumption) | (with_reducible refine c3_alloc ?_;assumption))
  (first
  | (go_at_call 254;(with_reducible refine (cvalue_of Y A _ hY hpl HA).mono ?_);rintro e w6 ⟨rfl,hb6⟩;have hS6:=c3_keep (by assumption) hb6;have hb16:Below w1.heap.size w1 w6:=below_keep hb6 (by repeat (first | (with_reducible exact Below.refl _ _) | (with_reducible refine b_drew ?_)));have HW6:=Lh (HW1.out.keep hb16);have HK6:=Lh (heap_keep HK.out hb16);have hs16:=hb16.size)
  | (go_at_call 150;(with_reducible refine (wline_of b acc lev arr w6.heap.size 5 [⟨#[115,101,116,32]⟩,X,⟨#[32,61,32]⟩,A,⟨#[59]⟩] _ (Lh (HW6.out.alloc _)) (Lh (row_new w6 [⟨#[115,101,116,32]⟩,X,⟨#[32,61,32]⟩,A,⟨#[59]⟩] #[.string ⟨#[115,101,116,32]⟩,.string X,.string ⟨#[32,61,32]⟩,.string A,.string ⟨#[59]⟩] rfl)) (by omega) rfl (by decide) (by simp [strsL];omega)).mono ?_);rintro e w8 ⟨rfl,h8,hf8⟩;have hS8:=c3_fr (A:=⟨C.block,C.off+1,none⟩) hf8 (heap_keep HK6.out (al1 ..)) (by decide) hne hC (c3_alloc hS6)))
 all_goals
  have hfr:=(HF1.out.trans (Fr.of hb16 (by omega))).trans (((Fr.refl b w6).alloc (by omega) _).trans hf8)
  have hfin:Wr w8 b (acc ++ (List.replicate (4*lev) 32 ++ (wSet ++ 32 :: (X.data.toList ++ 32 :: 61 :: 32 :: (A.data.toList ++ [59,10]))))) lev arr:=by simpa [strsL,wSet] using h8
  go_wp2
  go_end0
  exact ⟨rfl,hfin,hfr⟩
def arrB (d:Bool):ByteArray:=⟨(arrS d).toArray⟩
theorem arrB_size (d:Bool):(arrB d).size=4:=by cases d <;> rfl
theorem c2x_keep {w w':World}{k b i j:Nat}{x y:Value}(h:w.cell? ⟨k,i,none⟩=some x∧w.cell? ⟨b,j,none⟩=some y)(hb:Below w.heap.size w w'):w'.cell? ⟨k,i,none⟩=some x∧w'.cell? ⟨b,j,none⟩=some y:=⟨cell_keep hb h.1,cell_keep hb h.2⟩
theorem c2x_drew {w:World}{k b i j:Nat}{x y:Value}(h:w.cell? ⟨k,i,none⟩=some x∧w.cell? ⟨b,j,none⟩=some y):w.drew.cell? ⟨k,i,none⟩=some x∧w.drew.cell? ⟨b,j,none⟩=some y:=h
theorem c2x_alloc {w:World}{o:Obj}{k b i j:Nat}{x y:Value}(h:w.cell? ⟨k,i,none⟩=some x∧w.cell? ⟨b,j,none⟩=some y):(w.alloc o).cell? ⟨k,i,none⟩=some x∧(w.alloc o).cell? ⟨b,j,none⟩=some y:=c2x_keep h (al1 ..)
theorem refs_map (d:Bool)(l:List Pr):Lib.join (l.map refX) (arrB d).data.toList=refS d l:=by rw [refS_join];rfl
set_option maxRecDepth 100000 in
set_option maxHeartbeats 8000000 in
theorem cedge_of (b:Nat)(acc:List UInt8)(lev:Nat)(d:Bool)(kd:Int)(X A R:ByteArray)(l a:List Pr)(ro so bo:Option Addr)(rn rc sn sc bn bc:Nat)(w:World)(HW:Hid (Wr w b acc lev (arrB d)))(HL:Hid (Prs w (.slice ro rn rc) l))(hll:l.length≤40)(HLO:Hid (refOk l))(HR:Hid (refS d l=R.data.toList))(HP:Hid (Prs w (.slice so sn sc) a))(ha:a.length≤40)(HO:Hid (attOk a))(HA:Hid (aft prL a=A.data.toList))
    (hl:acc.length+4*lev+8000≤1000000) :
    Calls Tryz.prog 204 #[.pointer (some ⟨b,0,none⟩),.agg #[.int .i64 kd,.string X,.slice ro rn rc,.slice so sn sc,.slice bo bn bc]] w fun e w'=>e=.returned (.tuple #[])∧Wr w' b (acc ++ (List.replicate (4*lev) 32 ++ (R.data.toList ++ (A.data.toList ++ [59,10])))) lev (arrB d)∧Fr b w w':=by
 obtain ⟨i0,hi0,hz0,hz1,hz2⟩:=info_str
 have hB:=al1 w (.cells #[.int .i64 kd,.string X,.slice ro rn rc,.slice so sn sc,.slice bo bn bc] 67)
 have hk:=heap_alloc_new w (.cells #[.int .i64 kd,.string X,.slice ro rn rc,.slice so sn sc,.slice bo bn bc] 67)
 obtain ⟨-,-,c2,c3,-⟩:=at5_new w kd X (.slice ro rn rc) (.slice so sn sc) (.slice bo bn bc) 67
 have hbw:=HW.out.lt
 have hAs:A.size≤3500:=by rw [← b_size,← HA.out];have:=aft_len HO.out;omega
 have hRs:R.size≤2000:=by rw [← b_size,← HR.out];have:=refS_len d HLO.out;omega
 obtain rfl:rn=l.length:=by obtain ⟨_,_,e,_⟩:=HL.out;cases e;rfl
 go_enter Tryz.func204,Tryz.ntmps204
 go_wp2_with fail
 generalize w.alloc (.cells #[.int .i64 kd,.string X,.slice ro l.length rc,.slice so sn sc,.slice bo bn bc] 67)=w1 at *
 have HW1:=Lh (HW.out.keep hB)
 have HP1:=Lh (HP.out.keep hB)
 have HL1:=Lh (HL.out.keep hB)
 have HF1:=Lh (Fr.of hB (by omega):Fr b w w1)
 have HK:=Lh hk
 have C3:=Lh c3
 have hsz:=hB.size
 have hne:w.heap.size≠b:=by omega
 clear hk HW HP HL c3 hB
 go_loopw [4,10] (fun u i wr=>∃ (k:Nat) (uo:Option Addr) (un uc:Nat),k≤l.length∧i=.int .i64 k∧u=.slice uo un uc∧Hid (Nrow wr w1.heap.size (.slice uo un uc) ((l.take k).map refX))∧Hid (Below w1.heap.size w1 wr)) (fun _ i _=>l.length - (intOf i).toNat)
 case atStart=>exact ⟨0,none,0,0,Nat.zero_le _,rfl,rfl,Lh (World.ownsRow_nil _ _ _ _),Lh (Below.refl _ _)⟩
 case round =>
  obtain ⟨k,uo,un,uc,hkl,rfl,rfl,HROW,HB⟩:=hrel
  rename World=>wr
  have hsw:=HB.out.size
  clear c2
  by_cases hlt:k < l.length
  ·obtain ⟨B,rfl,p0,p1,z2,z3⟩:=(HL1.out.keep HB.out).get hlt
   have hat:=HLO.out _ (List.getElem_mem hlt)
   have HTK:=Lh (take_pr hlt)
   obtain ⟨C,hC⟩:∃ C,(l.take k).map refX=C:=⟨_,rfl⟩
   have hCl:C.length=k:=by rw [← hC,List.length_map,List.length_take];omega
   have HCE:=Lh hC
   rw [hC] at HROW
   obtain ⟨x,hx⟩:∃ x,l[k]=x:=⟨_,rfl⟩
   rw [hx] at p0 p1 z2 z3 hat HTK
   clear hx hC
   obtain ⟨X1,hX1⟩:∃ Y,bb x.1=Y:=⟨_,rfl⟩
   obtain ⟨Y1,hY1⟩:∃ Y,bb x.2=Y:=⟨_,rfl⟩
   obtain ⟨V,hV⟩:∃ V,bb (refX x)=V:=⟨_,rfl⟩
   have d1:X1.data.toList=x.1:=by rw [← hX1]
   have d2:Y1.data.toList=x.2:=by rw [← hY1]
   have s1:X1.size≤16:=by rw [← b_size,d1];exact nm_le hat.1
   have s2:Y1.size≤16:=by
    rw [← b_size,d2]
    rcases hat.2 with e | e
    ·rw [e];simp
    ·exact nm_le e
   rw [hX1] at p0
   rw [hY1] at p1
   have HV:Hid (X1.data.toList ++ prtP Y1.data.toList=V.data.toList):=Lh (by rw [d1,d2,← hV];rfl)
   have HVE:=Lh hV
   have HN:Hid ((l.take (k+1)).map refX=C ++ [refX x]):=Lh (by rw [HTK.out,List.map_append,HCE.out];rfl)
   have z0:(0:Int)≤(k:Int):=by omega
   have z1:(k:Int) < (l.length:Int):=by omega
   clear hat hX1 hY1 hV d1 d2 z2 z3 HTK HCE
   obtain ⟨v0,v1⟩:=at2_str wr X1 Y1 121
   have HB1:=Lh (below_keep (al1 wr (.cells #[.string X1,.string Y1] 121)) HB.out)
   have HO1:=Lh (row_alloc (.cells #[.string X1,.string Y1] 121) HROW.out)
   go_wp2_with fail
   refine (cref_of X1 Y1 _ s1 s2 V HV).mono ?_
   rintro e w6 ⟨rfl,hb6⟩
   have HB6:=Lh (below_keep hb6 HB1.out)
   have HO6:=Lh (nrow_keep HO1.out hb6)
   have hs6:=HB6.out.size
   clear hb6 v0 v1 p0 p1
   go_wp2_with (at_builtin;refine wpList_append_own _ rfl (.tmp 14) (.tmp 17) 50 rfl w1.heap.size 9 i0 (.string ⟨#[]⟩) 1 16 Tryz.underlying50 hi0 hz0 hz1 hz2 rfl (by decide) _ C.length (nmC C) rfl (World.ownsRow.alloc HO6.out _) ⟨w6.heap.size,0,none⟩ 1 1 [.string V] rfl rfl (cell1_new _ _ _) (by simp [Value.oneCell']) (by unfold maxLen;omega) (by omega) (by simp;omega) ?_)
   intro v7 w7 hown7 hgrow _
   have HB7:=Lh ((below_keep (al1 ..) HB6.out).grown hgrow (by simp;omega) (fun q hq=>(World.ownsRow.lt HO6.out q hq).1))
   have hrow7:Nrow w7 w1.heap.size v7 ((l.take (k+1)).map refX):=by
    unfold Nrow
    rw [HN.out,nmC_app,List.length_append,hCl,HVE.out]
    exact hown7
   obtain ⟨uo7,un7,uc7,rfl⟩:∃ a n c,v7=.slice a n c:=by
    rcases hrow7.2 with ⟨e,_⟩ | ⟨g,c,_,e,_⟩
    ·exact ⟨_,_,_,e⟩
    ·exact ⟨_,_,_,e⟩
   have HR7:=Lh hrow7
   clear hgrow hown7 hrow7
   go_wp2
   go_roundw
   case rel=>exact ⟨k+1,_,_,_,by omega,by go_num,rfl,HR7,HB7⟩
   case measure=>simp [intOf];omega
  ·obtain rfl:k=l.length:=by omega
   have HRR:Hid (Nrow wr w1.heap.size (.slice uo un uc) (l.map refX)):=Lh (by have:=HROW.out;rwa [List.take_length] at this)
   have HWr:=Lh (HW1.out.keep HB.out)
   have HPr:=Lh (HP1.out.keep HB.out)
   have HKr:=Lh (heap_keep HK.out HB.out)
   have HFr:Hid (Fr b w wr):=Lh (HF1.out.trans (Fr.of HB.out (by omega)))
   have c3:=cell_keep HB.out C3.out
   have hml:(l.map refX).length≤40:=by rw [List.length_map];exact hll
   have HJ:Hid (Lib.join (l.map refX) (arrB d).data.toList=R.data.toList):=Lh (by rw [refs_map];exact HR.out)
   have ha4:=arrB_size d
   have hP0:wr.cell? ⟨w.heap.size,3,none⟩=some (.slice so sn sc)∧wr.cell? ⟨b,3,none⟩=some (.string (arrB d)):=⟨c3,(wr_cells HWr.out).2.1⟩
   clear c3 HROW HR
   go_wp2_with fail
   go_region_held3 (fun w'=>w'.cell? ⟨w.heap.size,3,none⟩=some (.slice so sn sc)∧w'.cell? ⟨b,3,none⟩=some (.string (arrB d)))
    (first | assumption | (with_reducible refine c2x_drew ?_;assumption) | (with_reducible refine c2x_alloc ?_;assumption))
    (first
    | (go_at_call 242;(with_reducible refine (sjoin_row (l.map refX) w1.heap.size _ (arrB d) R _ (Lh (row_drew HRR.out)) hml (by omega) (by omega) (by omega) HJ).mono ?_);rintro e w5 ⟨rfl,hb5⟩;have hS5:=c2x_keep (by assumption) hb5;have hb15:Below wr.heap.size wr w5:=below_keep hb5 (by repeat (first | (with_reducible exact Below.refl _ _) | (with_reducible refine b_drew ?_)));have HP5:=Lh (HPr.out.keep hb15);have hs15:=hb15.size)
    | (go_at_call 251;(with_reducible refine (cbehind_of a _ A _ HP5 ha HO HA).mono ?_);rintro e w6 ⟨rfl,hb6⟩;have hS6:=c2x_keep (by assumption) hb6;have hb16:Below wr.heap.size wr w6:=below_keep hb6 hb15;have HW6:=Lh (HWr.out.keep hb16);have HK6:=Lh (heap_keep HKr.out hb16);have hs16:=hb16.size)
    | (go_at_call 150;(with_reducible refine (wline_of b acc lev (arrB d) w6.heap.size 3 [R,A,⟨#[59]⟩] _ (Lh (HW6.out.alloc _)) (Lh (row_new w6 [R,A,⟨#[59]⟩] #[.string R,.string A,.string ⟨#[59]⟩] rfl)) (by omega) rfl (by decide) (by simp [strsL];omega)).mono ?_);rintro e w8 ⟨rfl,h8,hf8⟩;have hS8:w8.cell? ⟨w.heap.size,3,none⟩=some (.slice so sn sc)∧w8.cell? ⟨b,3,none⟩=some (.string (arrB d)):=⟨cell_fr hf8 (heap_keep HK6.out (al1 ..)) (by decide) hne (c2x_alloc hS6).1,(wr_cells h8).2.1⟩))
   all_goals
    have hfr:=(HFr.out.trans (Fr.of hb16 (by omega))).trans (((Fr.refl b w6).alloc (by omega) _).trans hf8)
    have hfin:Wr w8 b (acc ++ (List.replicate (4*lev) 32 ++ (R.data.toList ++ (A.data.toList ++ [59,10])))) lev (arrB d):=by simpa [strsL] using h8
    go_wp2
    go_end0
    exact ⟨rfl,hfin,hfr⟩
def RStOk (l:List St):Prop:=∀ (w0 w:World) (v:Value) (d:Bool) (m:Nat) (ah Q:ByteArray),Hid (Below w0.heap.size w0 w)→Hid (Sts w0 v l)→Hid (vL l)→Hid (okL l)→Hid (ah.data.toList=List.replicate m 32)→Hid (stL prL d m l=Q.data.toList)→Q.size≤8000000 →
 Calls Tryz.prog 88 #[v,.bool d,.string ah] w fun e w'=>e=.returned (.string Q)∧Below w.heap.size w w'
def RSt (s:St):Prop:=∀ (w0 w:World) (rv av bv:Value) (d:Bool) (m:Nat) (ah Q:ByteArray),Hid (Below w0.heap.size w0 w)→Hid (fvOk w0 ⟨s,0,rv,av,bv⟩)→Hid (vS s)→Hid ((s.refs.length≤40∧s.attrs.length≤40)∧okL s.body)→Hid (ah.data.toList=List.replicate m 32)→Hid (stS prL d m s=Q.data.toList)→Q.size≤8000000 →
 Calls Tryz.prog 152 #[stV s rv av bv,.bool d,.string ah] w fun e w'=>e=.returned (.string Q)∧Below w.heap.size w w'
theorem rep_app (m:Nat){ah:ByteArray}(h:ah.data.toList=List.replicate m 32):(ah ++ ⟨#[32,32,32,32]⟩).data.toList=List.replicate (m+4) 32:=by
 rw [ba_add,h];show List.replicate m 32 ++ List.replicate 4 32=_;exact List.replicate_append_replicate
theorem stL_app {pr:List UInt8→Int × Int}(d:Bool)(m:Nat)(a b:List St):stL pr d m (a ++ b)=stL pr d m a ++ stL pr d m b:=by
 induction a with
 | nil=>rfl
 | cons s t ih=>rw [List.cons_append];simp only [stL,ih,List.append_assoc]
theorem stL_take {pr:List UInt8→Int × Int}(d:Bool)(m:Nat){l:List St}{k:Nat}(h:k < l.length):stL pr d m (l.take (k+1))=stL pr d m (l.take k) ++ stS pr d m l[k]:=by
 rw [List.take_add_one,List.getElem?_eq_getElem h,stL_app]
 show _ ++ (stS pr d m l[k] ++ [])=_
 rw [List.append_nil]
theorem stL_le {pr:List UInt8→Int × Int}(d:Bool)(m:Nat)(l:List St)(k:Nat):(stL pr d m (l.take k)).length≤(stL pr d m l).length:=by
 have h:=stL_app (pr:=pr) d m (l.take k) (l.drop k)
 rw [List.take_append_drop] at h
 rw [h,List.length_append];omega
theorem vL_at {l:List St}(h:vL l){k:Nat}(hk:k < l.length):vS l[k]:=by
 obtain ⟨lv,h⟩:=h
 refine ⟨lv,fun x hx=>h x ?_⟩
 have:l=l.take k ++ (l[k] :: l.drop (k+1)):=by rw [← List.drop_eq_getElem_cons hk,List.take_append_drop]
 rw [this,preL_app,preL_cons]
 exact List.mem_append_right _ (List.mem_append_left _ hx)
theorem okL_at {l:List St}(h:okL l){k:Nat}(hk:k < l.length):(l[k].refs.length≤40∧l[k].attrs.length≤40)∧okL l[k].body:=by
 have e:l=l.take k ++ (l[k] :: l.drop (k+1)):=by rw [← List.drop_eq_getElem_cons hk,List.take_append_drop]
 have h2:okL (l[k] :: l.drop (k+1)):=fun x hx=>h x (by rw [e,preL_app];exact List.mem_append_right _ hx)
 exact ⟨(okL_cons.1 h2).1,(okL_cons.1 h2).2.1⟩
theorem len_of {Q:ByteArray}{l:List UInt8}(h:l=Q.data.toList):Q.size=l.length:=by rw [h,b_size]
theorem prs_in {w:World}{v:Value}{x:List UInt8}(h:Prs w v [([],x)]):∃ A cap,v=.slice (some A) 1 cap∧prAt w A 0 ([],x):=by
 obtain ⟨ao,cap,rfl,_,_,hA⟩:=h
 obtain ⟨A,rfl,h2⟩:=hA (by simp)
 exact ⟨A,cap,rfl,h2 0 (by simp)⟩
set_option maxRecDepth 100000 in
set_option maxHeartbeats 8000000 in
theorem rst_step (s:St)(ih:RStOk s.body):RSt s:=by
 intro w0 w rv av bv d m ah Q hB0 hfv hv hok hah hq hQ
 have hmx:Tryz.prog.follows .mixedOrders=true:=by kernel_rfl
 obtain ⟨hnm,hrv,hav,hbv⟩:s.name.length≤maxLen∧Prs w0 rv s.refs∧Prs w0 av s.attrs∧Sts w0 bv s.body:=hfv.out
 have hform:=hv.out.form
 have hatt:=hv.out.att
 have hvals:=hv.out.vals
 have hbody:=hv.out.body
 have hoks:=hok.out
 have hq0:=hq.out
 clear hfv hv hok hq
 obtain ⟨ro,rn,rc,rfl⟩:∃ a n c,rv=.slice a n c:=by obtain ⟨a,c,rfl,_⟩:=hrv;exact ⟨_,_,_,rfl⟩
 obtain ⟨so,sn,sc,rfl⟩:∃ a n c,av=.slice a n c:=by obtain ⟨a,c,rfl,_⟩:=hav;exact ⟨_,_,_,rfl⟩
 obtain ⟨bo,bn,bc,rfl⟩:∃ a n c,bv=.slice a n c:=by obtain ⟨a,c,rfl,_⟩:=hbv;exact ⟨_,_,_,rfl⟩
 cases hform with
 | node n a hn hk =>
  simp only [St.kind,St.name,St.refs,St.attrs,St.body] at hnm hrv hav hbv hatt hoks
  have ha:=hatt (by decide)
  have s1:=nm_le hn
  obtain ⟨X,hX⟩:∃ X,bb n=X:=⟨_,rfl⟩
  obtain ⟨A,hA⟩:∃ A,bb (aft prL a)=A:=⟨_,rfl⟩
  have HA:Hid (aft prL a=A.data.toList):=Lh (by rw [← hA])
  have hX1:X.data.toList=n:=by rw [← hX]
  have hXs:X.size≤16:=by rw [← b_size,hX1];exact s1
  have hAs:A.size≤4000:=by rw [← b_size,← HA.out];have:=aft_len ha;omega
  have hqq:List.replicate m 32 ++ (n ++ (aft prL a ++ [59,10]))=Q.data.toList:=by rw [← hq0];simp [stS]
  have HE:Hid (ah ++ X ++ A ++ ⟨#[59,10]⟩=Q):=Lh (ba_eq (by rw [← hqq];simp [hah.out,hX1,HA.out]))
  have has:ah.size≤8000000:=by have:=len_of hqq;rw [List.length_append,← hah.out,b_size] at this;omega
  have HPA:=Lh (hav.keep hB0.out)
  have HO:=Lh ha
  have hal:=hoks.1.2
  clear hq0 hqq hA ha hatt hvals hnm hrv hav hbv hoks hbody ih hn hk s1 hX1 hah hB0 hQ
  have hB1:=al1 w (.cells #[.int .i64 1,.string X,(.slice ro rn rc),(.slice so sn sc),(.slice bo bn bc)] 67)
  obtain ⟨c0,c1,c2,c3,c4⟩:=at5_new w 1 X (.slice ro rn rc) (.slice so sn sc) (.slice bo bn bc) 67
  show Calls Tryz.prog 152 #[.agg #[.int .i64 1,.string (bb n),(.slice ro rn rc),(.slice so sn sc),(.slice bo bn bc)],.bool d,.string ah] w _
  rw [hX]
  go_enter Tryz.func152,Tryz.ntmps152
  go_wp2_with fail
  generalize w.alloc (.cells #[.int .i64 1,.string X,(.slice ro rn rc),(.slice so sn sc),(.slice bo bn bc)] 67)=w1 at *
  have t0:=fun d os=>cell_regrown c0 d os
  have t1:=fun d os=>cell_regrown c1 d os
  have t3:=fun d os=>cell_regrown c3 d os
  have hp1:=fun d os=>(HPA.out.keep hB1).keep (below_regrown w1 d os)
  have cA:=fun d os=>Calls.regrown_of (w:=w1) (d:=d) (os:=os) (rafter_of a _ A (grow (redrawn w1 d) os) (Lh (hp1 d os)) hal HO HA)
  clear c0 c1 c2 c3 c4 hp1 HPA
  refine wp_region_quiet_below hmx (by kernel_rfl) ?_
  repeat (go_big_quiet_step (with_reducible exact cA _ _))
  refine wpQuiet_nil ?_
  intro _ hw'
  obtain ⟨⟨dq,osq⟩,hw''⟩:=hw'
  subst hw''
  go_wp2
  go_ret
  exact ⟨ret_str HE.out,below_keep (below_regrown w1 dq osq) hB1⟩
 | edge r r2 t a hr hk =>
  simp only [St.kind,St.name,St.refs,St.attrs,St.body] at hnm hrv hav hbv hatt hoks
  have ha:=hatt (by decide)
  obtain ⟨X,hX⟩:∃ X,bb []=X:=⟨_,rfl⟩
  obtain ⟨l,hl⟩:∃ l,r :: r2 :: t=l:=⟨_,rfl⟩
  rw [hl] at hr hrv hoks hq0
  have hro:refOk l:=hr
  obtain ⟨A,hA⟩:∃ A,bb (aft prL a)=A:=⟨_,rfl⟩
  obtain ⟨R,hR⟩:∃ R,bb (refS d l)=R:=⟨_,rfl⟩
  have HA:Hid (aft prL a=A.data.toList):=Lh (by rw [← hA])
  have HR:Hid (refS d l=R.data.toList):=Lh (by rw [← hR])
  have hAs:A.size≤4000:=by rw [← b_size,← HA.out];have:=aft_len ha;omega
  have hRs:R.size≤2000:=by rw [← b_size,← HR.out];have:=refS_len d hro;omega
  have hqq:List.replicate m 32 ++ (refS d l ++ (aft prL a ++ [59,10]))=Q.data.toList:=by rw [← hq0];simp [stS]
  have HE:Hid (ah ++ R ++ A ++ ⟨#[59,10]⟩=Q):=Lh (ba_eq (by rw [← hqq];simp [hah.out,HR.out,HA.out]))
  have has:ah.size≤8000000:=by have:=len_of hqq;rw [List.length_append,← hah.out,b_size] at this;omega
  have HPA:=Lh (hav.keep hB0.out)
  have HPR:=Lh (hrv.keep hB0.out)
  have HO:=Lh ha
  have HO2:=Lh hro
  have hal:=hoks.1.2
  have hrl:=hoks.1.1
  clear hq0 hqq hA hR ha hro hatt hvals hnm hrv hav hbv hoks hbody ih hr hk hl hah hB0 hQ
  have hB1:=al1 w (.cells #[.int .i64 2,.string X,(.slice ro rn rc),(.slice so sn sc),(.slice bo bn bc)] 67)
  obtain ⟨c0,c1,c2,c3,c4⟩:=at5_new w 2 X (.slice ro rn rc) (.slice so sn sc) (.slice bo bn bc) 67
  show Calls Tryz.prog 152 #[.agg #[.int .i64 2,.string (bb []),(.slice ro rn rc),(.slice so sn sc),(.slice bo bn bc)],.bool d,.string ah] w _
  rw [hX]
  go_enter Tryz.func152,Tryz.ntmps152
  go_wp2_with fail
  generalize w.alloc (.cells #[.int .i64 2,.string X,(.slice ro rn rc),(.slice so sn sc),(.slice bo bn bc)] 67)=w1 at *
  have t0:=fun d os=>cell_regrown c0 d os
  have t2:=fun d os=>cell_regrown c2 d os
  have t3:=fun d os=>cell_regrown c3 d os
  have hp1:=fun d os=>(HPA.out.keep hB1).keep (below_regrown w1 d os)
  have hp2:=fun d os=>(HPR.out.keep hB1).keep (below_regrown w1 d os)
  have cA:=fun d os=>Calls.regrown_of (w:=w1) (d:=d) (os:=os) (rafter_of a _ A (grow (redrawn w1 d) os) (Lh (hp1 d os)) hal HO HA)
  have cR:=fun d1 os=>Calls.regrown_of (w:=w1) (d:=d1) (os:=os) (rrefs_of l d _ R (grow (redrawn w1 d1) os) (Lh (hp2 d1 os)) hrl HO2 HR)
  clear c0 c1 c2 c3 c4 hp1 hp2 HPA HPR
  refine wp_region_quiet_below hmx (by kernel_rfl) ?_
  repeat (go_big_quiet_step (first | with_reducible exact cA _ _ | with_reducible exact cR _ _))
  refine wpQuiet_nil ?_
  intro _ hw'
  obtain ⟨⟨dq,osq⟩,hw''⟩:=hw'
  subst hw''
  go_wp2
  go_ret
  exact ⟨ret_str HE.out,below_keep (below_regrown w1 dq osq) hB1⟩
 | dflt n a hn hk =>
  simp only [St.kind,St.name,St.refs,St.attrs,St.body] at hnm hrv hav hbv hatt hoks
  have ha:=hatt (by decide)
  have s1:n.length=4:=by rcases hn with rfl | rfl <;> rfl
  obtain ⟨X,hX⟩:∃ X,bb n=X:=⟨_,rfl⟩
  have hX1:X.data.toList=n:=by rw [← hX]
  have hXs:X.size≤16:=by rw [← b_size,hX1];omega
  have hqq:List.replicate m 32 ++ (n ++ 32 :: ((if a.isEmpty then [91,93] else attS prL a) ++ [59,10]))=Q.data.toList:=by rw [← hq0];simp [stS]
  have has:ah.size≤8000000:=by have:=len_of hqq;rw [List.length_append,← hah.out,b_size] at this;omega
  obtain rfl:sn=a.length:=by obtain ⟨_,_,e,_⟩:=hav;cases e;rfl
  have HPA:=Lh (hav.keep hB0.out)
  have HO:=Lh ha
  have hal:=hoks.1.2
  rcases Nat.eq_zero_or_pos a.length with h0 | h0
  ·have HE:Hid (ah ++ X ++ ⟨#[32,91,93,59,10]⟩=Q):=Lh (ba_eq (by
     rw [← hqq]
     have:a=[]:=List.length_eq_zero_iff.1 h0
     subst this
     simp [hah.out,hX1]))
   have b0:((a.length:Int) == 0)=true:=by rw [beq_iff_eq];omega
   clear hq0 hqq ha hatt hvals hnm hrv hav hbv hoks hbody ih hn hk s1 hX1 hah hB0 hQ HPA HO hal h0
   show Calls Tryz.prog 152 #[.agg #[.int .i64 3,.string (bb n),.slice ro rn rc,.slice so a.length sc,.slice bo bn bc],.bool d,.string ah] w _
   rw [hX]
   go_enter Tryz.func152,Tryz.ntmps152
   go_wp2
   go_ret
   exact ⟨ret_str HE.out,al1 ..⟩
  obtain ⟨A,hA⟩:∃ A,bb (attS prL a)=A:=⟨_,rfl⟩
  have HA:Hid (attS prL a=A.data.toList):=Lh (by rw [← hA])
  have hAs:A.size≤4000:=by rw [← b_size,← HA.out];have:=attS_len ha;omega
  have HE:Hid (ah ++ X ++ ⟨#[32]⟩ ++ A ++ ⟨#[59,10]⟩=Q):=Lh (ba_eq (by
   rw [← hqq,if_neg (by cases a <;> simp at h0 ⊢)];simp [hah.out,hX1,HA.out]))
  have b0:((a.length:Int) == 0)=false:=by rw [beq_eq_false_iff_ne];omega
  clear hq0 hqq hA ha hatt hvals hnm hrv hav hbv hoks hbody ih hn hk s1 hX1 hah hB0 hQ h0
  have hB1:=al1 w (.cells #[.int .i64 3,.string X,(.slice ro rn rc),(.slice so a.length sc),(.slice bo bn bc)] 67)
  obtain ⟨c0,c1,c2,c3,c4⟩:=at5_new w 3 X (.slice ro rn rc) (.slice so a.length sc) (.slice bo bn bc) 67
  show Calls Tryz.prog 152 #[.agg #[.int .i64 3,.string (bb n),(.slice ro rn rc),(.slice so a.length sc),(.slice bo bn bc)],.bool d,.string ah] w _
  rw [hX]
  go_enter Tryz.func152,Tryz.ntmps152
  go_wp2_with fail
  generalize w.alloc (.cells #[.int .i64 3,.string X,(.slice ro rn rc),(.slice so a.length sc),(.slice bo bn bc)] 67)=w1 at *
  have t0:=fun d os=>cell_regrown c0 d os
  have t1:=fun d os=>cell_regrown c1 d os
  have t3:=fun d os=>cell_regrown c3 d os
  have hp1:=fun d os=>(HPA.out.keep hB1).keep (below_regrown w1 d os)
  have cA:=fun d os=>Calls.regrown_of (w:=w1) (d:=d) (os:=os) (rlist_of a _ A (grow (redrawn w1 d) os) (Lh (hp1 d os)) hal HO HA)
  clear c0 c1 c2 c4 hp1 HPA
  refine wp_region_quiet_below hmx (by kernel_rfl) ?_
  repeat (go_big_quiet_step (with_reducible exact cA _ _))
  refine wpQuiet_nil ?_
  intro _ hw'
  obtain ⟨⟨dq,osq⟩,hw''⟩:=hw'
  subst hw''
  go_wp2
  go_ret
  exact ⟨ret_str HE.out,below_keep (below_regrown w1 dq osq) hB1⟩
 | sset n x hn =>
  simp only [St.name,St.refs,St.attrs,St.body] at hnm hrv hav hbv hoks
  have hx:=hvals ([],x) (by simp [St.attrs])
  have s1:=nm_le hn
  obtain ⟨X,hX⟩:∃ X,bb n=X:=⟨_,rfl⟩
  obtain ⟨Y,hY⟩:∃ Y,bb x=Y:=⟨_,rfl⟩
  obtain ⟨A,hA⟩:∃ A,bb (valS prL x)=A:=⟨_,rfl⟩
  have hX1:X.data.toList=n:=by rw [← hX]
  have hY1:Y.data.toList=x:=by rw [← hY]
  have HA:Hid (valS prL Y.data.toList=A.data.toList):=Lh (by rw [← hA,hY1])
  have hXs:X.size≤16:=by rw [← b_size,hX1];exact s1
  have hYs:Y.size≤32:=by rw [← b_size,hY1];exact hx.1
  have hAs:A.size≤66:=by rw [← b_size,← HA.out,hY1];exact val_len hx.1
  have HP:Hid (Y.data.toList.all isPl=true):=Lh (by rw [hY1];exact hx.2)
  have hqq:List.replicate m 32 ++ (wSet ++ 32 :: (n ++ 32 :: 61 :: 32 :: (valS prL x ++ [59,10])))=Q.data.toList:=by rw [← hq0];simp [stS]
  have HE:Hid (ah ++ ⟨#[115,101,116,32]⟩ ++ X ++ ⟨#[32,61,32]⟩ ++ A ++ ⟨#[59,10]⟩=Q):=Lh (ba_eq (by rw [← hqq];simp [hah.out,hX1,← HA.out,hY1,wSet]))
  have has:ah.size≤8000000:=by have:=len_of hqq;rw [List.length_append,← hah.out,b_size] at this;omega
  obtain ⟨C,cap,e,p0,p1,_,_⟩:=prs_in (hav.keep hB0.out)
  cases e
  rw [hY] at p1
  clear hq0 hqq hA hatt hvals hnm hrv hav hbv hoks hbody ih hn s1 hX1 hY hY1 hah hB0 hQ hx p0
  have hB1:=al1 w (.cells #[.int .i64 4,.string X,(.slice ro rn rc),(.slice (some C) 1 sc),(.slice bo bn bc)] 67)
  obtain ⟨c0,c1,c2,c3,c4⟩:=at5_new w 4 X (.slice ro rn rc) (.slice (some C) 1 sc) (.slice bo bn bc) 67
  show Calls Tryz.prog 152 #[.agg #[.int .i64 4,.string (bb n),(.slice ro rn rc),(.slice (some C) 1 sc),(.slice bo bn bc)],.bool d,.string ah] w _
  rw [hX]
  go_enter Tryz.func152,Tryz.ntmps152
  go_wp2_with fail
  generalize w.alloc (.cells #[.int .i64 4,.string X,(.slice ro rn rc),(.slice (some C) 1 sc),(.slice bo bn bc)] 67)=w1 at *
  have t0:=fun d os=>cell_regrown c0 d os
  have t1:=fun d os=>cell_regrown c1 d os
  have t3:=fun d os=>cell_regrown c3 d os
  have p2:w.cell? ⟨C.block,C.off+1,none⟩=some (.string Y):=by simpa [Addr.add] using p1
  have u1:=fun d os=>cell_regrown (cell_later' hB1 p2) d os
  have cA:=fun d os=>Calls.regrown_of (w:=w1) (d:=d) (os:=os) ((rvalue_of Y A (grow (redrawn w1 d) os) hYs HP HA).mono fun _ _ h=>⟨h.1,by rw [← h.2];exact Below.refl _ _⟩)
  clear c0 c1 c2 c3 c4 p1 p2
  refine wp_region_quiet_below hmx (by kernel_rfl) ?_
  repeat (go_big_quiet_step (with_reducible exact cA _ _))
  refine wpQuiet_nil ?_
  intro _ hw'
  obtain ⟨⟨dq,osq⟩,hw''⟩:=hw'
  subst hw''
  go_wp2
  go_ret
  exact ⟨ret_str HE.out,below_keep (below_regrown w1 dq osq) hB1⟩
 | clus n b hn =>
  simp only [St.name,St.refs,St.attrs,St.body] at hnm hrv hav hbv hoks hbody ih
  have s1:=nm_le hn
  obtain ⟨X,hX⟩:∃ X,bb n=X:=⟨_,rfl⟩
  obtain ⟨A,hA⟩:∃ A,bb (stL prL d (m+4) b)=A:=⟨_,rfl⟩
  have HA:Hid (stL prL d (m+4) b=A.data.toList):=Lh (by rw [← hA])
  have hX1:X.data.toList=n:=by rw [← hX]
  have hXs:X.size≤16:=by rw [← b_size,hX1];exact s1
  have hqq:List.replicate m 32 ++ (wClu ++ 32 :: (n ++ 32 :: 123 :: 10 :: (stL prL d (m+4) b ++ (List.replicate m 32 ++ [125,10]))))=Q.data.toList:=by rw [← hq0];simp [stS]
  have HE:Hid (ah ++ ⟨#[99,108,117,115,116,101,114,32]⟩ ++ X ++ ⟨#[32,123,10]⟩ ++ A ++ ah ++ ⟨#[125,10]⟩=Q):=Lh (ba_eq (by rw [← hqq];simp [hah.out,hX1,HA.out,wClu]))
  have hsz:=len_of hqq
  simp only [List.length_append,List.length_cons,List.length_replicate,HA.out,b_size] at hsz
  have hahs:ah.size=m:=by rw [← b_size,hah.out,List.length_replicate]
  have has:ah.size≤8000000:=by omega
  have hAs:A.size≤8000000:=by omega
  have HBV:=Lh hbv
  have HVL:=Lh hbody
  have HOK:=Lh hoks.2
  have HAH:=Lh (rep_app m hah.out)
  have IH:=Lh ih
  clear hq0 hqq hA hatt hvals hnm hrv hav hbv hoks hbody ih hn s1 hX1 hah hQ hsz hahs
  have hB1:=al1 w (.cells #[.int .i64 5,.string X,(.slice ro rn rc),(.slice so sn sc),(.slice bo bn bc)] 67)
  obtain ⟨c0,c1,c2,c3,c4⟩:=at5_new w 5 X (.slice ro rn rc) (.slice so sn sc) (.slice bo bn bc) 67
  show Calls Tryz.prog 152 #[.agg #[.int .i64 5,.string (bb n),(.slice ro rn rc),(.slice so sn sc),(.slice bo bn bc)],.bool d,.string ah] w _
  rw [hX]
  go_enter Tryz.func152,Tryz.ntmps152
  go_wp2_with fail
  generalize w.alloc (.cells #[.int .i64 5,.string X,(.slice ro rn rc),(.slice so sn sc),(.slice bo bn bc)] 67)=w1 at *
  have t0:=fun d os=>cell_regrown c0 d os
  have t1:=fun d os=>cell_regrown c1 d os
  have t4:=fun d os=>cell_regrown c4 d os
  have hp1:=fun d os=>Lh (hB0.out.trans ((hB1.trans ((below_regrown w1 d os).mono hB1.size)).mono hB0.out.size))
  have cA:=fun d1 os=>Calls.regrown_of (w:=w1) (d:=d1) (os:=os) (IH.out w0 (grow (redrawn w1 d1) os) _ d (m+4) _ A (hp1 d1 os) HBV HVL HOK HAH HA hAs)
  clear c0 c1 c2 c3 c4 hp1
  refine wp_region_quiet_below hmx (by kernel_rfl) ?_
  repeat (go_big_quiet_step (with_reducible exact cA _ _))
  refine wpQuiet_nil ?_
  intro _ hw'
  obtain ⟨⟨dq,osq⟩,hw''⟩:=hw'
  subst hw''
  go_wp2
  go_ret
  exact ⟨ret_str HE.out,below_keep (below_regrown w1 dq osq) hB1⟩
set_option maxRecDepth 100000 in
set_option maxHeartbeats 8000000 in
theorem rstL_step (l:List St)(ih:∀ s∈l,RStOk s.body):RStOk l:=by
 intro w0 w v d m ah Q hB0 hs hv hok hah hq hQ
 obtain ⟨ao,cap,rfl,hc,hm,_⟩:=id hs.out
 have IH:=Lh ih
 unfold maxLen at hm
 have hlm:l.length≤9223372036854775807:=by omega
 clear ih hc hm
 go_enter Tryz.func88,Tryz.ntmps88
 go_wp2_with fail
 go_loopw [7,8] (fun s i wr=>∃ (b:ByteArray) (k:Nat),k≤l.length∧s=.string b∧i=.int .i64 k∧b.data.toList=stL prL d m (l.take k)∧b.size≤8000000∧Below w.heap.size w wr) (fun _ i _=>l.length - (intOf i).toNat)
 case atStart=>exact ⟨_,0,Nat.zero_le _,rfl,rfl,rfl,by decide,Below.refl _ _⟩
 case round =>
  obtain ⟨b,k,hk,rfl,rfl,hb,hbs,hB⟩:=hrel
  rename World=>wr
  have HBL:=Lh hb
  clear hb
  by_cases hlt:k < l.length
  ·have hBr:Below w0.heap.size w0 wr:=hB0.out.trans (hB.mono hB0.out.size)
   obtain ⟨A,rfl,hst0⟩:=hs.out.get hlt
   obtain ⟨c0,c1,hnl,⟨rv,c2,hrv⟩,⟨av,c3,hav⟩,bv,c4,hbv⟩:=(stAt_eq _ _ _).1 hst0
   have c0:=cell_later' hBr c0
   have c1:=cell_later' hBr c1
   have c2:=cell_later' hBr c2
   have c3:=cell_later' hBr c3
   have c4:=cell_later' hBr c4
   have HFV:Hid (fvOk w0 ⟨l[k],0,rv,av,bv⟩):=Lh ⟨hnl,hrv,hav,hbv⟩
   obtain ⟨ro,rn,rc,rfl⟩:∃ a n c,rv=.slice a n c:=by obtain ⟨a,c,rfl,_⟩:=hrv;exact ⟨_,_,_,rfl⟩
   obtain ⟨so,sn,sc,rfl⟩:∃ a n c,av=.slice a n c:=by obtain ⟨a,c,rfl,_⟩:=hav;exact ⟨_,_,_,rfl⟩
   obtain ⟨bo,bn,bc,rfl⟩:∃ a n c,bv=.slice a n c:=by obtain ⟨a,c,rfl,_⟩:=hbv;exact ⟨_,_,_,rfl⟩
   have HT:=Lh (stL_take (pr:=prL) d m hlt)
   have HLE:=Lh (stL_le (pr:=prL) d m l (k+1))
   have HVS:=Lh (vL_at hv.out hlt)
   have HOK:=Lh (okL_at hok.out hlt)
   have HR:=Lh (rst_step l[k] (IH.out l[k] (List.getElem_mem hlt)))
   obtain ⟨x,hx⟩:∃ x,l[k]=x:=⟨_,rfl⟩
   rw [hx] at c0 c1 HFV HT HVS HOK HR
   clear hx hst0 hnl hrv hav hbv
   obtain ⟨S,hS⟩:∃ S,bb (stS prL d m x)=S:=⟨_,rfl⟩
   have HS:Hid (stS prL d m x=S.data.toList):=Lh (by rw [← hS])
   have hfin:(b ++ S).data.toList=stL prL d m (l.take (k+1)):=by rw [HT.out,ba_add,HBL.out,HS.out]
   have hsz:(b ++ S).size≤8000000:=by
    have:=HLE.out
    rw [← b_size,hfin]
    have h2:=len_of hq.out
    omega
   have hSs:S.size≤8000000:=by rw [ByteArray.size_append] at hsz;omega
   have HF:=Lh hfin
   have HZ:=Lh hsz
   have HBR:=Lh hBr
   obtain ⟨X,hX⟩:∃ X,bb x.name=X:=⟨_,rfl⟩
   have z0:(0:Int)≤(k:Int):=by omega
   have z1:(k:Int) < (l.length:Int):=by omega
   have HC:Hid (Calls Tryz.prog 152 #[.agg #[.int .i64 x.kind,.string X,.slice ro rn rc,.slice so sn sc,.slice bo bn bc],.bool d,.string ah] wr fun e w'=>e=.returned (.string S)∧Below wr.heap.size wr w'):=Lh (by
    rw [← hX];exact HR.out w0 wr _ _ _ d m ah S HBR HFV HVS HOK hah HS hSs)
   rw [hX] at c1
   clear hX hS hfin hsz HT HLE HR HFV hBr
   go_wp2_with (go_at_call 152;refine (HC.out).mono ?_;rintro e w2 ⟨rfl,hb2⟩)
   go_roundw
   case rel=>exact ⟨_,k+1,by omega,rfl,by go_num,HF.out,HZ.out,below_keep hb2 hB⟩
   case measure=>simp [intOf];omega
  ·obtain rfl:k=l.length:=by omega
   have HE:Hid (b=Q):=Lh (ba_eq (by rw [← hq.out,HBL.out,List.take_length]))
   go_wp2
   go_ret
   exact ⟨ret_str HE.out,hB⟩
theorem rstmts_ok (l:List St):RStOk l:=lst_ind rstL_step l
end Go.Proofs.YtgmidodmmlmmeaaGreatDoor.prt
