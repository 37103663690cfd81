/-
  Contracts and plain facts of the layers below; conditions as each theorem states them.
-/
import Derived.Test.YtgmidodmmlmmeaaGreatDoorMpb
import Derived.Laws.EntriesVeiled
set_option maxHeartbeats 8000000
set_option maxRecDepth 100000
namespace Go.Proofs.YtgmidodmmlmmeaaGreatDoor.prt
open Go.RowKit Go.Sort lex tre _root_.Go.Proofs.Tryz
theorem ypK (b:Nat)(acc:List UInt8)(lev:Nat)(arr:ByteArray)(kd:Int)(X A:ByteArray)(a:List Pr)(ro so bo:Option Addr)(rn rc sn sc bn bc:Nat)(w:World)(HW:Hid (Wr w b acc lev arr))(hX:X.size<=16)(HP:Hid (Prs w (.slice so sn sc) a))(ha:a.length<=40)(HO:Hid (yfs a))(HA:Hid (91::(ylb a++[93])=A.data.toList))
    (hl:acc.length+4*lev+5000<=1000000) :
    Calls Tryz.prog 205 #[.pointer (some ⟨b,0,none⟩),.agg #[.int .i64 kd,.string X,.slice ro rn rc,.slice so sn sc,.slice bo bn bc]] w fun e w'=>e=.returned (.tuple #[])/\Wr w' b (acc++(List.replicate (4*lev) 32++(X.data.toList++32::(A.data.toList++[59,10])))) lev arr/\Fr b w w':=by
 have hB:=al1 w (.cells #[.int .i64 kd,.string X,.slice ro rn rc,.slice so sn sc,.slice bo bn bc] 67);have hk:=heap_alloc_new w (.cells #[.int .i64 kd,.string X,.slice ro rn rc,.slice so sn sc,.slice bo bn bc] 67);obtain⟨-,c1,-,c3,-⟩:=ycj w kd X (.slice ro rn rc) (.slice so sn sc) (.slice bo bn bc) 67;have hbw:=HW.out.lt;have hAs:A.size<=3500:=by rw[<- yz,<- HA.out];have:=ykj HO.out;simp only[List.length_cons,List.length_append,List.length_nil];omega
 go_enter func205,ntmps205;go_wp2_with fail
 generalize w.alloc (.cells #[.int .i64 kd,.string X,.slice ro rn rc,.slice so sn sc,.slice bo bn bc] 67)=w1 at *;have HW1:=Lh (HW.out.keep hB);have HP1:=Lh (HP.out.keep hB);have HF1:=Lh (Fr.of hB (by omega):Fr b w w1);have HK:=Lh hk;have hsz:=hB.size;have hne:w.heap.size≠b:=by omega
 have hP0:w1.cell? ⟨w.heap.size,1,none⟩=some (.string X)/\w1.cell? ⟨w.heap.size,3,none⟩=some (.slice so sn sc):=⟨c1,c3⟩;clear c1 c3 hk HW HP
 go_region_held3 (fun w'=>w'.cell? ⟨w.heap.size,1,none⟩=some (.string X)/\w'.cell? ⟨w.heap.size,3,none⟩=some (.slice so sn sc))
  (first | assumption | (with_reducible refine c2_drew ?_;assumption) | (with_reducible refine yex ?_;assumption))
  (first
  | (go_at_call 253;(with_reducible refine(ykl a _ A _ (Lh (HP1.out.keep (by repeat (first | (with_reducible exact Below.refl _ _) | (with_reducible refine yat ?_))))) ha HO HA).mono ?_);rintro e w6 ⟨rfl,hb6⟩;have hS6:=yi7 (by assumption) hb6;have hb16:Below w1.heap.size w1 w6:=ya hb6 (by repeat (first | (with_reducible exact Below.refl _ _) | (with_reducible refine yat ?_)));have HW6:=Lh (HW1.out.keep hb16);have HK6:=Lh (yah HK.out hb16);have hs16:=hb16.size)
  | (go_at_call 150;(with_reducible refine(ycY b acc lev arr w6.heap.size 4 [X,⟨#[32]⟩,A,⟨#[59]⟩] _ (Lh (HW6.out.alloc _)) (Lh (yd0 w6 [X,⟨#[32]⟩,A,⟨#[59]⟩] #[.string X,.string ⟨#[32]⟩,.string A,.string ⟨#[59]⟩] rfl)) (by omega) rfl (by decide) (by simp[yaA];omega)).mono ?_);rintro e w8 ⟨rfl,h8,hf8⟩;have hS8:=ytC hf8 (yah HK6.out (al1 ..)) (by decide) hne (yex hS6)))
 all_goals
  have hfr:=(HF1.out.trans (Fr.of hb16 (by omega))).trans (((Fr.refl b w6).alloc (by omega) _).trans hf8);have hfin:Wr w8 b (acc++(List.replicate (4*lev) 32++(X.data.toList++32::(A.data.toList++[59,10])))) lev arr:=by simpa [yaA] using h8
  go_wp2
  go_end0
  exact⟨rfl,hfin,hfr⟩
theorem c3_drew {w:World}{k i j:Nat}{x y z:Value}{A:Addr}(h:w.cell? ⟨k,i,none⟩=some x/\w.cell? ⟨k,j,none⟩=some y/\w.cell? A=some z):w.drew.cell? ⟨k,i,none⟩=some x/\w.drew.cell? ⟨k,j,none⟩=some y/\w.drew.cell? A=some z:=h
theorem ym9 {w w':World}{k i j:Nat}{x y z:Value}{A:Addr}(h:w.cell? ⟨k,i,none⟩=some x/\w.cell? ⟨k,j,none⟩=some y/\w.cell? A=some z)(hb:Below w.heap.size w w'):w'.cell? ⟨k,i,none⟩=some x/\w'.cell? ⟨k,j,none⟩=some y/\w'.cell? A=some z:=⟨ye hb h.1,ye hb h.2.1,yb hb h.2.2⟩
theorem ykq {w:World}{o:Obj}{k i j:Nat}{x y z:Value}{A:Addr}(h:w.cell? ⟨k,i,none⟩=some x/\w.cell? ⟨k,j,none⟩=some y/\w.cell? A=some z):(w.alloc o).cell? ⟨k,i,none⟩=some x/\(w.alloc o).cell? ⟨k,j,none⟩=some y/\(w.alloc o).cell? A=some z:=ym9 h (al1 ..)
theorem c3_fr {b k i j:Nat}{w w':World}{c:Array Value}{t:TypeId}{x y z:Value}{A:Addr}(f:Fr b w w')(hk:w.heap[k]?=some (.cells c t (0,0)))(ht:t≠5)(hb:k≠b)(hA:A.block<b)(h:w.cell? ⟨k,i,none⟩=some x/\w.cell? ⟨k,j,none⟩=some y/\w.cell? A=some z):w'.cell? ⟨k,i,none⟩=some x/\w'.cell? ⟨k,j,none⟩=some y/\w'.cell? A=some z :=
 ⟨ybF f hk ht hb h.1,ybF f hk ht hb h.2.1,by rw[f.1.cell hA];exact h.2.2⟩
theorem ysm (b:Nat)(acc:List UInt8)(lev:Nat)(arr:ByteArray)(kd:Int)(X Y A:ByteArray)(C:Addr)(ro bo:Option Addr)(rn rc sc bn bc:Nat)(w:World)(HW:Hid (Wr w b acc lev arr))(hX:X.size<=16)(hY:Y.size<=32)(hC:C.block<b)(p1:w.cell? ⟨C.block,C.off+1,none⟩=some (.string Y))(hpl:Hid (Y.data.toList.all yar=true))(HA:Hid (yiD prL Y.data.toList=A.data.toList))
    (hl:acc.length+4*lev+5000<=1000000) :
    Calls Tryz.prog 206 #[.pointer (some ⟨b,0,none⟩),.agg #[.int .i64 kd,.string X,.slice ro rn rc,.slice (some C) 1 sc,.slice bo bn bc]] w fun e w'=>e=.returned (.tuple #[])/\Wr w' b (acc++(List.replicate (4*lev) 32++(yrV++32::(X.data.toList++32::61::32::(A.data.toList++[59,10]))))) lev arr/\Fr b w w':=by
 have hB:=al1 w (.cells #[.int .i64 kd,.string X,.slice ro rn rc,.slice (some C) 1 sc,.slice bo bn bc] 67);have hk:=heap_alloc_new w (.cells #[.int .i64 kd,.string X,.slice ro rn rc,.slice (some C) 1 sc,.slice bo bn bc] 67);obtain⟨-,c1,-,c3,-⟩:=ycj w kd X (.slice ro rn rc) (.slice (some C) 1 sc) (.slice bo bn bc) 67;have hbw:=HW.out.lt;have hAs:A.size<=66:=by rw[<- yz,<- HA.out];exact yhi (by rw[yz];exact hY)
 have hp1:=yb hB p1;clear p1;go_enter func206,ntmps206;go_wp2_with fail
 generalize w.alloc (.cells #[.int .i64 kd,.string X,.slice ro rn rc,.slice (some C) 1 sc,.slice bo bn bc] 67)=w1 at *;have HW1:=Lh (HW.out.keep hB);have HF1:=Lh (Fr.of hB (by omega):Fr b w w1);have HK:=Lh hk;have hsz:=hB.size;have hne:w.heap.size≠b:=by omega
 have hP0:w1.cell? ⟨w.heap.size,1,none⟩=some (.string X)/\w1.cell? ⟨w.heap.size,3,none⟩=some (.slice (some C) 1 sc)/\w1.cell? ⟨C.block,C.off+1,none⟩=some (.string Y):=⟨c1,c3,hp1⟩;clear c1 c3 hk HW hp1
 go_region_held3 (fun w'=>w'.cell? ⟨w.heap.size,1,none⟩=some (.string X)/\w'.cell? ⟨w.heap.size,3,none⟩=some (.slice (some C) 1 sc)/\w'.cell? ⟨C.block,C.off+1,none⟩=some (.string Y))
  (first | assumption | (with_reducible refine c3_drew ?_;assumption) | (with_reducible refine ykq ?_;assumption))
  (first
  | (go_at_call 254;(with_reducible refine(yim Y A _ hY hpl HA).mono ?_);rintro e w6 ⟨rfl,hb6⟩;have hS6:=ym9 (by assumption) hb6;have hb16:Below w1.heap.size w1 w6:=ya hb6 (by repeat (first | (with_reducible exact Below.refl _ _) | (with_reducible refine yat ?_)));have HW6:=Lh (HW1.out.keep hb16);have HK6:=Lh (yah HK.out hb16);have hs16:=hb16.size)
  | (go_at_call 150;(with_reducible refine(ycY b acc lev arr w6.heap.size 5 [⟨#[115,101,116,32]⟩,X,⟨#[32,61,32]⟩,A,⟨#[59]⟩] _ (Lh (HW6.out.alloc _)) (Lh (yd0 w6 [⟨#[115,101,116,32]⟩,X,⟨#[32,61,32]⟩,A,⟨#[59]⟩] #[.string ⟨#[115,101,116,32]⟩,.string X,.string ⟨#[32,61,32]⟩,.string A,.string ⟨#[59]⟩] rfl)) (by omega) rfl (by decide) (by simp[yaA];omega)).mono ?_);rintro e w8 ⟨rfl,h8,hf8⟩;have hS8:=c3_fr (A:=⟨C.block,C.off+1,none⟩) hf8 (yah HK6.out (al1 ..)) (by decide) hne hC (ykq hS6)))
 all_goals
  have hfr:=(HF1.out.trans (Fr.of hb16 (by omega))).trans (((Fr.refl b w6).alloc (by omega) _).trans hf8);have hfin:Wr w8 b (acc++(List.replicate (4*lev) 32++(yrV++32::(X.data.toList++32::61::32::(A.data.toList++[59,10]))))) lev arr:=by simpa [yaA,yrV] using h8
  go_wp2
  go_end0
  exact⟨rfl,hfin,hfr⟩
def yc3 (d:Bool):ByteArray:=⟨(arrS d).toArray⟩
theorem yna (d:Bool):(yc3 d).size=4:=by cases d <;> rfl
theorem yhr {w w':World}{k b i j:Nat}{x y:Value}(h:w.cell? ⟨k,i,none⟩=some x/\w.cell? ⟨b,j,none⟩=some y)(hb:Below w.heap.size w w'):w'.cell? ⟨k,i,none⟩=some x/\w'.cell? ⟨b,j,none⟩=some y:=⟨ye hb h.1,ye hb h.2⟩
theorem c2x_drew {w:World}{k b i j:Nat}{x y:Value}(h:w.cell? ⟨k,i,none⟩=some x/\w.cell? ⟨b,j,none⟩=some y):w.drew.cell? ⟨k,i,none⟩=some x/\w.drew.cell? ⟨b,j,none⟩=some y:=h
theorem yix {w:World}{o:Obj}{k b i j:Nat}{x y:Value}(h:w.cell? ⟨k,i,none⟩=some x/\w.cell? ⟨b,j,none⟩=some y):(w.alloc o).cell? ⟨k,i,none⟩=some x/\(w.alloc o).cell? ⟨b,j,none⟩=some y:=yhr h (al1 ..)
theorem ypL (d:Bool)(l:List Pr):Lib.join (l.map yi3) (yc3 d).data.toList=ymH d l:=by rw[ymM];rfl
theorem ypM (b:Nat)(acc:List UInt8)(lev:Nat)(d:Bool)(kd:Int)(X A R:ByteArray)(l a:List Pr)(ro so bo:Option Addr)(rn rc sn sc bn bc:Nat)(w:World)(HW:Hid (Wr w b acc lev (yc3 d)))(HL:Hid (Prs w (.slice ro rn rc) l))(hll:l.length<=40)(HLO:Hid (ypl l))(HR:Hid (ymH d l=R.data.toList))(HP:Hid (Prs w (.slice so sn sc) a))(ha:a.length<=40)(HO:Hid (yfs a))(HA:Hid (aft prL a=A.data.toList))
    (hl:acc.length+4*lev+8000<=1000000) :
    Calls Tryz.prog 204 #[.pointer (some ⟨b,0,none⟩),.agg #[.int .i64 kd,.string X,.slice ro rn rc,.slice so sn sc,.slice bo bn bc]] w fun e w'=>e=.returned (.tuple #[])/\Wr w' b (acc++(List.replicate (4*lev) 32++(R.data.toList++(A.data.toList++[59,10])))) lev (yc3 d)/\Fr b w w':=by
 obtain⟨i0,hi0,hz0,hz1,hz2⟩:=ykk;have hB:=al1 w (.cells #[.int .i64 kd,.string X,.slice ro rn rc,.slice so sn sc,.slice bo bn bc] 67);have hk:=heap_alloc_new w (.cells #[.int .i64 kd,.string X,.slice ro rn rc,.slice so sn sc,.slice bo bn bc] 67);obtain⟨-,-,c2,c3,-⟩:=ycj w kd X (.slice ro rn rc) (.slice so sn sc) (.slice bo bn bc) 67;have hbw:=HW.out.lt;have hAs:A.size<=3500:=by rw[<- yz,<- HA.out];have:=yhj HO.out;omega
 have hRs:R.size<=2000:=by rw[<- yz,<- HR.out];have:=yki d HLO.out;omega
 obtain rfl:rn=l.length:=by obtain⟨_,_,e,_⟩:=HL.out;cases e;rfl
 go_enter func204,ntmps204;go_wp2_with fail
 generalize w.alloc (.cells #[.int .i64 kd,.string X,.slice ro l.length rc,.slice so sn sc,.slice bo bn bc] 67)=w1 at *;have HW1:=Lh (HW.out.keep hB);have HP1:=Lh (HP.out.keep hB);have HL1:=Lh (HL.out.keep hB);have HF1:=Lh (Fr.of hB (by omega):Fr b w w1);have HK:=Lh hk;have C3:=Lh c3;have hsz:=hB.size;have hne:w.heap.size≠b:=by omega
 clear hk HW HP HL c3 hB
 go_loopw [4,10] (fun u i wr=>∃ (k:Nat) (uo:Option Addr) (un uc:Nat),k<=l.length/\i=.int .i64 k/\u=.slice uo un uc/\Hid (Nrow wr w1.heap.size (.slice uo un uc) ((l.take k).map yi3))/\Hid (Below w1.heap.size w1 wr)) (fun _ i _=>l.length-(intOf i).toNat)
 case atStart=>exact⟨0,none,0,0,Nat.zero_le _,rfl,rfl,Lh (World.ownsRow_nil _ _ _ _),Lh (Below.refl _ _)⟩
 case round =>
  obtain⟨k,uo,un,uc,hkl,rfl,rfl,HROW,HB⟩:=hrel
  rename World=>wr
  have hsw:=HB.out.size;clear c2
  by_cases hlt:k<l.length
  ·obtain⟨B,rfl,p0,p1,z2,z3⟩:=(HL1.out.keep HB.out).get hlt
   have hat:=HLO.out _ (List.getElem_mem hlt);have HTK:=Lh (ydT hlt);obtain⟨C,hC⟩:∃ C,(l.take k).map yi3=C:=⟨_,rfl⟩
   have hCl:C.length=k:=by rw[<- hC,List.length_map,List.length_take];omega
   have HCE:=Lh hC;rw[hC] at HROW;obtain⟨x,hx⟩:∃ x,l[k]=x:=⟨_,rfl⟩
   rw[hx] at p0 p1 z2 z3 hat HTK;clear hx hC;obtain⟨X1,hX1⟩:∃ Y,bb x.1=Y:=⟨_,rfl⟩
   obtain⟨Y1,hY1⟩:∃ Y,bb x.2=Y:=⟨_,rfl⟩
   obtain⟨V,hV⟩:∃ V,bb (yi3 x)=V:=⟨_,rfl⟩
   have d1:X1.data.toList=x.1:=by rw[<- hX1]
   have d2:Y1.data.toList=x.2:=by rw[<- hY1]
   have s1:X1.size<=16:=by rw[<- yz,d1];exact ydi hat.1
   have s2:Y1.size<=16:=by
    rw[<- yz,d2]
    rcases hat.2 with e | e
    ·rw[e];simp
    ·exact ydi e
   rw[hX1] at p0;rw[hY1] at p1;have HV:Hid (X1.data.toList++ymG Y1.data.toList=V.data.toList):=Lh (by rw[d1,d2,<- hV];rfl);have HVE:=Lh hV;have HN:Hid ((l.take (k+1)).map yi3=C++[yi3 x]):=Lh (by rw[HTK.out,List.map_append,HCE.out];rfl);have z0:(0:Int)<=(k:Int):=by omega
   have z1:(k:Int)<(l.length:Int):=by omega
   clear hat hX1 hY1 hV d1 d2 z2 z3 HTK HCE;obtain⟨v0,v1⟩:=ydg wr X1 Y1 121;have HB1:=Lh (ya (al1 wr (.cells #[.string X1,.string Y1] 121)) HB.out);have HO1:=Lh (yio (.cells #[.string X1,.string Y1] 121) HROW.out);go_wp2_with fail
   refine(yhl X1 Y1 _ s1 s2 V HV).mono ?_;rintro e w6 ⟨rfl,hb6⟩;have HB6:=Lh (ya hb6 HB1.out);have HO6:=Lh (yin HO1.out hb6);have hs6:=HB6.out.size;clear hb6 v0 v1 p0 p1
   go_wp2_with (at_builtin;refine wpList_append_own _ rfl (.tmp 14) (.tmp 17) 50 rfl w1.heap.size 9 i0 (.string ⟨#[]⟩) 1 16 underlying50 hi0 hz0 hz1 hz2 rfl (by decide) _ C.length (nmC C) rfl (World.ownsRow.alloc HO6.out _) ⟨w6.heap.size,0,none⟩ 1 1 [.string V] rfl rfl (yfm _ _ _) (by simp[Value.oneCell']) (by unfold maxLen;omega) (by omega) (by simp;omega) ?_)
   intro v7 w7 hown7 hgrow _;have HB7:=Lh ((ya (al1 ..) HB6.out).grown hgrow (by simp;omega) (fun q hq=>(World.ownsRow.lt HO6.out q hq).1))
   have hrow7:Nrow w7 w1.heap.size v7 ((l.take (k+1)).map yi3):=by
    unfold Nrow;rw[HN.out,nmC_app,List.length_append,hCl,HVE.out];exact hown7
   obtain⟨uo7,un7,uc7,rfl⟩:∃ a n c,v7=.slice a n c:=by
    rcases hrow7.2 with ⟨e,_⟩ | ⟨g,c,_,e,_⟩
    ·exact⟨_,_,_,e⟩
    ·exact⟨_,_,_,e⟩
   have HR7:=Lh hrow7;clear hgrow hown7 hrow7;go_wp2
   go_roundw
   case rel=>exact⟨k+1,_,_,_,by omega,by go_num,rfl,HR7,HB7⟩
   case measure=>simp[intOf];omega
  ·obtain rfl:k=l.length:=by omega
   have HRR:Hid (Nrow wr w1.heap.size (.slice uo un uc) (l.map yi3)):=Lh (by have:=HROW.out;rwa [List.take_length] at this);have HWr:=Lh (HW1.out.keep HB.out);have HPr:=Lh (HP1.out.keep HB.out);have HKr:=Lh (yah HK.out HB.out);have HFr:Hid (Fr b w wr):=Lh (HF1.out.trans (Fr.of HB.out (by omega)));have c3:=ye HB.out C3.out;have hml:(l.map yi3).length<=40:=by rw[List.length_map];exact hll
   have HJ:Hid (Lib.join (l.map yi3) (yc3 d).data.toList=R.data.toList):=Lh (by rw[ypL];exact HR.out);have ha4:=yna d;have hP0:wr.cell? ⟨w.heap.size,3,none⟩=some (.slice so sn sc)/\wr.cell? ⟨b,3,none⟩=some (.string (yc3 d)):=⟨c3,(ydI HWr.out).2.1⟩;clear c3 HROW HR;go_wp2_with fail
   go_region_held3 (fun w'=>w'.cell? ⟨w.heap.size,3,none⟩=some (.slice so sn sc)/\w'.cell? ⟨b,3,none⟩=some (.string (yc3 d)))
    (first | assumption | (with_reducible refine c2x_drew ?_;assumption) | (with_reducible refine yix ?_;assumption))
    (first
    | (go_at_call 242;(with_reducible refine(sjoin_row (l.map yi3) w1.heap.size _ (yc3 d) R _ (Lh (ypo HRR.out)) hml (by omega) (by omega) (by omega) HJ).mono ?_);rintro e w5 ⟨rfl,hb5⟩;have hS5:=yhr (by assumption) hb5;have hb15:Below wr.heap.size wr w5:=ya hb5 (by repeat (first | (with_reducible exact Below.refl _ _) | (with_reducible refine yat ?_)));have HP5:=Lh (HPr.out.keep hb15);have hs15:=hb15.size)
    | (go_at_call 251;(with_reducible refine(ygp a _ A _ HP5 ha HO HA).mono ?_);rintro e w6 ⟨rfl,hb6⟩;have hS6:=yhr (by assumption) hb6;have hb16:Below wr.heap.size wr w6:=ya hb6 hb15;have HW6:=Lh (HWr.out.keep hb16);have HK6:=Lh (yah HKr.out hb16);have hs16:=hb16.size)
    | (go_at_call 150;(with_reducible refine(ycY b acc lev (yc3 d) w6.heap.size 3 [R,A,⟨#[59]⟩] _ (Lh (HW6.out.alloc _)) (Lh (yd0 w6 [R,A,⟨#[59]⟩] #[.string R,.string A,.string ⟨#[59]⟩] rfl)) (by omega) rfl (by decide) (by simp[yaA];omega)).mono ?_);rintro e w8 ⟨rfl,h8,hf8⟩;have hS8:w8.cell? ⟨w.heap.size,3,none⟩=some (.slice so sn sc)/\w8.cell? ⟨b,3,none⟩=some (.string (yc3 d)):=⟨ybF hf8 (yah HK6.out (al1 ..)) (by decide) hne (yix hS6).1,(ydI h8).2.1⟩))
   all_goals
    have hfr:=(HFr.out.trans (Fr.of hb16 (by omega))).trans (((Fr.refl b w6).alloc (by omega) _).trans hf8);have hfin:Wr w8 b (acc++(List.replicate (4*lev) 32++(R.data.toList++(A.data.toList++[59,10])))) lev (yc3 d):=by simpa [yaA] using h8
    go_wp2
    go_end0
    exact⟨rfl,hfin,hfr⟩
end Go.Proofs.YtgmidodmmlmmeaaGreatDoor.prt
namespace Go.Proofs.YtgmidodmmlmmeaaGreatDoor.prt
open Go.RowKit Go.Sort lex tre
theorem ynb {pr:List UInt8->Int × Int}(d:Bool)(m:Nat)(a b:List St):stL pr d m (a++b)=stL pr d m a++stL pr d m b:=by
 induction a with
 | nil=>rfl
 | cons s t ih=>rw[List.cons_append];simp only[stL,ih,List.append_assoc]
theorem ypN {pr:List UInt8->Int × Int}(d:Bool)(m:Nat){l:List St}{k:Nat}(h:k<l.length):stL pr d m (l.take (k+1))=stL pr d m (l.take k)++stS pr d m l[k]:=by
 rw[List.take_add_one,List.getElem?_eq_getElem h,ynb]
 show _++(stS pr d m l[k]++[])=_
 rw[List.append_nil]
theorem ytD {pr:List UInt8->Int × Int}(d:Bool)(m:Nat)(l:List St)(k:Nat):(stL pr d m (l.take k)).length<=(stL pr d m l).length:=by
 have h:=ynb (pr:=pr) d m (l.take k) (l.drop k);rw[List.take_append_drop] at h;rw[h,List.length_append];omega
theorem vL_at {l:List St}(h:vL l){k:Nat}(hk:k<l.length):vS l[k]:=by
 obtain⟨lv,h⟩:=h;refine⟨lv,fun x hx=>h x ?_⟩;have:l=l.take k++(l[k]::l.drop (k+1)):=by rw[<- List.drop_eq_getElem_cons hk,List.take_append_drop]
 rw[this,yba,yH];exact List.mem_append_right _ (List.mem_append_left _ hx)
theorem ytE {l:List St}(h:okL l){k:Nat}(hk:k<l.length):(l[k].refs.length<=40/\l[k].attrs.length<=40)/\okL l[k].body:=by
 have e:l=l.take k++(l[k]::l.drop (k+1)):=by rw[<- List.drop_eq_getElem_cons hk,List.take_append_drop]
 have h2:okL (l[k]::l.drop (k+1)):=fun x hx=>h x (by rw[e,yba];exact List.mem_append_right _ hx)
 exact⟨(yjg.1 h2).1,(yjg.1 h2).2.1⟩
theorem ytF {w:World}{v:Value}{x:List UInt8}(h:Prs w v [([],x)]):∃ A cap,v=.slice (some A) 1 cap/\prAt w A 0 ([],x):=by
 obtain⟨ao,cap,rfl,_,_,hA⟩:=h;obtain⟨A,rfl,h2⟩:=hA (by simp);exact⟨A,cap,rfl,h2 0 (by simp)⟩
end Go.Proofs.YtgmidodmmlmmeaaGreatDoor.prt
namespace Go.Proofs.YtgmidodmmlmmeaaGreatDoor.prt
open Go.RowKit Go.Sort lex tre _root_.Go.Proofs.Tryz
def yk4 (d:Bool)(lev:Nat)(kw X:ByteArray)(l:List St):List UInt8 :=
 List.replicate (4*lev) 32++(kw.data.toList++32::(X.data.toList++32::123::10::(stL prL d (4*(lev+1)) l++(List.replicate (4*lev) 32++[125,10]))))
def CBl (l:List St):Prop:=∀ (w0 w:World) (b:Nat) (acc:List UInt8) (lev:Nat) (d:Bool) (kw X:ByteArray) (v:Value),Hid (Below w0.heap.size w0 w)->w0.heap.size<=b->Hid (Wr w b acc lev (yc3 d))->Hid (Sts w0 v l)->Hid (vL l)->Hid (okL l)->X.size<=16->kw.size<=16 ->
 acc.length+(yk4 d lev kw X l).length+10000<=1000000->Calls Tryz.prog 86 #[.pointer (some ⟨b,0,none⟩),.string kw,.string X,v] w fun e w'=>e=.returned (.tuple #[])/\Wr w' b (acc++yk4 d lev kw X l) lev (yc3 d)/\Fr b w w'
def CSt (s:St):Prop:=∀ (w0 w:World) (b:Nat) (acc:List UInt8) (lev:Nat) (d:Bool) (rv av bv:Value),Hid (Below w0.heap.size w0 w)->w0.heap.size<=b->Hid (Wr w b acc lev (yc3 d))->Hid (fvOk w0 ⟨s,0,rv,av,bv⟩)->Hid (vS s)->Hid ((s.refs.length<=40/\s.attrs.length<=40)/\okL s.body) ->
 acc.length+(stS prL d (4*lev) s).length+10000<=1000000->Calls Tryz.prog 151 #[.pointer (some ⟨b,0,none⟩),stV s rv av bv] w fun e w'=>e=.returned (.tuple #[])/\Wr w' b (acc++stS prL d (4*lev) s) lev (yc3 d)/\Fr b w w'
theorem s6_drew {w:World}{k j i:Nat}{a c d e f g:Value}(h:w.cell? ⟨k,0,none⟩=some a/\w.cell? ⟨k,1,none⟩=some c/\w.cell? ⟨k,2,none⟩=some d/\w.cell? ⟨k,3,none⟩=some e/\w.cell? ⟨k,4,none⟩=some f/\w.cell? ⟨j,i,none⟩=some g) :
    w.drew.cell? ⟨k,0,none⟩=some a/\w.drew.cell? ⟨k,1,none⟩=some c/\w.drew.cell? ⟨k,2,none⟩=some d/\w.drew.cell? ⟨k,3,none⟩=some e/\w.drew.cell? ⟨k,4,none⟩=some f/\w.drew.cell? ⟨j,i,none⟩=some g:=h
theorem ync {b:Nat}{w w':World}{k j i:Nat}{a c d e f g:Value}{cs cs':Array Value}{t t':TypeId}(hf:Fr b w w')(hk:w.heap[k]?=some (.cells cs t (0,0)))(ht:t≠5)(hkb:k≠b)(hj:w.heap[j]?=some (.cells cs' t' (0,0)))(ht':t'≠5)(hjb:j≠b)
    (h:w.cell? ⟨k,0,none⟩=some a/\w.cell? ⟨k,1,none⟩=some c/\w.cell? ⟨k,2,none⟩=some d/\w.cell? ⟨k,3,none⟩=some e/\w.cell? ⟨k,4,none⟩=some f/\w.cell? ⟨j,i,none⟩=some g) :
    w'.cell? ⟨k,0,none⟩=some a/\w'.cell? ⟨k,1,none⟩=some c/\w'.cell? ⟨k,2,none⟩=some d/\w'.cell? ⟨k,3,none⟩=some e/\w'.cell? ⟨k,4,none⟩=some f/\w'.cell? ⟨j,i,none⟩=some g :=
 ⟨ybF hf hk ht hkb h.1,ybF hf hk ht hkb h.2.1,ybF hf hk ht hkb h.2.2.1,ybF hf hk ht hkb h.2.2.2.1,ybF hf hk ht hkb h.2.2.2.2.1,ybF hf hj ht' hjb h.2.2.2.2.2⟩
abbrev yO:Array Value:=#[.nilFunc,.func (.func 203) #[] #[],.func (.func 204) #[] #[],.func (.func 205) #[] #[],.func (.func 206) #[] #[],.func (.func 207) #[] #[]]
theorem ytG (b:Nat)(X:ByteArray)(ro so bo:Option Addr)(rn rc sn sc bn bc:Nat)(w:World)(hbw:b<w.heap.size)(Q:World->Prop)
    (HC:Hid (∀ W,Below w.heap.size w W->Calls Tryz.prog 203 #[.pointer (some ⟨b,0,none⟩),.agg #[.int .i64 1,.string X,.slice ro rn rc,.slice so sn sc,.slice bo bn bc]] W fun e w'=>e=.returned (.tuple #[])/\Q w'/\Fr b W w')) :
    Calls Tryz.prog 151 #[.pointer (some ⟨b,0,none⟩),.agg #[.int .i64 1,.string X,.slice ro rn rc,.slice so sn sc,.slice bo bn bc]] w fun e w'=>e=.returned (.tuple #[])/\Q w'/\Fr b w w':=by
 have hB:=al2 w (.cells #[.int .i64 1,.string X,.slice ro rn rc,.slice so sn sc,.slice bo bn bc] 67) (.cells yO 270);have hk1:((w.alloc (.cells #[.int .i64 1,.string X,.slice ro rn rc,.slice so sn sc,.slice bo bn bc] 67)).alloc (.cells yO 270)).heap[w.heap.size]?=_:=yah (heap_alloc_new w (.cells #[.int .i64 1,.string X,.slice ro rn rc,.slice so sn sc,.slice bo bn bc] 67)) (al1 ..);have hk2:=heap_alloc_new (w.alloc (.cells #[.int .i64 1,.string X,.slice ro rn rc,.slice so sn sc,.slice bo bn bc] 67)) (.cells yO 270);have hsz:(w.alloc (.cells #[.int .i64 1,.string X,.slice ro rn rc,.slice so sn sc,.slice bo bn bc] 67)).heap.size=w.heap.size+1:=by simp
 rw[hsz] at hk2;go_enter func151,ntmps151;go_wp2_with fail
 have hP0:((w.alloc (.cells #[.int .i64 1,.string X,.slice ro rn rc,.slice so sn sc,.slice bo bn bc] 67)).alloc (.cells yO 270)).cell? ⟨w.heap.size,0,none⟩=some (.int .i64 1)/\((w.alloc (.cells #[.int .i64 1,.string X,.slice ro rn rc,.slice so sn sc,.slice bo bn bc] 67)).alloc (.cells yO 270)).cell? ⟨w.heap.size,1,none⟩=some (.string X)/\((w.alloc (.cells #[.int .i64 1,.string X,.slice ro rn rc,.slice so sn sc,.slice bo bn bc] 67)).alloc (.cells yO 270)).cell? ⟨w.heap.size,2,none⟩=some (.slice ro rn rc)/\((w.alloc (.cells #[.int .i64 1,.string X,.slice ro rn rc,.slice so sn sc,.slice bo bn bc] 67)).alloc (.cells yO 270)).cell? ⟨w.heap.size,3,none⟩=some (.slice so sn sc)/\((w.alloc (.cells #[.int .i64 1,.string X,.slice ro rn rc,.slice so sn sc,.slice bo bn bc] 67)).alloc (.cells yO 270)).cell? ⟨w.heap.size,4,none⟩=some (.slice bo bn bc)/\((w.alloc (.cells #[.int .i64 1,.string X,.slice ro rn rc,.slice so sn sc,.slice bo bn bc] 67)).alloc (.cells yO 270)).cell? ⟨w.heap.size+1,1,none⟩=some (.func (.func 203) #[] #[]):=⟨by rw[Lib.cell_of_heap hk1];rfl,by rw[Lib.cell_of_heap hk1];rfl,by rw[Lib.cell_of_heap hk1];rfl,by rw[Lib.cell_of_heap hk1];rfl,by rw[Lib.cell_of_heap hk1];rfl,by rw[Lib.cell_of_heap hk2];rfl⟩
 show Code.wp _ _ _ _ ((w.alloc (.cells #[.int .i64 1,.string X,.slice ro rn rc,.slice so sn sc,.slice bo bn bc] 67)).alloc (.cells yO 270))
 generalize (w.alloc (.cells #[.int .i64 1,.string X,.slice ro rn rc,.slice so sn sc,.slice bo bn bc] 67)).alloc (.cells yO 270)=w2 at *;have hs2:=hB.size;have HB:=Lh hB;have HK1:=Lh hk1;have HK2:=Lh hk2;clear hsz hk1 hk2
 go_region_held3 (fun w'=>w'.cell? ⟨w.heap.size,0,none⟩=some (.int .i64 1)/\w'.cell? ⟨w.heap.size,1,none⟩=some (.string X)/\w'.cell? ⟨w.heap.size,2,none⟩=some (.slice ro rn rc)/\w'.cell? ⟨w.heap.size,3,none⟩=some (.slice so sn sc)/\w'.cell? ⟨w.heap.size,4,none⟩=some (.slice bo bn bc)/\w'.cell? ⟨w.heap.size+1,1,none⟩=some (.func (.func 203) #[] #[]))
  (first | assumption | (with_reducible refine s6_drew ?_;assumption))
  (first | (go_at_call 203;(with_reducible refine(HC.out _ (yat HB.out)).mono ?_);rintro e w8 ⟨rfl,hq,hf8⟩;have hS8:=ync hf8 HK1.out (by decide) (by omega) HK2.out (by decide) (by omega) hP0))
 all_goals
  have hfr:=(Fr.of HB.out (by omega)).trans ((Fr.refl b w2).drew.trans hf8);go_wp2
  go_end0
  exact⟨rfl,hq,hfr⟩
theorem ytH (b:Nat)(X:ByteArray)(ro so bo:Option Addr)(rn rc sn sc bn bc:Nat)(w:World)(hbw:b<w.heap.size)(Q:World->Prop)
    (HC:Hid (∀ W,Below w.heap.size w W->Calls Tryz.prog 204 #[.pointer (some ⟨b,0,none⟩),.agg #[.int .i64 2,.string X,.slice ro rn rc,.slice so sn sc,.slice bo bn bc]] W fun e w'=>e=.returned (.tuple #[])/\Q w'/\Fr b W w')) :
    Calls Tryz.prog 151 #[.pointer (some ⟨b,0,none⟩),.agg #[.int .i64 2,.string X,.slice ro rn rc,.slice so sn sc,.slice bo bn bc]] w fun e w'=>e=.returned (.tuple #[])/\Q w'/\Fr b w w':=by
 have hB:=al2 w (.cells #[.int .i64 2,.string X,.slice ro rn rc,.slice so sn sc,.slice bo bn bc] 67) (.cells yO 270);have hk1:((w.alloc (.cells #[.int .i64 2,.string X,.slice ro rn rc,.slice so sn sc,.slice bo bn bc] 67)).alloc (.cells yO 270)).heap[w.heap.size]?=_:=yah (heap_alloc_new w (.cells #[.int .i64 2,.string X,.slice ro rn rc,.slice so sn sc,.slice bo bn bc] 67)) (al1 ..);have hk2:=heap_alloc_new (w.alloc (.cells #[.int .i64 2,.string X,.slice ro rn rc,.slice so sn sc,.slice bo bn bc] 67)) (.cells yO 270);have hsz:(w.alloc (.cells #[.int .i64 2,.string X,.slice ro rn rc,.slice so sn sc,.slice bo bn bc] 67)).heap.size=w.heap.size+1:=by simp
 rw[hsz] at hk2;go_enter func151,ntmps151;go_wp2_with fail
 have hP0:((w.alloc (.cells #[.int .i64 2,.string X,.slice ro rn rc,.slice so sn sc,.slice bo bn bc] 67)).alloc (.cells yO 270)).cell? ⟨w.heap.size,0,none⟩=some (.int .i64 2)/\((w.alloc (.cells #[.int .i64 2,.string X,.slice ro rn rc,.slice so sn sc,.slice bo bn bc] 67)).alloc (.cells yO 270)).cell? ⟨w.heap.size,1,none⟩=some (.string X)/\((w.alloc (.cells #[.int .i64 2,.string X,.slice ro rn rc,.slice so sn sc,.slice bo bn bc] 67)).alloc (.cells yO 270)).cell? ⟨w.heap.size,2,none⟩=some (.slice ro rn rc)/\((w.alloc (.cells #[.int .i64 2,.string X,.slice ro rn rc,.slice so sn sc,.slice bo bn bc] 67)).alloc (.cells yO 270)).cell? ⟨w.heap.size,3,none⟩=some (.slice so sn sc)/\((w.alloc (.cells #[.int .i64 2,.string X,.slice ro rn rc,.slice so sn sc,.slice bo bn bc] 67)).alloc (.cells yO 270)).cell? ⟨w.heap.size,4,none⟩=some (.slice bo bn bc)/\((w.alloc (.cells #[.int .i64 2,.string X,.slice ro rn rc,.slice so sn sc,.slice bo bn bc] 67)).alloc (.cells yO 270)).cell? ⟨w.heap.size+1,2,none⟩=some (.func (.func 204) #[] #[]):=⟨by rw[Lib.cell_of_heap hk1];rfl,by rw[Lib.cell_of_heap hk1];rfl,by rw[Lib.cell_of_heap hk1];rfl,by rw[Lib.cell_of_heap hk1];rfl,by rw[Lib.cell_of_heap hk1];rfl,by rw[Lib.cell_of_heap hk2];rfl⟩
 show Code.wp _ _ _ _ ((w.alloc (.cells #[.int .i64 2,.string X,.slice ro rn rc,.slice so sn sc,.slice bo bn bc] 67)).alloc (.cells yO 270))
 generalize (w.alloc (.cells #[.int .i64 2,.string X,.slice ro rn rc,.slice so sn sc,.slice bo bn bc] 67)).alloc (.cells yO 270)=w2 at *;have hs2:=hB.size;have HB:=Lh hB;have HK1:=Lh hk1;have HK2:=Lh hk2;clear hsz hk1 hk2
 go_region_held3 (fun w'=>w'.cell? ⟨w.heap.size,0,none⟩=some (.int .i64 2)/\w'.cell? ⟨w.heap.size,1,none⟩=some (.string X)/\w'.cell? ⟨w.heap.size,2,none⟩=some (.slice ro rn rc)/\w'.cell? ⟨w.heap.size,3,none⟩=some (.slice so sn sc)/\w'.cell? ⟨w.heap.size,4,none⟩=some (.slice bo bn bc)/\w'.cell? ⟨w.heap.size+1,2,none⟩=some (.func (.func 204) #[] #[]))
  (first | assumption | (with_reducible refine s6_drew ?_;assumption))
  (first | (go_at_call 204;(with_reducible refine(HC.out _ (yat HB.out)).mono ?_);rintro e w8 ⟨rfl,hq,hf8⟩;have hS8:=ync hf8 HK1.out (by decide) (by omega) HK2.out (by decide) (by omega) hP0))
 all_goals
  have hfr:=(Fr.of HB.out (by omega)).trans ((Fr.refl b w2).drew.trans hf8);go_wp2
  go_end0
  exact⟨rfl,hq,hfr⟩
theorem ytI (b:Nat)(X:ByteArray)(ro so bo:Option Addr)(rn rc sn sc bn bc:Nat)(w:World)(hbw:b<w.heap.size)(Q:World->Prop)
    (HC:Hid (∀ W,Below w.heap.size w W->Calls Tryz.prog 205 #[.pointer (some ⟨b,0,none⟩),.agg #[.int .i64 3,.string X,.slice ro rn rc,.slice so sn sc,.slice bo bn bc]] W fun e w'=>e=.returned (.tuple #[])/\Q w'/\Fr b W w')) :
    Calls Tryz.prog 151 #[.pointer (some ⟨b,0,none⟩),.agg #[.int .i64 3,.string X,.slice ro rn rc,.slice so sn sc,.slice bo bn bc]] w fun e w'=>e=.returned (.tuple #[])/\Q w'/\Fr b w w':=by
 have hB:=al2 w (.cells #[.int .i64 3,.string X,.slice ro rn rc,.slice so sn sc,.slice bo bn bc] 67) (.cells yO 270);have hk1:((w.alloc (.cells #[.int .i64 3,.string X,.slice ro rn rc,.slice so sn sc,.slice bo bn bc] 67)).alloc (.cells yO 270)).heap[w.heap.size]?=_:=yah (heap_alloc_new w (.cells #[.int .i64 3,.string X,.slice ro rn rc,.slice so sn sc,.slice bo bn bc] 67)) (al1 ..);have hk2:=heap_alloc_new (w.alloc (.cells #[.int .i64 3,.string X,.slice ro rn rc,.slice so sn sc,.slice bo bn bc] 67)) (.cells yO 270);have hsz:(w.alloc (.cells #[.int .i64 3,.string X,.slice ro rn rc,.slice so sn sc,.slice bo bn bc] 67)).heap.size=w.heap.size+1:=by simp
 rw[hsz] at hk2;go_enter func151,ntmps151;go_wp2_with fail
 have hP0:((w.alloc (.cells #[.int .i64 3,.string X,.slice ro rn rc,.slice so sn sc,.slice bo bn bc] 67)).alloc (.cells yO 270)).cell? ⟨w.heap.size,0,none⟩=some (.int .i64 3)/\((w.alloc (.cells #[.int .i64 3,.string X,.slice ro rn rc,.slice so sn sc,.slice bo bn bc] 67)).alloc (.cells yO 270)).cell? ⟨w.heap.size,1,none⟩=some (.string X)/\((w.alloc (.cells #[.int .i64 3,.string X,.slice ro rn rc,.slice so sn sc,.slice bo bn bc] 67)).alloc (.cells yO 270)).cell? ⟨w.heap.size,2,none⟩=some (.slice ro rn rc)/\((w.alloc (.cells #[.int .i64 3,.string X,.slice ro rn rc,.slice so sn sc,.slice bo bn bc] 67)).alloc (.cells yO 270)).cell? ⟨w.heap.size,3,none⟩=some (.slice so sn sc)/\((w.alloc (.cells #[.int .i64 3,.string X,.slice ro rn rc,.slice so sn sc,.slice bo bn bc] 67)).alloc (.cells yO 270)).cell? ⟨w.heap.size,4,none⟩=some (.slice bo bn bc)/\((w.alloc (.cells #[.int .i64 3,.string X,.slice ro rn rc,.slice so sn sc,.slice bo bn bc] 67)).alloc (.cells yO 270)).cell? ⟨w.heap.size+1,3,none⟩=some (.func (.func 205) #[] #[]):=⟨by rw[Lib.cell_of_heap hk1];rfl,by rw[Lib.cell_of_heap hk1];rfl,by rw[Lib.cell_of_heap hk1];rfl,by rw[Lib.cell_of_heap hk1];rfl,by rw[Lib.cell_of_heap hk1];rfl,by rw[Lib.cell_of_heap hk2];rfl⟩
 show Code.wp _ _ _ _ ((w.alloc (.cells #[.int .i64 3,.string X,.slice ro rn rc,.slice so sn sc,.slice bo bn bc] 67)).alloc (.cells yO 270))
 generalize (w.alloc (.cells #[.int .i64 3,.string X,.slice ro rn rc,.slice so sn sc,.slice bo bn bc] 67)).alloc (.cells yO 270)=w2 at *;have hs2:=hB.size;have HB:=Lh hB;have HK1:=Lh hk1;have HK2:=Lh hk2;clear hsz hk1 hk2
 go_region_held3 (fun w'=>w'.cell? ⟨w.heap.size,0,none⟩=some (.int .i64 3)/\w'.cell? ⟨w.heap.size,1,none⟩=some (.string X)/\w'.cell? ⟨w.heap.size,2,none⟩=some (.slice ro rn rc)/\w'.cell? ⟨w.heap.size,3,none⟩=some (.slice so sn sc)/\w'.cell? ⟨w.heap.size,4,none⟩=some (.slice bo bn bc)/\w'.cell? ⟨w.heap.size+1,3,none⟩=some (.func (.func 205) #[] #[]))
  (first | assumption | (with_reducible refine s6_drew ?_;assumption))
  (first | (go_at_call 205;(with_reducible refine(HC.out _ (yat HB.out)).mono ?_);rintro e w8 ⟨rfl,hq,hf8⟩;have hS8:=ync hf8 HK1.out (by decide) (by omega) HK2.out (by decide) (by omega) hP0))
 all_goals
  have hfr:=(Fr.of HB.out (by omega)).trans ((Fr.refl b w2).drew.trans hf8);go_wp2
  go_end0
  exact⟨rfl,hq,hfr⟩
theorem ytJ (b:Nat)(X:ByteArray)(ro so bo:Option Addr)(rn rc sn sc bn bc:Nat)(w:World)(hbw:b<w.heap.size)(Q:World->Prop)
    (HC:Hid (∀ W,Below w.heap.size w W->Calls Tryz.prog 206 #[.pointer (some ⟨b,0,none⟩),.agg #[.int .i64 4,.string X,.slice ro rn rc,.slice so sn sc,.slice bo bn bc]] W fun e w'=>e=.returned (.tuple #[])/\Q w'/\Fr b W w')) :
    Calls Tryz.prog 151 #[.pointer (some ⟨b,0,none⟩),.agg #[.int .i64 4,.string X,.slice ro rn rc,.slice so sn sc,.slice bo bn bc]] w fun e w'=>e=.returned (.tuple #[])/\Q w'/\Fr b w w':=by
 have hB:=al2 w (.cells #[.int .i64 4,.string X,.slice ro rn rc,.slice so sn sc,.slice bo bn bc] 67) (.cells yO 270);have hk1:((w.alloc (.cells #[.int .i64 4,.string X,.slice ro rn rc,.slice so sn sc,.slice bo bn bc] 67)).alloc (.cells yO 270)).heap[w.heap.size]?=_:=yah (heap_alloc_new w (.cells #[.int .i64 4,.string X,.slice ro rn rc,.slice so sn sc,.slice bo bn bc] 67)) (al1 ..);have hk2:=heap_alloc_new (w.alloc (.cells #[.int .i64 4,.string X,.slice ro rn rc,.slice so sn sc,.slice bo bn bc] 67)) (.cells yO 270);have hsz:(w.alloc (.cells #[.int .i64 4,.string X,.slice ro rn rc,.slice so sn sc,.slice bo bn bc] 67)).heap.size=w.heap.size+1:=by simp
 rw[hsz] at hk2;go_enter func151,ntmps151;go_wp2_with fail
 have hP0:((w.alloc (.cells #[.int .i64 4,.string X,.slice ro rn rc,.slice so sn sc,.slice bo bn bc] 67)).alloc (.cells yO 270)).cell? ⟨w.heap.size,0,none⟩=some (.int .i64 4)/\((w.alloc (.cells #[.int .i64 4,.string X,.slice ro rn rc,.slice so sn sc,.slice bo bn bc] 67)).alloc (.cells yO 270)).cell? ⟨w.heap.size,1,none⟩=some (.string X)/\((w.alloc (.cells #[.int .i64 4,.string X,.slice ro rn rc,.slice so sn sc,.slice bo bn bc] 67)).alloc (.cells yO 270)).cell? ⟨w.heap.size,2,none⟩=some (.slice ro rn rc)/\((w.alloc (.cells #[.int .i64 4,.string X,.slice ro rn rc,.slice so sn sc,.slice bo bn bc] 67)).alloc (.cells yO 270)).cell? ⟨w.heap.size,3,none⟩=some (.slice so sn sc)/\((w.alloc (.cells #[.int .i64 4,.string X,.slice ro rn rc,.slice so sn sc,.slice bo bn bc] 67)).alloc (.cells yO 270)).cell? ⟨w.heap.size,4,none⟩=some (.slice bo bn bc)/\((w.alloc (.cells #[.int .i64 4,.string X,.slice ro rn rc,.slice so sn sc,.slice bo bn bc] 67)).alloc (.cells yO 270)).cell? ⟨w.heap.size+1,4,none⟩=some (.func (.func 206) #[] #[]):=⟨by rw[Lib.cell_of_heap hk1];rfl,by rw[Lib.cell_of_heap hk1];rfl,by rw[Lib.cell_of_heap hk1];rfl,by rw[Lib.cell_of_heap hk1];rfl,by rw[Lib.cell_of_heap hk1];rfl,by rw[Lib.cell_of_heap hk2];rfl⟩
 show Code.wp _ _ _ _ ((w.alloc (.cells #[.int .i64 4,.string X,.slice ro rn rc,.slice so sn sc,.slice bo bn bc] 67)).alloc (.cells yO 270))
 generalize (w.alloc (.cells #[.int .i64 4,.string X,.slice ro rn rc,.slice so sn sc,.slice bo bn bc] 67)).alloc (.cells yO 270)=w2 at *;have hs2:=hB.size;have HB:=Lh hB;have HK1:=Lh hk1;have HK2:=Lh hk2;clear hsz hk1 hk2
 go_region_held3 (fun w'=>w'.cell? ⟨w.heap.size,0,none⟩=some (.int .i64 4)/\w'.cell? ⟨w.heap.size,1,none⟩=some (.string X)/\w'.cell? ⟨w.heap.size,2,none⟩=some (.slice ro rn rc)/\w'.cell? ⟨w.heap.size,3,none⟩=some (.slice so sn sc)/\w'.cell? ⟨w.heap.size,4,none⟩=some (.slice bo bn bc)/\w'.cell? ⟨w.heap.size+1,4,none⟩=some (.func (.func 206) #[] #[]))
  (first | assumption | (with_reducible refine s6_drew ?_;assumption))
  (first | (go_at_call 206;(with_reducible refine(HC.out _ (yat HB.out)).mono ?_);rintro e w8 ⟨rfl,hq,hf8⟩;have hS8:=ync hf8 HK1.out (by decide) (by omega) HK2.out (by decide) (by omega) hP0))
 all_goals
  have hfr:=(Fr.of HB.out (by omega)).trans ((Fr.refl b w2).drew.trans hf8);go_wp2
  go_end0
  exact⟨rfl,hq,hfr⟩
theorem ytK (b:Nat)(X:ByteArray)(ro so bo:Option Addr)(rn rc sn sc bn bc:Nat)(w:World)(hbw:b<w.heap.size)(Q:World->Prop)
    (HC:Hid (∀ W,Below w.heap.size w W->Calls Tryz.prog 207 #[.pointer (some ⟨b,0,none⟩),.agg #[.int .i64 5,.string X,.slice ro rn rc,.slice so sn sc,.slice bo bn bc]] W fun e w'=>e=.returned (.tuple #[])/\Q w'/\Fr b W w')) :
    Calls Tryz.prog 151 #[.pointer (some ⟨b,0,none⟩),.agg #[.int .i64 5,.string X,.slice ro rn rc,.slice so sn sc,.slice bo bn bc]] w fun e w'=>e=.returned (.tuple #[])/\Q w'/\Fr b w w':=by
 have hB:=al2 w (.cells #[.int .i64 5,.string X,.slice ro rn rc,.slice so sn sc,.slice bo bn bc] 67) (.cells yO 270);have hk1:((w.alloc (.cells #[.int .i64 5,.string X,.slice ro rn rc,.slice so sn sc,.slice bo bn bc] 67)).alloc (.cells yO 270)).heap[w.heap.size]?=_:=yah (heap_alloc_new w (.cells #[.int .i64 5,.string X,.slice ro rn rc,.slice so sn sc,.slice bo bn bc] 67)) (al1 ..);have hk2:=heap_alloc_new (w.alloc (.cells #[.int .i64 5,.string X,.slice ro rn rc,.slice so sn sc,.slice bo bn bc] 67)) (.cells yO 270);have hsz:(w.alloc (.cells #[.int .i64 5,.string X,.slice ro rn rc,.slice so sn sc,.slice bo bn bc] 67)).heap.size=w.heap.size+1:=by simp
 rw[hsz] at hk2;go_enter func151,ntmps151;go_wp2_with fail
 have hP0:((w.alloc (.cells #[.int .i64 5,.string X,.slice ro rn rc,.slice so sn sc,.slice bo bn bc] 67)).alloc (.cells yO 270)).cell? ⟨w.heap.size,0,none⟩=some (.int .i64 5)/\((w.alloc (.cells #[.int .i64 5,.string X,.slice ro rn rc,.slice so sn sc,.slice bo bn bc] 67)).alloc (.cells yO 270)).cell? ⟨w.heap.size,1,none⟩=some (.string X)/\((w.alloc (.cells #[.int .i64 5,.string X,.slice ro rn rc,.slice so sn sc,.slice bo bn bc] 67)).alloc (.cells yO 270)).cell? ⟨w.heap.size,2,none⟩=some (.slice ro rn rc)/\((w.alloc (.cells #[.int .i64 5,.string X,.slice ro rn rc,.slice so sn sc,.slice bo bn bc] 67)).alloc (.cells yO 270)).cell? ⟨w.heap.size,3,none⟩=some (.slice so sn sc)/\((w.alloc (.cells #[.int .i64 5,.string X,.slice ro rn rc,.slice so sn sc,.slice bo bn bc] 67)).alloc (.cells yO 270)).cell? ⟨w.heap.size,4,none⟩=some (.slice bo bn bc)/\((w.alloc (.cells #[.int .i64 5,.string X,.slice ro rn rc,.slice so sn sc,.slice bo bn bc] 67)).alloc (.cells yO 270)).cell? ⟨w.heap.size+1,5,none⟩=some (.func (.func 207) #[] #[]):=⟨by rw[Lib.cell_of_heap hk1];rfl,by rw[Lib.cell_of_heap hk1];rfl,by rw[Lib.cell_of_heap hk1];rfl,by rw[Lib.cell_of_heap hk1];rfl,by rw[Lib.cell_of_heap hk1];rfl,by rw[Lib.cell_of_heap hk2];rfl⟩
 show Code.wp _ _ _ _ ((w.alloc (.cells #[.int .i64 5,.string X,.slice ro rn rc,.slice so sn sc,.slice bo bn bc] 67)).alloc (.cells yO 270))
 generalize (w.alloc (.cells #[.int .i64 5,.string X,.slice ro rn rc,.slice so sn sc,.slice bo bn bc] 67)).alloc (.cells yO 270)=w2 at *;have hs2:=hB.size;have HB:=Lh hB;have HK1:=Lh hk1;have HK2:=Lh hk2;clear hsz hk1 hk2
 go_region_held3 (fun w'=>w'.cell? ⟨w.heap.size,0,none⟩=some (.int .i64 5)/\w'.cell? ⟨w.heap.size,1,none⟩=some (.string X)/\w'.cell? ⟨w.heap.size,2,none⟩=some (.slice ro rn rc)/\w'.cell? ⟨w.heap.size,3,none⟩=some (.slice so sn sc)/\w'.cell? ⟨w.heap.size,4,none⟩=some (.slice bo bn bc)/\w'.cell? ⟨w.heap.size+1,5,none⟩=some (.func (.func 207) #[] #[]))
  (first | assumption | (with_reducible refine s6_drew ?_;assumption))
  (first | (go_at_call 207;(with_reducible refine(HC.out _ (yat HB.out)).mono ?_);rintro e w8 ⟨rfl,hq,hf8⟩;have hS8:=ync hf8 HK1.out (by decide) (by omega) HK2.out (by decide) (by omega) hP0))
 all_goals
  have hfr:=(Fr.of HB.out (by omega)).trans ((Fr.refl b w2).drew.trans hf8);go_wp2
  go_end0
  exact⟨rfl,hq,hfr⟩
end Go.Proofs.YtgmidodmmlmmeaaGreatDoor.prt
