/-
  Contracts and plain facts of the layers below; conditions as each theorem states them.
-/
import Derived.Test.YtgmidodmmlmmeaaGreatDoorMpa
import Derived.Deep.AppendLies
set_option maxHeartbeats 8000000
set_option maxRecDepth 100000
namespace Go.Proofs.YtgmidodmmlmmeaaGreatDoor.prt
open Go.RowKit Go.Sort lex tre _root_.Go.Proofs.Tryz
theorem yfu (s:ByteArray)(v:Value)(w:World)(hs:s.size<=20000)(hv:Hid (yas s.data.toList=v)) :
    Calls Tryz.prog 166 #[.string s] w fun e w'=>e=.returned v/\w=w':=by rw[<- hv.out];exact yaP s w (by omega)
theorem yim (s Q:ByteArray)(w:World)(hs:s.size<=32)(hp:Hid (s.data.toList.all yar=true))(hq:Hid (yiD prL s.data.toList=Q.data.toList)) :
    Calls Tryz.prog 254 #[.string s] w fun e w'=>e=.returned (.string Q)/\Below w.heap.size w w':=by
 have hm:s.size<=maxLen:=by unfold maxLen;omega
 have hr:=hq.out;unfold yiD at hr;obtain⟨n,hn⟩:∃ b,yK s.data.toList=b:=⟨_,rfl⟩
 have HN:=Lh hn;rw[hn] at hr;obtain⟨pn,pe,hpe⟩:∃ a b,prL s.data.toList=(a,b):=⟨_,_,rfl⟩
 have HP:Hid (yas s.data.toList=.tuple #[.int .i64 pn,.int .i64 pe]):=Lh (by rw[ybY,hpe]);rw[hpe] at hr;simp only at hr;clear hn hq hpe
 by_cases h0:pe=0
 ·subst h0
  have HE:Hid (s=Q):=Lh (ycm (by cases n <;> simpa using hr));clear hr hp;go_enter func254,ntmps254
  go_wp2_with (first | (go_at_call 166;refine(yfu _ _ _ (by omega) HP).mono ?_;rintro e w' ⟨rfl,rfl⟩))
  go_ret;exact⟨yay HE.out,Below.refl _ _⟩
 ·have b0:(pe==0)=false:=by rw[beq_eq_false_iff_ne];exact h0
  cases n
  ·rw[if_neg Bool.false_ne_true,if_neg h0] at hr
   have HQ:Hid (ykS s.data.toList=(yqi s.data.toList,0)):=Lh (by unfold ykS;rw[yp,if_neg (by omega),if_pos hp.out]);have HE:Hid (ba (yqi s.data.toList)=Q):=Lh (ycm (by rw[<- hr]));clear hr h0 hp;go_enter func254,ntmps254
   go_wp2_with (first | (go_at_call 166;refine(yfu _ _ _ (by omega) HP).mono ?_;rintro e w' ⟨rfl,rfl⟩) | (go_at_call 60;refine(yS _ _ _ hm HN).mono ?_;rintro e w2 ⟨rfl,hb2⟩) | (go_at_call 185;refine(ydB _ _ _ _ hm HQ).mono ?_;rintro e w3 ⟨rfl,hb3⟩))
   go_ret;exact⟨yay HE.out,ya hb3 hb2⟩
  ·rw[if_pos rfl] at hr
   have HE:Hid (s=Q):=Lh (ycm hr);clear hr h0 hp;go_enter func254,ntmps254
   go_wp2_with (first | (go_at_call 166;refine(yfu _ _ _ (by omega) HP).mono ?_;rintro e w' ⟨rfl,rfl⟩) | (go_at_call 60;refine(yS _ _ _ hm HN).mono ?_;rintro e w2 ⟨rfl,hb2⟩))
   go_ret;exact⟨yay HE.out,hb2⟩
theorem sjoin_row (C:List (List UInt8))(B:Nat)(v:Value)(sep Q:ByteArray)(w:World)(h:Hid (Nrow w B v C))(hN:C.length<=40)(hs0:1<=sep.size)(hs1:sep.size<=10)(hQ:Q.size<=100000)(hq:Hid (Lib.join C sep.data.toList=Q.data.toList)) :
    Calls Tryz.prog 242 #[v,.string sep] w fun e w'=>e=.returned (.string Q)/\Below w.heap.size w w':=by
 rcases h.out.2 with ⟨rfl,hz⟩ | ⟨g,cap,cur,rfl,hg,hc,hcap,hm,h3⟩
 ·obtain rfl:C=[]:=List.eq_nil_of_length_eq_zero hz
  have HE:Hid ((⟨#[]⟩:ByteArray)=Q):=Lh (ycm (by rw[<- hq.out];rfl));clear h hq hz hs0 hs1;go_enter func242,ntmps242;go_wp2;go_ret;exact⟨yay HE.out,Below.refl _ _⟩
 have hcl:=World.ownsRow.cells h.out (g:=g) rfl
 have hcells:∀ (j:Nat) x,(C.map bb)[j]?=some x->w.cell? ⟨g,0+j,none⟩=some (.string x):=by
  intro j x hx
  have hy:(nmC C)[j]?=some (.string x):=by
   unfold nmC;rw[List.getElem?_map] at hx |-
   cases e:C[j]? with
   | none=>rw[e] at hx;cases hx
   | some y=>rw[e] at hx;rw[<- Option.some.inj hx];rfl
  have:=hcl j (.string x) hy;rw[Nat.zero_add];rw[show ((⟨g,0,none⟩:Addr).add j)=⟨g,j,none⟩ by unfold Addr.add;split <;> simp_all] at this;exact this
 have hmap:(C.map bb).map (·.data.toList)=C:=by rw[List.map_map];exact(List.map_congr_left (fun x _=>rfl)).trans (List.map_id C)
 have hlen:(C.map bb).length=C.length:=List.length_map _;have hlt:g<w.heap.size:=(Array.getElem?_eq_some_iff.1 hc).1
 rcases Nat.lt_or_ge C.length 2 with h2 | h2
 ·rcases Nat.eq_zero_or_pos C.length with h0 | h0
  ·obtain rfl:C=[]:=List.eq_nil_of_length_eq_zero h0
   have HE:Hid ((⟨#[]⟩:ByteArray)=Q):=Lh (ycm (by rw[<- hq.out];rfl));clear h hq hs0 hs1 hcl hcells hmap hlen h3 hc hcap hm h2 h0;go_enter func242,ntmps242;go_wp2;go_ret;exact⟨yay HE.out,Below.refl _ _⟩
  ·obtain⟨x,rfl⟩:∃ x,C=[x]:=by
     match C,h0,h2 with
     | [x],_,_=>exact⟨x,rfl⟩
   obtain⟨X,hX⟩:∃ X,bb x=X:=⟨_,rfl⟩
   have c0:w.cell? ⟨g,0,none⟩=some (.string X):=hcells 0 X (by simp[hX]);have HE:Hid (X=Q):=Lh (ycm (by rw[<- hq.out,Lib.join_one,<- hX]));clear h hq hs0 hs1 hcl hcells hmap hlen h3 hc hcap hm h2 h0 hX;go_enter func242,ntmps242;go_wp2;go_ret;exact⟨yay HE.out,Below.refl _ _⟩
 ·have:=ykY g 0 cap (C.map bb) sep Q w (Lh hcells) hlt (by omega) (by omega) (by omega) hs0 hs1 hQ (Lh (by rw[hmap];exact hq.out))
  rwa [hlen] at this
theorem nmC_app (C:List (List UInt8))(x:List UInt8):nmC (C++[x])=nmC C++[.string (bb x)]:=by unfold nmC;rw[List.map_append];rfl
theorem yin {w w':World}{B:Nat}{v:Value}{C:List (List UInt8)}(h:Nrow w B v C)(hb:Below w.heap.size w w'):Nrow w' B v C:=own_keep h hb
theorem ypo {w:World}{B:Nat}{v:Value}{C:List (List UInt8)}(h:Nrow w B v C):Nrow w.drew B v C:=h
theorem yio {w:World}{B:Nat}{v:Value}{C:List (List UInt8)}(o:Obj)(h:Nrow w B v C):Nrow (w.alloc o) B v C:=World.ownsRow.alloc h o
theorem ykk:∃ i,Tryz.prog.info? 9=some i/\i.zero=some (.string ⟨#[]⟩)/\i.size=1/\i.bytes=16:=by
 have h:(Tryz.prog.info? 9).map (fun i=>(i.zero,i.size,i.bytes))=some (some (.string ⟨#[]⟩),1,16):=by kernel_rfl
 cases hq:Tryz.prog.info? 9 with
 | none=>rw[hq] at h;cases h
 | some i =>
  rw[hq] at h;simp only[Option.map_some,Option.some.injEq,Prod.mk.injEq] at h;exact⟨i,rfl,h.1,h.2.1,h.2.2⟩
theorem s2_drew {w:World}{k:Nat}{X Y:ByteArray}(h:w.cell? ⟨k,0,none⟩=some (.string X)/\w.cell? ⟨k,1,none⟩=some (.string Y)):w.drew.cell? ⟨k,0,none⟩=some (.string X)/\w.drew.cell? ⟨k,1,none⟩=some (.string Y):=h
theorem ymQ {w w':World}{k:Nat}{X Y:ByteArray}(h:w.cell? ⟨k,0,none⟩=some (.string X)/\w.cell? ⟨k,1,none⟩=some (.string Y))(hb:Below w.heap.size w w'):w'.cell? ⟨k,0,none⟩=some (.string X)/\w'.cell? ⟨k,1,none⟩=some (.string Y):=⟨ye hb h.1,ye hb h.2⟩
theorem yhk {w:World}{o:Obj}{k:Nat}{X Y:ByteArray}(h:w.cell? ⟨k,0,none⟩=some (.string X)/\w.cell? ⟨k,1,none⟩=some (.string Y)):(w.alloc o).cell? ⟨k,0,none⟩=some (.string X)/\(w.alloc o).cell? ⟨k,1,none⟩=some (.string Y):=ymQ h (al1 ..)
theorem ykl (l:List Pr)(v:Value)(Q:ByteArray)(w:World)(h:Hid (Prs w v l))(hl:l.length<=40)(ho:Hid (yfs l))(hq:Hid (91::(ylb l++[93])=Q.data.toList)) :
    Calls Tryz.prog 253 #[v] w fun e w'=>e=.returned (.string Q)/\Below w.heap.size w w':=by
 have hmx:Tryz.prog.follows .mixedOrders=true:=by kernel_rfl
 obtain⟨i0,hi0,hz0,hz1,hz2⟩:=ykk;obtain⟨ao,cap,rfl,-,-,-⟩:=id h.out;go_enter func253,ntmps253;go_wp2_with fail
 go_loopw [3,8] (fun u i wr=>∃ (k:Nat) (ro:Option Addr) (rn rc:Nat),k<=l.length/\i=.int .i64 k/\u=.slice ro rn rc/\Nrow wr w.heap.size (.slice ro rn rc) ((l.take k).map (yik prL))/\Below w.heap.size w wr) (fun _ i _=>l.length-(intOf i).toNat)
 case atStart=>exact⟨0,none,0,0,Nat.zero_le _,rfl,rfl,World.ownsRow_nil _ _ _ _,Below.refl _ _⟩
 case round =>
  obtain⟨k,ro,rn,rc,hk,rfl,rfl,hrow,hB⟩:=hrel
  rename World=>wr
  have HR:=Lh hrow;have hsw:=hB.size;clear hrow
  by_cases hlt:k<l.length
  ·obtain⟨A,rfl,p0,p1,z2,z3⟩:=(h.out.keep hB).get hlt
   have hat:=ho.out _ (List.getElem_mem hlt);have HTK:=Lh (ydT hlt);obtain⟨C,hC⟩:∃ C,(l.take k).map (yik prL)=C:=⟨_,rfl⟩
   have hCl:C.length=k:=by rw[<- hC,List.length_map,List.length_take];omega
   have HCE:=Lh hC;rw[hC] at HR;obtain⟨x,hx⟩:∃ x,l[k]=x:=⟨_,rfl⟩
   rw[hx] at p0 p1 z2 z3 hat HTK;clear hx hC;have s16:=ydi hat.1;obtain⟨X,hX⟩:∃ Y,bb x.1=Y:=⟨_,rfl⟩
   obtain⟨Y,hY⟩:∃ Y,bb x.2=Y:=⟨_,rfl⟩
   obtain⟨V,hV⟩:∃ V,bb (yiD prL x.2)=V:=⟨_,rfl⟩
   have d1:X.data.toList=x.1:=by rw[<- hX]
   have d2:Y.data.toList=x.2:=by rw[<- hY]
   have d3:V.data.toList=yiD prL x.2:=by rw[<- hV]
   have s1:X.size<=16:=by rw[<- yz,d1];exact s16
   have s2:Y.size<=32:=by rw[<- yz,d2];exact hat.2.1
   have s3:V.size<=66:=by rw[<- yz,d3];exact yhi hat.2.1
   rw[hX] at p0;rw[hY] at p1;have HP:Hid (Y.data.toList.all yar=true):=Lh (by rw[d2];exact hat.2.2);have HV:Hid (yiD prL Y.data.toList=V.data.toList):=Lh (by rw[d2,d3]);have HA:Hid (bb (yik prL x)=X++⟨#[61]⟩++V):=Lh (ycm (by simp[d1,d3,yik]));have HN:Hid ((l.take (k+1)).map (yik prL)=C++[yik prL x]):=Lh (by rw[HTK.out,List.map_append,HCE.out];rfl);have z0:(0:Int)<=(k:Int):=by omega
   have z1:(k:Int)<(l.length:Int):=by omega
   clear hat s16 hX hY hV d1 d2 d3 z2 z3 HTK HCE;obtain⟨v0,v1⟩:=ydg wr X Y 69;have hB1:=ya (al1 wr (.cells #[.string X,.string Y] 69)) hB;have HO1:=Lh (yio (.cells #[.string X,.string Y] 69) HR.out);have hb1:=heap_alloc_new wr (.cells #[.string X,.string Y] 69);have hfa:(Value.slice ro rn rc).ownBlock≠some wr.heap.size:=Lib.ownBlock_ne HO1.out hb1 (by decide);have hklt:wr.heap.size<(wr.alloc (.cells #[.string X,.string Y] 69)).heap.size:=by simp
   have HFA:=Lh hfa;clear hB hb1 HR hfa;go_wp2_with fail
   generalize wr.alloc (.cells #[.string X,.string Y] 69)=w1 at *;have g1:¬ (9223372036854775807<X.size+1):=by omega
   have g2:¬ (9223372036854775807<X.size+1+V.size):=by omega
   have hP0:w1.cell? ⟨wr.heap.size,0,none⟩=some (.string X)/\w1.cell? ⟨wr.heap.size,1,none⟩=some (.string Y):=⟨v0,v1⟩;clear p0 p1 v0 v1
   go_region_held3 (fun w'=>w'.cell? ⟨wr.heap.size,0,none⟩=some (.string X)/\w'.cell? ⟨wr.heap.size,1,none⟩=some (.string Y))
    (first | assumption | (with_reducible refine s2_drew ?_;assumption) | (with_reducible refine yhk ?_;assumption))
    (first
    | (go_at_call 254;(with_reducible refine(yim Y V _ s2 HP HV).mono ?_);rintro e w6 ⟨rfl,hb6⟩;have hS6:=ymQ (by assumption) hb6;have hb16:Below w1.heap.size w1 w6:=ya hb6 (by repeat (first | (with_reducible exact Below.refl _ _) | (with_reducible refine yat ?_)));have HO6:=Lh (yin HO1.out hb16);have hs16:=hb16.size)
    | (refine step_append_lies _ (by rfl) _ _ _ (by rfl) w.heap.size 9 i0 _ 1 16 underlying50 hi0 hz0 hz1 hz2 rfl (by omega) (.slice ro rn rc) C.length (nmC C) (by rfl) (by exact World.ownsRow.alloc HO6.out _) ⟨w6.heap.size,0,none⟩ 1 1 [.string (X++⟨#[61]⟩++V)] (by rfl) (by rfl) (by exact World.news_of_block (cs:=#[.string (X++⟨#[61]⟩++V)]) (t:=9) (fr:=(0,0)) (heap_alloc_new _ _)) (by simp[Value.oneCell']) (by omega) (by unfold maxLen;omega) (by omega) (by simp;omega) (w6.heap.size+1) (by simp) ?_;intro gg cap7 w7 hown7 hgrow hat hlt7;have hS7:w7.cell? ⟨wr.heap.size,0,none⟩=some (.string X)/\w7.cell? ⟨wr.heap.size,1,none⟩=some (.string Y):=⟨(by rw[hgrow.cell_far _ (by simp;omega) (Ne.symm HFA.out)];exact(yhk hS6).1),(by rw[hgrow.cell_far _ (by simp;omega) (Ne.symm HFA.out)];exact(yhk hS6).2)⟩))
   all_goals
    have hB7:=(ya (al1 ..) (ya hb16 hB1)).grown hgrow (by simp;omega) (fun q hq=>(World.ownsRow.lt HO6.out q hq).1)
    have hrow7:Nrow w7 w.heap.size (.slice (some ⟨gg,0,none⟩) (C.length+1) cap7) ((l.take (k+1)).map (yik prL)):=by
     unfold Nrow;rw[HN.out,nmC_app,List.length_append,HA.out];exact hown7
    rw[hCl] at hrow7;have HR7:=Lh hrow7;clear hgrow hat hlt7 hown7 hrow7 g1 g2;go_wp2
    go_roundw
    case rel=>exact⟨k+1,_,_,_,by omega,by go_num,rfl,HR7.out,hB7⟩
    case measure=>simp[intOf];omega
  ·obtain rfl:k=l.length:=by omega
   obtain⟨J,hJ⟩:∃ J,bb (ylb l)=J:=⟨_,rfl⟩
   have HJ:Hid (Lib.join (l.map (yik prL)) (⟨#[44,32]⟩:ByteArray).data.toList=J.data.toList):=Lh (by rw[<- hJ];rfl);have hJs:J.size<=4000:=by rw[<- yz,<- hJ];have:=ykj ho.out;simp only;omega
   have HE:Hid (⟨#[91]⟩++J++⟨#[93]⟩=Q):=Lh (ycm (by rw[<- hq.out,<- hJ];simp));have HRR:Hid (Nrow wr w.heap.size (.slice ro rn rc) (l.map (yik prL))):=Lh (by have:=HR.out;rwa [List.take_length] at this);have hml:(l.map (yik prL)).length<=40:=by rw[List.length_map];exact hl
   clear hJ hq HR
   go_wp2_with (go_at_call 242;refine(sjoin_row (l.map (yik prL)) w.heap.size _ ⟨#[44,32]⟩ J _ HRR hml (by decide) (by decide) (by omega) HJ).mono ?_;rintro e w2 ⟨rfl,hb2⟩)
   go_ret;exact⟨yay HE.out,ya hb2 hB⟩
theorem yr3 (l:List Pr):(91::(ylb l++[93]))=if l.isEmpty then [91,93] else ymF prL l:=by
 cases l with
 | nil=>rfl
 | cons a t=>rw[if_neg (by simp),yft (by simp)]
theorem ygp (l:List Pr)(v:Value)(Q:ByteArray)(w:World)(h:Hid (Prs w v l))(hl:l.length<=40)(ho:Hid (yfs l))(hq:Hid (aft prL l=Q.data.toList)) :
    Calls Tryz.prog 251 #[v] w fun e w'=>e=.returned (.string Q)/\Below w.heap.size w w':=by
 obtain⟨ao,cap,rfl,-,-,-⟩:=id h.out;have hr:=hq.out;unfold aft at hr
 rcases Nat.eq_zero_or_pos l.length with h0 | h0
 ·obtain rfl:l=[]:=List.length_eq_zero_iff.1 h0
  have HE:Hid ((⟨#[]⟩:ByteArray)=Q):=Lh (ycm (by rw[<- hr];rfl));clear h hl ho hq h0 hr;go_enter func251,ntmps251;go_wp2;go_ret;exact⟨yay HE.out,Below.refl _ _⟩
 ·have hne:l≠[]:=by intro e;rw[e] at h0;simp at h0
  rw[if_neg (by cases l <;> simp at h0 |-)] at hr;obtain⟨L,hL⟩:∃ L,bb (ymF prL l)=L:=⟨_,rfl⟩
  have HL:Hid (91::(ylb l++[93])=L.data.toList):=Lh (by rw[<- yft hne,<- hL]);have hls:L.size<=4000:=by rw[<- yz,<- hL];have:=yev ho.out;simp only;omega
  have HE:Hid ((⟨#[32]⟩:ByteArray)++L=Q):=Lh (ycm (by rw[<- hr,ys8,<- hL];rfl));have b0:((l.length:Int)==0)=false:=by rw[beq_eq_false_iff_ne];omega
  clear hL hq h0 hr hne;go_enter func251,ntmps251
  go_wp2_with (go_at_call 253;refine(ykl l _ L _ h hl ho HL).mono ?_;rintro e w1 ⟨rfl,hb1⟩)
  go_ret;exact⟨yay HE.out,hb1⟩
theorem yhl (X Y:ByteArray)(w:World)(hx:X.size<=16)(hy:Y.size<=16)(Q:ByteArray)(hq:Hid (X.data.toList++ymG Y.data.toList=Q.data.toList)) :
    Calls Tryz.prog 252 #[.agg #[.string X,.string Y]] w fun e w'=>e=.returned (.string Q)/\Below w.heap.size w w':=by
 obtain⟨v0,v1⟩:=ydg w X Y 121;have hB:=al1 w (.cells #[.string X,.string Y] 121);obtain⟨pe,hpe⟩:∃ e,Y.toList.isEmpty=e:=⟨_,rfl⟩
 have hr:=hq.out;cases pe
 ·have b1:(Y.toList==[])=false:=by cases h:Y.toList <;> simp_all
  rw[ymN.2 hpe] at hr;have HE:Hid (X++⟨#[58]⟩++Y=Q):=Lh (ycm (by rw[<- hr];simp));clear hr hq hpe;go_enter func252,ntmps252;go_wp2;go_ret;exact⟨yay HE.out,hB⟩
 ·have b1:(Y.toList==[])=true:=by cases h:Y.toList <;> simp_all
  rw[ymN.1 hpe] at hr;have HE:Hid (X=Q):=Lh (ycm (by rw[<- hr];simp));clear hr hq hpe;go_enter func252,ntmps252;go_wp2;go_ret;exact⟨yay HE.out,hB⟩
theorem ydI {w:World}{b:Nat}{acc:List UInt8}{lev:Int}{arr:ByteArray}(h:Wr w b acc lev arr):w.cell? ⟨b,2,none⟩=some (.int .i64 lev)/\w.cell? ⟨b,3,none⟩=some (.string arr)/\w.frozen? ⟨b,2,none⟩=false:=by
 rcases h with ⟨v,hb,_⟩ | ⟨v,hb,_⟩
 ·exact⟨by rw[Lib.cell_of_heap hb];rfl,by rw[Lib.cell_of_heap hb];rfl,Lib.frozen_of_heap hb 2⟩
 ·exact⟨by rw[Lib.cell_of_heap hb];rfl,by rw[Lib.cell_of_heap hb];rfl,Lib.frozen_of_heap hb 2⟩
theorem yqI {w:World}{b:Nat}{acc:List UInt8}{lev:Int}{arr:ByteArray}(h:Wr w b acc lev arr)(x:Int):Wr (w.setCell ⟨b,2,none⟩ (.int .i64 x)) b acc x arr:=by
 rcases h with ⟨v,hb,hv⟩ | ⟨v,hb,hv⟩
 ·obtain⟨h1,h2⟩:=ygo ycL.ne hb hv 2 (.int .i64 x)
  exact Or.inl ⟨v,by rw[h1];simp,h2⟩
 ·obtain⟨h1,h2⟩:=ygo ycL.ne hb hv 2 (.int .i64 x)
  exact Or.inr ⟨v,by rw[h1];simp,h2⟩
theorem ybF {b k i:Nat}{w w':World}{c:Array Value}{t:TypeId}{fz:Nat × Nat}{v:Value}(h:Fr b w w')(hk:w.heap[k]?=some (.cells c t fz))(ht:t≠5)(hb:k≠b)(hc:w.cell? ⟨k,i,none⟩=some v):w'.cell? ⟨k,i,none⟩=some v:=by
 have h2:=h.heap hk ht hb;rw[Lib.cell_of_heap hk] at hc;rw[Lib.cell_of_heap h2];exact hc
def yaA (ps:List ByteArray):List UInt8:=ps.flatMap (·.data.toList)
def strV (ps:List ByteArray):Array Value:=(ps.map Value.string).toArray
theorem yd0 (w:World)(ps:List ByteArray)(cs:Array Value)(h:cs=strV ps):(w.alloc (.cells cs 9)).heap[w.heap.size]?=some (.cells (strV ps) 9 (0,0)):=by rw[h];exact heap_alloc_new w _
theorem ygs {ps:List ByteArray}{k:Nat}(h:k<ps.length):yaA (ps.take (k+1))=yaA (ps.take k)++ps[k].data.toList:=by
 unfold yaA;rw[List.take_add_one,List.getElem?_eq_getElem h,List.flatMap_append];simp
theorem ypI (ps:List ByteArray)(k:Nat):(yaA (ps.take k)).length<=(yaA ps).length:=by
 have h:yaA ps=yaA (ps.take k)++yaA (ps.drop k):=by unfold yaA;rw[<- List.flatMap_append,List.take_append_drop]
 rw[h,List.length_append];omega
theorem rep4 (k:Nat):List.replicate (4*(k+1)) (32:UInt8)=List.replicate (4*k) 32++[32,32,32,32]:=by
 rw[show 4*(k+1)=4*k+4 by omega,<- List.replicate_append_replicate];rfl
theorem ycY (b:Nat)(acc:List UInt8)(lev:Nat)(arr:ByteArray)(g n:Nat)(ps:List ByteArray)(w:World)(HW:Hid (Wr w b acc lev arr))(HG:Hid (w.heap[g]?=some (.cells (strV ps) 9 (0,0))))(hgb:g≠b)(hn:ps.length=n)(hn2:n<=10)
    (hl:acc.length+4*lev+(yaA ps).length+1<=1000000) :
    Calls Tryz.prog 150 #[.pointer (some ⟨b,0,none⟩),.slice (some ⟨g,0,none⟩) n n] w fun e w'=>e=.returned (.tuple #[])/\Wr w' b (acc++(List.replicate (4*lev) 32++(yaA ps++[10]))) lev arr/\Fr b w w':=by
 obtain⟨c2,-,-⟩:=ydI HW.out;have HN:=Lh hn;have hlev:(lev:Int)<=1000000:=by omega
 clear hn;go_enter func150,ntmps150;go_wp2_with fail
 go_loopw [10] (fun i wr=>∃ k:Nat,k<=lev/\i=.int .i64 k/\Hid (Wr wr b (acc++List.replicate (4*k) 32) lev arr)/\Hid (Fr b w wr)) (fun i _=>lev-(intOf i).toNat)
 case atStart=>exact⟨0,Nat.zero_le _,rfl,Lh (by simpa using HW.out),Lh (Fr.refl _ _)⟩
 case round =>
  obtain⟨k,hk,rfl,HB,HF⟩:=hrel
  rename World=>wr
  clear c2
  by_cases hlt:k<lev
  ·have HR:=Lh (rep4 k)
   have hz:(acc++List.replicate (4*k) 32).length+(⟨#[32,32,32,32]⟩:ByteArray).size<=2199023255552:=by
    rw[List.length_append,List.length_replicate];show acc.length+4*k+4<=_;omega
   go_wp2_with fail
   refine(yfr ycL b _ ⟨#[32,32,32,32]⟩ wr HB hz).mono ?_;rintro e w1 ⟨rfl,h1,hf1⟩;have H1:Hid (Wr w1 b (acc++List.replicate (4*(k+1)) 32) lev arr):=Lh (by rw[HR.out,<- List.append_assoc];exact h1);have HF1:=Lh (HF.out.trans hf1);clear h1 hf1 hz;go_wp2
   go_roundw
   case rel=>exact⟨k+1,by omega,by go_num,H1,HF1⟩
   case measure=>simp[intOf];omega
  ·obtain rfl:k=lev:=by omega
   have hlen:=hl;go_wp2_with fail
   go_loopw [19] (fun i wq=>∃ j:Nat,j<=n/\i=.int .i64 j/\Hid (Wr wq b (acc++List.replicate (4*k) 32++yaA (ps.take j)) k arr)/\Hid (Fr b w wq)) (fun i _=>n-(intOf i).toNat)
   case atStart=>exact⟨0,Nat.zero_le _,rfl,Lh (by simpa [yaA] using HB.out),HF⟩
   case round =>
    obtain⟨j,hj,rfl,HBq,HFq⟩:=hrel
    rename World=>wq
    by_cases hlt2:j<n
    ·have hjp:j<ps.length:=by rw[HN.out];exact hlt2
     have hcj:wq.cell? ⟨g,j,none⟩=some (.string ps[j]):=by
      rw[Lib.cell_of_heap (HFq.out.heap HG.out (by decide) hgb)];unfold strV;rw[List.getElem?_toArray,List.getElem?_map,List.getElem?_eq_getElem hjp];rfl
     have HT:=Lh (ygs hjp);have hle:=ypI ps (j+1);rw[ygs hjp,List.length_append] at hle;obtain⟨p,hp⟩:∃ p,ps[j]=p:=⟨_,rfl⟩
     rw[hp] at hcj HT hle;rw[yz] at hle
     have hz:(acc++List.replicate (4*k) 32++yaA (ps.take j)).length+p.size<=2199023255552:=by
      rw[List.length_append,List.length_append,List.length_replicate];omega
     have z0:(0:Int)<=(j:Int):=by omega
     have z1:(j:Int)<(n:Int):=by omega
     clear hp hle hjp;go_wp2_with fail
     refine(yfr ycL b _ p wq HBq hz).mono ?_;rintro e w1 ⟨rfl,h1,hf1⟩;have H1:Hid (Wr w1 b (acc++List.replicate (4*k) 32++yaA (ps.take (j+1))) k arr):=Lh (by rw[HT.out,<- List.append_assoc];exact h1);have HF1:=Lh (HFq.out.trans hf1);clear h1 hf1 hz hcj;go_wp2
     go_roundw
     case rel=>exact⟨j+1,by omega,by go_num,H1,HF1⟩
     case measure=>simp[intOf];omega
    ·obtain rfl:j=n:=by omega
     have HALL:Hid (ps.take j=ps):=Lh (List.take_of_length_le (by rw[HN.out];exact Nat.le_refl _))
     have hz:(acc++List.replicate (4*k) 32++yaA (ps.take j)).length<=2199023255552:=by
      rw[HALL.out,List.length_append,List.length_append,List.length_replicate];omega
     go_wp2_with fail
     refine(ypj ycL b _ 10 10 wq HBq hz (Lh rfl)).mono ?_;rintro e w1 ⟨rfl,h1,hf1⟩
     have H1:Hid (Wr w1 b (acc++(List.replicate (4*k) 32++(yaA ps++[10]))) k arr):=Lh (by
      have:=h1;rw[HALL.out] at this
      simpa [List.append_assoc] using this)
     have HF1:=Lh (HFq.out.trans hf1);clear h1 hf1 hz;go_wp2
     go_end0
     exact⟨rfl,H1.out,HF1.out⟩
theorem c2_drew {w:World}{k i j:Nat}{x y:Value}(h:w.cell? ⟨k,i,none⟩=some x/\w.cell? ⟨k,j,none⟩=some y):w.drew.cell? ⟨k,i,none⟩=some x/\w.drew.cell? ⟨k,j,none⟩=some y:=h
theorem yi7 {w w':World}{k i j:Nat}{x y:Value}(h:w.cell? ⟨k,i,none⟩=some x/\w.cell? ⟨k,j,none⟩=some y)(hb:Below w.heap.size w w'):w'.cell? ⟨k,i,none⟩=some x/\w'.cell? ⟨k,j,none⟩=some y:=⟨ye hb h.1,ye hb h.2⟩
theorem yex {w:World}{o:Obj}{k i j:Nat}{x y:Value}(h:w.cell? ⟨k,i,none⟩=some x/\w.cell? ⟨k,j,none⟩=some y):(w.alloc o).cell? ⟨k,i,none⟩=some x/\(w.alloc o).cell? ⟨k,j,none⟩=some y:=yi7 h (al1 ..)
theorem ytC {b k i j:Nat}{w w':World}{c:Array Value}{t:TypeId}{x y:Value}(f:Fr b w w')(hk:w.heap[k]?=some (.cells c t (0,0)))(ht:t≠5)(hb:k≠b)(h:w.cell? ⟨k,i,none⟩=some x/\w.cell? ⟨k,j,none⟩=some y):w'.cell? ⟨k,i,none⟩=some x/\w'.cell? ⟨k,j,none⟩=some y :=
 ⟨ybF f hk ht hb h.1,ybF f hk ht hb h.2⟩
theorem yah {w w':World}{k:Nat}{o:Obj}(h:w.heap[k]?=some o)(hb:Below w.heap.size w w'):w'.heap[k]?=some o:=by
 rw[hb.block k (Array.getElem?_eq_some_iff.1 h).1];exact h
theorem ypJ (b:Nat)(acc:List UInt8)(lev:Nat)(arr:ByteArray)(kd:Int)(X A:ByteArray)(a:List Pr)(ro so bo:Option Addr)(rn rc sn sc bn bc:Nat)(w:World)(HW:Hid (Wr w b acc lev arr))(hX:X.size<=16)(HP:Hid (Prs w (.slice so sn sc) a))(ha:a.length<=40)(HO:Hid (yfs a))(HA:Hid (aft prL a=A.data.toList))
    (hl:acc.length+4*lev+5000<=1000000) :
    Calls Tryz.prog 203 #[.pointer (some ⟨b,0,none⟩),.agg #[.int .i64 kd,.string X,.slice ro rn rc,.slice so sn sc,.slice bo bn bc]] w fun e w'=>e=.returned (.tuple #[])/\Wr w' b (acc++(List.replicate (4*lev) 32++(X.data.toList++(A.data.toList++[59,10])))) lev arr/\Fr b w w':=by
 have hB:=al1 w (.cells #[.int .i64 kd,.string X,.slice ro rn rc,.slice so sn sc,.slice bo bn bc] 67);have hk:=heap_alloc_new w (.cells #[.int .i64 kd,.string X,.slice ro rn rc,.slice so sn sc,.slice bo bn bc] 67);obtain⟨-,c1,-,c3,-⟩:=ycj w kd X (.slice ro rn rc) (.slice so sn sc) (.slice bo bn bc) 67;have hbw:=HW.out.lt;have hAs:A.size<=3500:=by rw[<- yz,<- HA.out];have:=yhj HO.out;omega
 go_enter func203,ntmps203;go_wp2_with fail
 generalize w.alloc (.cells #[.int .i64 kd,.string X,.slice ro rn rc,.slice so sn sc,.slice bo bn bc] 67)=w1 at *;have HW1:=Lh (HW.out.keep hB);have HP1:=Lh (HP.out.keep hB);have HF1:=Lh (Fr.of hB (by omega):Fr b w w1);have HK:=Lh hk;have hsz:=hB.size;have hne:w.heap.size≠b:=by omega
 have hP0:w1.cell? ⟨w.heap.size,1,none⟩=some (.string X)/\w1.cell? ⟨w.heap.size,3,none⟩=some (.slice so sn sc):=⟨c1,c3⟩;clear c1 c3 hk HW HP
 go_region_held3 (fun w'=>w'.cell? ⟨w.heap.size,1,none⟩=some (.string X)/\w'.cell? ⟨w.heap.size,3,none⟩=some (.slice so sn sc))
  (first | assumption | (with_reducible refine c2_drew ?_;assumption) | (with_reducible refine yex ?_;assumption))
  (first
  | (go_at_call 251;(with_reducible refine(ygp a _ A _ (Lh (HP1.out.keep (by repeat (first | (with_reducible exact Below.refl _ _) | (with_reducible refine yat ?_))))) ha HO HA).mono ?_);rintro e w6 ⟨rfl,hb6⟩;have hS6:=yi7 (by assumption) hb6;have hb16:Below w1.heap.size w1 w6:=ya hb6 (by repeat (first | (with_reducible exact Below.refl _ _) | (with_reducible refine yat ?_)));have HW6:=Lh (HW1.out.keep hb16);have HK6:=Lh (yah HK.out hb16);have hs16:=hb16.size)
  | (go_at_call 150;(with_reducible refine(ycY b acc lev arr w6.heap.size 3 [X,A,⟨#[59]⟩] _ (Lh (HW6.out.alloc _)) (Lh (yd0 w6 [X,A,⟨#[59]⟩] #[.string X,.string A,.string ⟨#[59]⟩] rfl)) (by omega) rfl (by decide) (by simp[yaA];omega)).mono ?_);rintro e w8 ⟨rfl,h8,hf8⟩;have hS8:=ytC hf8 (yah HK6.out (al1 ..)) (by decide) hne (yex hS6)))
 all_goals
  have hfr:=(HF1.out.trans (Fr.of hb16 (by omega))).trans (((Fr.refl b w6).alloc (by omega) _).trans hf8);have hfin:Wr w8 b (acc++(List.replicate (4*lev) 32++(X.data.toList++(A.data.toList++[59,10])))) lev arr:=by simpa [yaA] using h8
  go_wp2
  go_end0
  exact⟨rfl,hfin,hfr⟩
end Go.Proofs.YtgmidodmmlmmeaaGreatDoor.prt
