/-
  Contracts and plain facts of the layers below; conditions as each theorem states them.
-/
import Derived.Lib.SmallJoins
import Derived.StillTailTactics
import Derived.Deep.RegionHeld3
import Derived.Deep.DeepCutAuto
import Derived.Deep.CutBlock
import Derived.Test.YtgmidodmmlmmeaaGreatDoorMab
set_option maxHeartbeats 8000000
namespace Go.Proofs.YtgmidodmmlmmeaaGreatDoor
open Go.RowKit
theorem yaf {a b:Bool}(h:a=b):Ending.returned (.bool a)=.returned (.bool b):=by rw[h]
theorem ycD {a b:Int}(h:a=b):Ending.returned (.int .i64 a)=.returned (.int .i64 b):=by rw[h]
theorem ya {W w1 w2:World}(h2:Below w1.heap.size w1 w2)(h1:Below W.heap.size W w1):Below W.heap.size W w2:=h1.trans (h2.mono h1.size)
theorem ye {w1 w2:World}{b o:Nat}{v:Value}(h2:Below w1.heap.size w1 w2)(h1:w1.cell? ⟨b,o,none⟩=some v):w2.cell? ⟨b,o,none⟩=some v:=by
 rw[h2.cell (p:=⟨b,o,none⟩) (World.block_lt_of_cell? w1 _ h1)];exact h1
theorem al1 (w:World)(a:Obj):Below w.heap.size w (w.alloc a):=(Below.refl _ _).alloc (Nat.le_refl _) _
theorem al2 (w:World)(a b:Obj):Below w.heap.size w ((w.alloc a).alloc b):=(al1 w a).alloc (by simp) _
theorem al3 (w:World)(a b c:Obj):Below w.heap.size w (((w.alloc a).alloc b).alloc c):=(al2 w a b).alloc (by simp;omega) _
theorem yqX {w1 w2:World}{b o:Nat}{v:Value}(h2:Below w1.heap.size w1 w2)(h1:w1.cell? ⟨b,o,none⟩=some v)(h:w1.frozen? ⟨b,o,none⟩=false):w2.frozen? ⟨b,o,none⟩=false:=by
 rw[h2.frozen (p:=⟨b,o,none⟩) (World.block_lt_of_cell? w1 _ h1)];exact h
theorem set4 {B:Nat}{a w:World}{b:Nat}{v0 v1 v2 v3:Value}(h:Below B a w)(hb:B<=b):Below B a ((((w.setCell ⟨b,0,none⟩ v0).setCell ⟨b,1,none⟩ v1).setCell ⟨b,2,none⟩ v2).setCell ⟨b,3,none⟩ v3) :=
 (((h.setCell hb _).setCell hb _).setCell hb _).setCell hb _
theorem set2 {B:Nat}{a w:World}{b:Nat}{v0 v1:Value}(h:Below B a w)(hb:B<=b):Below B a ((w.setCell ⟨b,0,none⟩ v0).setCell ⟨b,1,none⟩ v1) :=
 (h.setCell hb _).setCell hb _
theorem yb {w1 w2:World}{a:Addr}{v:Value}(h2:Below w1.heap.size w1 w2)(h1:w1.cell? a=some v):w2.cell? a=some v:=by
 rw[h2.cell (World.block_lt_of_cell? w1 _ h1)];exact h1
theorem ya5 (A:Addr)(j:Nat)(h:0<j):A.add j=⟨A.block,A.off+j,none⟩:=by
 unfold Addr.add;rw[if_neg (by omega)]
theorem own_keep {W W':World}{B e size n:Nat}{v:Value}{xs:List Value}(h:W.ownsRow B e size v n xs)(hb:Below W.heap.size W W'):W'.ownsRow B e size v n xs:=by
 obtain⟨h1,h2⟩:=h;refine⟨h1,h2.imp id ?_⟩;rintro⟨g,cap,cur,rfl,hg,hc,h3⟩
 have hlt:g<W.heap.size:=by
  rcases Nat.lt_or_ge g W.heap.size with h | h
  ·exact h
  ·rw[Array.getElem?_eq_none (by omega)] at hc;cases hc
 exact⟨g,cap,cur,rfl,hg,by rw[hb.block g hlt];exact hc,h3⟩
theorem yqY {P:Program}{ops:Array Oper}{Q:Exit->Act->World->Prop}{md:Region.Mode}{S:World->Prop}{fuel:Nat}{listed:Array Bool}{a:Act}{w:World}(i k:Nat)(v:Value)(hd:(ops[i]?).map (·.dst)=some (some k))
    (hs:Region.noSelect ops=true) (hf:Region.free md ops listed i=true) (hr:(Region.ready md ops listed).contains i=true)
    (hQ:∀ c (d:Tmp) v a w,Q (.panic c) (a.put (some d) v) w->Q (.panic c) a w) (hy:∀ oi,ops[i]?=some oi->Region.wanted oi (yielded ops a.tmps)=true/\∀ W,S W->(execOp a.eval oi).run P W=.ok (.value v) W) (hS:S w)
    (h:wpAnyH P md ops Q S fuel (listed.setIfInBounds i true) ⟨a.tmps.setIfInBounds k v,a.defers⟩ w):wpAnyH P md ops Q S (fuel+1) listed a w:=by
 obtain⟨oi,hi⟩:∃ oi,ops[i]?=some oi:=by
  cases h:ops[i]? with
  | none=>rw[h] at hd;cases hd
  | some o=>exact⟨o,rfl⟩
 have e:oi.dst=some k:=by rw[hi] at hd;simpa using hd
 refine wpAnyH_take hi hs hf hr (fun c a w=>by rw[e];exact hQ c _ _ a w) (Or.inl (hy oi hi)) hS ?_;rw[e];exact h
theorem yqZ:laidOutB Tryz.prog=true:=by kernel_rfl
theorem Lh {p:Prop}(h:p):RowKit.Hid p:=Lib.hid h
theorem sA {α:Type _}{l:List α}{i:Nat}{a:α}:l.toArray.setIfInBounds i a=(l.set i a).toArray:=List.setIfInBounds_toArray ..
theorem sB {α:Type _}{x:α}{xs:List α}{a:α}:(x::xs).set 0 a=a::xs:=List.set_cons_zero ..
theorem sC {α:Type _}{x:α}{xs:List α}{n:Nat}{a:α}:(x::xs).set (n+1) a=x::xs.set n a:=List.set_cons_succ ..
theorem tk {P:Program}{ops:Array Oper}{Q:Exit->Act->World->Prop}{md:Region.Mode}{S:World->Prop}{fuel:Nat}{listed:Array Bool}{a:Act}{w:World}{oi:Oper}(i k:Nat)(v:Value)    (h:wpAnyH P md ops Q S fuel (listed.setIfInBounds i true) ⟨a.tmps.setIfInBounds k v,a.defers⟩ w) (ho:ops[i]?=some oi:=by rfl) (hn:Region.wanted oi (yielded ops a.tmps)=true:=by rfl) (hd:(ops[i]?).map (·.dst)=some (some k):=by rfl) (hs:Region.noSelect ops=true:=by kernel_rfl) (hf:Region.free md ops listed i=true:=by kernel_rfl)
    (hr:(Region.ready md ops listed).contains i=true:=by kernel_rfl) (hQ:∀ c (d:Tmp) v a w,Q (.panic c) (a.put (some d) v) w->Q (.panic c) a w:=by first | exact fun _ _ _ _ _ h=>h | exact fun _ _ _ _ _ h=>by cases h.1) (hS : S w := by assumption) (hy : ∀ W, S W -> (execOp a.eval oi).run P W = .ok (.value v) W := by (intro W hSw;(try dsimp only at hSw);go_simp)):wpAnyH P md ops Q S (fuel+1) listed a w :=
 yqY i k v hd hs hf hr hQ (fun oi' h'=>by rw[ho] at h';cases h';exact⟨hn,hy⟩) hS h
theorem bc {W:World}{g:Nat}{t:TypeId}{arr:Array Value}{v:Value}(j:Nat)(h:W.heap[g]?=some (.cells arr t (0,0)))(e:arr[j]?=some v:=by rfl):W.cell? ⟨g,j,none⟩=some v:=by
 simp[World.cell?,h,e]
theorem b2c {W:World}{g:Nat}{t:TypeId}{arr:Array Value}{v0 v1:Value}(h:W.heap[g]?=some (.cells arr t (0,0)))(e0:arr[0]?=some v0:=by rfl)(e1:arr[1]?=some v1:=by rfl):W.cell? ⟨g,0,none⟩=some v0/\W.cell? ⟨g,1,none⟩=some v1:=⟨bc 0 h e0,bc 1 h e1⟩
theorem b3c {W:World}{g:Nat}{t:TypeId}{arr:Array Value}{v0 v1 v2:Value}(h:W.heap[g]?=some (.cells arr t (0,0)))(e0:arr[0]?=some v0:=by rfl)(e1:arr[1]?=some v1:=by rfl)(e2:arr[2]?=some v2:=by rfl):W.cell? ⟨g,0,none⟩=some v0/\W.cell? ⟨g,1,none⟩=some v1/\W.cell? ⟨g,2,none⟩=some v2:=⟨bc 0 h e0,bc 1 h e1,bc 2 h e2⟩
theorem b4c {W:World}{g:Nat}{t:TypeId}{arr:Array Value}{v0 v1 v2 v3:Value}(h:W.heap[g]?=some (.cells arr t (0,0)))(e0:arr[0]?=some v0:=by rfl)(e1:arr[1]?=some v1:=by rfl)(e2:arr[2]?=some v2:=by rfl)(e3:arr[3]?=some v3:=by rfl):W.cell? ⟨g,0,none⟩=some v0/\W.cell? ⟨g,1,none⟩=some v1/\W.cell? ⟨g,2,none⟩=some v2/\W.cell? ⟨g,3,none⟩=some v3:=⟨bc 0 h e0,bc 1 h e1,bc 2 h e2,bc 3 h e3⟩
theorem b5c {W:World}{g:Nat}{t:TypeId}{arr:Array Value}{v0 v1 v2 v3 v4:Value}(h:W.heap[g]?=some (.cells arr t (0,0)))(e0:arr[0]?=some v0:=by rfl)(e1:arr[1]?=some v1:=by rfl)(e2:arr[2]?=some v2:=by rfl)(e3:arr[3]?=some v3:=by rfl)(e4:arr[4]?=some v4:=by rfl):W.cell? ⟨g,0,none⟩=some v0/\W.cell? ⟨g,1,none⟩=some v1/\W.cell? ⟨g,2,none⟩=some v2/\W.cell? ⟨g,3,none⟩=some v3/\W.cell? ⟨g,4,none⟩=some v4:=⟨bc 0 h e0,bc 1 h e1,bc 2 h e2,bc 3 h e3,bc 4 h e4⟩
theorem b6c {W:World}{g:Nat}{t:TypeId}{arr:Array Value}{v0 v1 v2 v3 v4 v5:Value}(h:W.heap[g]?=some (.cells arr t (0,0)))(e0:arr[0]?=some v0:=by rfl)(e1:arr[1]?=some v1:=by rfl)(e2:arr[2]?=some v2:=by rfl)(e3:arr[3]?=some v3:=by rfl)(e4:arr[4]?=some v4:=by rfl)(e5:arr[5]?=some v5:=by rfl):W.cell? ⟨g,0,none⟩=some v0/\W.cell? ⟨g,1,none⟩=some v1/\W.cell? ⟨g,2,none⟩=some v2/\W.cell? ⟨g,3,none⟩=some v3/\W.cell? ⟨g,4,none⟩=some v4/\W.cell? ⟨g,5,none⟩=some v5:=⟨bc 0 h e0,bc 1 h e1,bc 2 h e2,bc 3 h e3,bc 4 h e4,bc 5 h e5⟩
theorem b7c {W:World}{g:Nat}{t:TypeId}{arr:Array Value}{v0 v1 v2 v3 v4 v5 v6:Value}(h:W.heap[g]?=some (.cells arr t (0,0)))(e0:arr[0]?=some v0:=by rfl)(e1:arr[1]?=some v1:=by rfl)(e2:arr[2]?=some v2:=by rfl)(e3:arr[3]?=some v3:=by rfl)(e4:arr[4]?=some v4:=by rfl)(e5:arr[5]?=some v5:=by rfl)(e6:arr[6]?=some v6:=by rfl):W.cell? ⟨g,0,none⟩=some v0/\W.cell? ⟨g,1,none⟩=some v1/\W.cell? ⟨g,2,none⟩=some v2/\W.cell? ⟨g,3,none⟩=some v3/\W.cell? ⟨g,4,none⟩=some v4/\W.cell? ⟨g,5,none⟩=some v5/\W.cell? ⟨g,6,none⟩=some v6:=⟨bc 0 h e0,bc 1 h e1,bc 2 h e2,bc 3 h e3,bc 4 h e4,bc 5 h e5,bc 6 h e6⟩
end Go.Proofs.YtgmidodmmlmmeaaGreatDoor
namespace Go.Proofs.YtgmidodmmlmmeaaGreatDoor
open Go.RowKit lex _root_.Go.Proofs.Tryz
theorem ycF (s:ByteArray)(k:Nat)(h:k<s.size):s.data.toList[k]?=some s[k]:=by
 rw[List.getElem?_eq_getElem (by simpa using h)];rfl
theorem yp (s:ByteArray):s.data.toList.length=s.size:=by simp
theorem yek {s:ByteArray}(h:s.size=0):s.data.toList=[]:=List.length_eq_zero_iff.1 (by rw[yp];exact h)
theorem yiM {s:ByteArray}(h:s.size=0):(s.toList==[])=true:=by rw[ByteArray.toList_eq,yek h];rfl
theorem ylt {s:ByteArray}(h:s.size≠0):(s.toList==[])=false:=by
 rw[ByteArray.toList_eq,beq_eq_false_iff_ne];intro e;exact h (by rw[<- yp,e];rfl)
theorem yiN (c:UInt8)(w:World) :
    Calls Tryz.prog 198 #[.int .u8 (c.toNat:Int)] w fun e w'=>e=.returned (.bool (ybA c))/\w=w':=by
 go_enter func198,ntmps198;go_wp2
 all_goals go_ret
 all_goals refine⟨yaf ?_,rfl⟩
 all_goals (unfold ybA;rw[Bool.eq_iff_iff];simp;omega)
theorem ykI (c:UInt8)(w:World) :
    Calls Tryz.prog 199 #[.int .u8 (c.toNat:Int)] w fun e w'=>e=.returned (.bool (ycx c))/\w=w':=by
 go_enter func199,ntmps199;go_wp2
 all_goals go_ret
 all_goals refine⟨yaf ?_,rfl⟩
 all_goals (unfold ycx;rw[Bool.eq_iff_iff];simp;omega)
theorem ycS (c:UInt8)(v:Bool)(w:World)(h:Hid (ybA c=v)) :
    Calls Tryz.prog 198 #[.int .u8 (c.toNat:Int)] w fun e w'=>e=.returned (.bool v)/\w=w':=by rw[<- h.out];exact yiN c w
theorem yhL (c:UInt8)(v:Bool)(w:World)(h:Hid (ycx c=v)) :
    Calls Tryz.prog 199 #[.int .u8 (c.toNat:Int)] w fun e w'=>e=.returned (.bool v)/\w=w':=by rw[<- h.out];exact ykI c w
theorem ylu (s:ByteArray)(w:World)(hs:s.size<=maxLen) :
    Calls Tryz.prog 141 #[.string s] w fun e w'=>e=.returned (.int .i64 (yaB s.data.toList:Int))/\w=w':=by
 unfold maxLen at hs;obtain⟨n,hn⟩:∃ v:Nat,yaB s.data.toList=v:=⟨_,rfl⟩
 rw[hn];have HN:=Lh hn;clear hn;go_enter func141,ntmps141;go_wp2
 go_loop [3] (fun v=>∃ k:Nat,k<=s.size/\v=.int .i64 k/\WordTo s.data.toList k) (fun v=>s.size-(intOf v).toNat)
 case atStart=>exact⟨0,Nat.zero_le _,rfl,WordTo.zero _⟩
 case round =>
  obtain⟨k,hk,rfl,hw⟩:=hrel;have HW:=Lh hw;clear hw
  by_cases hlt:k<s.size
  ·have HD:=Lh (ycF s k hlt)
   obtain⟨a,ha⟩:∃ v,ybA s[k]=v:=⟨_,rfl⟩
   obtain⟨b,hb⟩:∃ v,ycx s[k]=v:=⟨_,rfl⟩
   have HA:=Lh ha;have HB:=Lh hb;clear ha hb
   have stop:yfQ k s[k]=false->n=k:=fun e=>by
    rw[<- HN.out];exact HW.out.stop (by rw[yp];omega) (fun c hc=>by rw[HD.out] at hc;obtain rfl:=Option.some.inj hc;exact e)
   have STOP:=Lh stop;clear stop;cases a
   ·by_cases hk0:k=0
    ·obtain rfl:n=k:=STOP.out (by unfold yfQ;rw[if_pos hk0];exact HA.out)
     have hd0:decide (0<n)=false:=by simp;omega
     clear hk0
     go_wp2_with (go_at_call 198;refine(ycS _ _ _ HA).mono ?_;rintro e w' ⟨rfl,rfl⟩)
     go_ret;exact⟨rfl,rfl⟩
    ·have hk1:0<k:=by omega
     have hd1:decide (0<k)=true:=by simp;omega
     clear hk0;cases b
     ·obtain rfl:n=k:=STOP.out (by unfold yfQ ycP;rw[if_neg (by omega),HA.out,HB.out];rfl)
      go_wp2_with (first | (go_at_call 198;refine(ycS _ _ _ HA).mono ?_;rintro e w' ⟨rfl,rfl⟩) | (go_at_call 199;refine(yhL _ _ _ HB).mono ?_;rintro e w' ⟨rfl,rfl⟩))
      go_ret;exact⟨rfl,rfl⟩
     ·have HK:=Lh (show yfQ k s[k]=true by unfold yfQ ycP;rw[if_neg (by omega),HA.out,HB.out];rfl)
      go_wp2_with (first | (go_at_call 198;refine(ycS _ _ _ HA).mono ?_;rintro e w' ⟨rfl,rfl⟩) | (go_at_call 199;refine(yhL _ _ _ HB).mono ?_;rintro e w' ⟨rfl,rfl⟩))
      go_round
      case rel=>exact⟨k+1,by omega,by go_num,HW.out.next HD.out HK.out⟩
      case measure=>simp[intOf];omega
   ·have HK:=Lh (show yfQ k s[k]=true by unfold yfQ ycP;rw[HA.out];simp)
    go_wp2_with (go_at_call 198;refine(ycS _ _ _ HA).mono ?_;rintro e w' ⟨rfl,rfl⟩)
    go_round
    case rel=>exact⟨k+1,by omega,by go_num,HW.out.next HD.out HK.out⟩
    case measure=>simp[intOf];omega
  ·obtain rfl:k=s.size:=by omega
   obtain rfl:n=s.size:=by
    rw[<- HN.out];exact HW.out.stop (by rw[yp];omega) (fun c hc=>by rw[List.getElem?_eq_none (by rw[yp];omega)] at hc;cases hc)
   go_wp2;go_ret;exact⟨rfl,rfl⟩
theorem yq0 (s:ByteArray)(w:World) :
    Calls Tryz.prog 142 #[.string s] w fun e w'=>e=.returned (.bool (yjf s.data.toList))/\w=w':=by
 go_enter func142,ntmps142;go_wp2
 all_goals go_ret
 all_goals refine⟨yaf ?_,rfl⟩
 all_goals (rw[<- ByteArray.toList_eq];unfold yjf kws;simp_all)
theorem ysN (s:ByteArray)(v:Bool)(w:World)(h:Hid (yjf s.data.toList=v)) :
    Calls Tryz.prog 142 #[.string s] w fun e w'=>e=.returned (.bool v)/\w=w':=by rw[<- h.out];exact yq0 s w
theorem ynU (s:ByteArray)(n:Nat)(w:World)(hs:s.size<=maxLen)(h:Hid (yaB s.data.toList=n)) :
    Calls Tryz.prog 141 #[.string s] w fun e w'=>e=.returned (.int .i64 (n:Int))/\w=w':=by rw[<- h.out];exact ylu s w hs
theorem ylv (s:ByteArray)(w:World)(hs:s.size<=maxLen) :
    Calls Tryz.prog 77 #[.string s] w fun e w'=>e=.returned (.bool (yK s.data.toList))/\w=w':=by
 have hm:=hs;unfold maxLen at hs;obtain⟨n,hn⟩:∃ v:Nat,yaB s.data.toList=v:=⟨_,rfl⟩
 obtain⟨k,hk⟩:∃ v:Bool,yjf s.data.toList=v:=⟨_,rfl⟩
 have HN:=Lh hn;have HK:=Lh hk
 have HR:Hid (yK s.data.toList=(decide (0<s.size)&&decide (n=s.size)&&decide (s.size<=16) && !k)):=Lh (by
  unfold yK;rw[hn,hk,yp]
  congr 3
  by_cases h:s.size=0
  ·rw[yek h];simp[h]
  ·rw[decide_eq_true (by omega)]
   cases hl:s.data.toList with
   | nil=>exact absurd (by rw[<- yp,hl];rfl) h
   | cons a t=>rfl)
 rw[HR.out];clear HR hn hk
 by_cases h0:s.size=0
 ·have hemp:(s.toList==[])=true:=yiM h0
  have hd:decide (0<s.size)=false:=by simp[h0]
  rw[hd];clear h0 hd;go_enter func77,ntmps77;go_wp2;go_ret;exact⟨rfl,rfl⟩
 ·have hemp:(s.toList==[])=false:=ylt h0
  have hd:decide (0<s.size)=true:=by simp;omega
  rw[hd];clear h0 hd;go_enter func77,ntmps77
  go_wp2_with (first | (go_at_call 141;refine(ynU _ _ _ hm HN).mono ?_;rintro e w' ⟨rfl,rfl⟩) | (go_at_call 142;refine(ysN _ _ _ HK).mono ?_;rintro e w' ⟨rfl,rfl⟩))
  all_goals go_ret
  all_goals refine⟨yaf ?_,rfl⟩
  all_goals (cases k <;> simp <;> omega)
theorem ybk (s:ByteArray)(v:Bool)(w:World)(hs:s.size<=maxLen)(h:Hid (yK s.data.toList=v)) :
    Calls Tryz.prog 77 #[.string s] w fun e w'=>e=.returned (.bool v)/\w=w':=by rw[<- h.out];exact ylv s w hs
theorem yf2 {s:ByteArray}{k:Nat}(h:(s.data.toList.take k).all yar=true)(hlt:k<s.size)(hp:yar s[k]=true):(s.data.toList.take (k+1)).all yar=true:=by
 rw[List.take_add_one,ycF s k hlt,List.all_append,h];simp[hp]
theorem yeX {s:ByteArray}{k:Nat}(hlt:k<s.size)(hp:yar s[k]=false):s.data.toList.all yar=false:=by
 rw[List.all_eq_false];exact⟨s[k],List.mem_of_getElem? (ycF s k hlt),by simp[hp]⟩
end Go.Proofs.YtgmidodmmlmmeaaGreatDoor
namespace Go.Proofs.YtgmidodmmlmmeaaGreatDoor
open Go.RowKit
end Go.Proofs.YtgmidodmmlmmeaaGreatDoor
namespace Go.Proofs.YtgmidodmmlmmeaaGreatDoor
def Scan (t:List UInt8)(i dt:Nat):Prop :=
 (i<=(yD t).length/\dt=t.length)\/((yD t).length<i/\dt=(yD t).length/\t[(yD t).length]?=some 46/\((t.drop ((yD t).length+1)).take (i-((yD t).length+1))).all yL=true)
theorem Scan.start (t:List UInt8):Scan t 0 t.length:=Or.inl ⟨Nat.zero_le _,rfl⟩
theorem yl2 {t:List UInt8}{i:Nat}{c:UInt8}(h:i<(yD t).length)(hc:t[i]?=some c):yL c=true:=by
 have e:=yaC t
 have:(yD t)[i]?=some c:=by
  rw[e,List.getElem?_take,if_pos h];exact hc
 exact yeg t c (List.mem_of_getElem? this)
theorem Scan.digit {t:List UInt8}{i dt:Nat}{c:UInt8}(h:Scan t i dt)(hc:t[i]?=some c)(hd:yL c=true):Scan t (i+1) dt:=by
 rcases h with ⟨h1,h2⟩ | ⟨h1,h2,h3,h4⟩
 ·left
  refine⟨?_,h2⟩
  rcases Nat.lt_or_ge i (yD t).length with h | h
  ·omega
  ·obtain rfl:i=(yD t).length:=by omega
   have:=ylc t c hc;rw[hd] at this;cases this
 ·right
  refine⟨by omega,h2,h3,?_⟩
  have hi:i<t.length:=by
   rcases Nat.lt_or_ge i t.length with h | h
   ·exact h
   ·rw[List.getElem?_eq_none h] at hc;cases hc
  have e:i+1-((yD t).length+1)=(i-((yD t).length+1))+1:=by omega
  rw[e,yhB _ _ (by rw[List.length_drop];omega),List.all_append,h4]
  have hx:(t.drop ((yD t).length+1))[i-((yD t).length+1)]'(by rw[List.length_drop];omega)=c:=by
   have h5:(t.drop ((yD t).length+1))[i-((yD t).length+1)]?=some c:=by
    rw[List.getElem?_drop,show (yD t).length+1+(i-((yD t).length+1))=i by omega];exact hc
   rw[List.getElem?_eq_getElem (by rw[List.length_drop];omega)] at h5;exact Option.some.inj h5
  rw[hx];simp[hd]
theorem Scan.point {t:List UInt8}{i:Nat}(h:Scan t i t.length)(hc:t[i]?=some 46):Scan t (i+1) i:=by
 have hi:i<t.length:=by
  rcases Nat.lt_or_ge i t.length with h | h
  ·exact h
  ·rw[List.getElem?_eq_none h] at hc;cases hc
 rcases h with ⟨h1,_⟩ | ⟨h1,h2,_,_⟩
 ·have:i=(yD t).length:=by
    rcases Nat.lt_or_ge i (yD t).length with h | h
    ·have:=yl2 h hc
     cases this
    ·omega
  right
  subst this;refine⟨by omega,rfl,hc,?_⟩;rw[Nat.sub_self];rfl
 ·omega
theorem yfg {t:List UInt8}{k:Nat}{c:UInt8}(h:t[k]?=some c):t.drop k=c::t.drop (k+1):=by
 have hk:k<t.length:=by
  rcases Nat.lt_or_ge k t.length with h2 | h2
  ·exact h2
  ·rw[List.getElem?_eq_none h2] at h;cases h
 rw[List.drop_eq_getElem_cons hk];rw[List.getElem?_eq_getElem hk] at h;rw[Option.some.inj h]
theorem Scan.bad {t:List UInt8}{i dt:Nat}{c:UInt8}(h:Scan t i dt)(hc:t[i]?=some c)(hd:yL c=false)(hp:¬ (c=46/\dt=t.length)):y9 (t.drop (yD t).length)=none:=by
 rcases h with ⟨h1,h2⟩ | ⟨h1,h2,h3,h4⟩
 ·have:i=(yD t).length:=by
    rcases Nat.lt_or_ge i (yD t).length with h | h
    ·have:=yl2 h hc
     rw[hd] at this;cases this
    ·omega
  subst this;rw[yfg hc];exact if_neg fun h=>hp ⟨h.1,h2⟩
 ·rw[yfg h3]
  refine if_neg fun h=>?_
  have:=List.all_eq_true.1 h.2.2.2.1 c (List.mem_of_getElem? (i:=i-((yD t).length+1)) (by rw[List.getElem?_drop,show (yD t).length+1+(i-((yD t).length+1))=i by omega];exact hc));rw[hd] at this;cases this
theorem Scan.done {t:List UInt8}{dt:Nat}(h:Scan t t.length dt):(dt=t.length/\yD t=t)\/(dt<t.length/\dt=(yD t).length/\t.drop (yD t).length=46::t.drop (dt+1)/\(t.drop (dt+1)).all yL=true):=by
 rcases h with ⟨h1,h2⟩ | ⟨h1,h2,h3,h4⟩
 ·left
  refine⟨h2,?_⟩;rw[yaC t,List.take_of_length_le h1]
 ·right
  refine⟨by omega,h2,?_,?_⟩
  ·rw[h2];exact yfg h3
  ·rw[h2]
   rw[List.take_of_length_le (by rw[List.length_drop];omega)] at h4;exact h4
end Go.Proofs.YtgmidodmmlmmeaaGreatDoor
namespace Go.Proofs.YtgmidodmmlmmeaaGreatDoor
open Go.RowKit _root_.Go.Proofs.Tryz
theorem yn {fn:Func}{t u v x:Tmp}(h:fn.results=#[.tmp t,.tmp u,.tmp v,.tmp x])(tmps:Array Value)(P:Program)(w:World) :
    (results fn tmps).run P w=.ok (.tuple #[tmps.getD t undef,tmps.getD u undef,tmps.getD v undef,tmps.getD x undef]) w:=by
 simp[results,h]
def yfh:Value:=.tuple #[.bool false,.string ⟨#[]⟩,.string ⟨#[]⟩,.bool false]
def ydv (neg:Bool)(t:List UInt8):Value :=
 if (yD t).length=0\/(1<(yD t).length/\t.head?=some 48)\/(neg=true/\t=[48]) then yfh
 else match y9 (t.drop (yD t).length) with
  | none=>yfh
  | some _=>.tuple #[.bool neg,.string ⟨(yD t).toArray⟩,.string ⟨(t.drop ((yD t).length+1)).toArray⟩,.bool true]
theorem yaG {neg:Bool}{t:List UInt8}(h:(yD t).length=0\/(1<(yD t).length/\t.head?=some 48)\/(neg=true/\t=[48])):ydv neg t=yfh:=if_pos h
theorem yaJ {neg:Bool}{t:List UInt8}(h2:y9 (t.drop (yD t).length)=none):ydv neg t=yfh:=by
 unfold ydv;split
 ·rfl
 ·rw[h2]
theorem yaK {neg:Bool}{t:List UInt8}{p:Nat}(h:¬ ((yD t).length=0\/(1<(yD t).length/\t.head?=some 48)\/(neg=true/\t=[48])))(h2:y9 (t.drop (yD t).length)=some p) :
    ydv neg t=.tuple #[.bool neg,.string ⟨(yD t).toArray⟩,.string ⟨(t.drop ((yD t).length+1)).toArray⟩,.bool true]:=by
 unfold ydv;rw[if_neg h,h2]
theorem ydw {b:ByteArray}(h:b.size=0):b.toList.isEmpty=true:=by
 rw[ByteArray.toList_eq,List.isEmpty_iff,<- List.length_eq_zero_iff];simpa using h
theorem ycU {b:ByteArray}(h:0<b.size):b.toList.isEmpty=false:=by
 cases e:b.toList.isEmpty with
 | false=>rfl
 | true =>
  rw[ByteArray.toList_eq,List.isEmpty_iff,<- List.length_eq_zero_iff] at e;have:b.size=0:=by simpa using e
  omega
theorem ygf {c:UInt8}(h:c.toNat=46):((c.toNat:Int)==46)=true:=by rw[beq_iff_eq];omega
theorem yh3 {c:UInt8}(h:c.toNat≠46):((c.toNat:Int)==46)=false:=by rw[beq_eq_false_iff_ne];omega
theorem ybx {c:UInt8}(h:c.toNat=48):((c.toNat:Int)==48)=true:=by rw[beq_iff_eq];omega
theorem yb7 {c:UInt8}(h:c.toNat≠48):((c.toNat:Int)==48)=false:=by rw[beq_eq_false_iff_ne];omega
theorem yl3 {b:ByteArray}(h:b.data.toList=[48]):(b.toList==[48])=true:=by rw[ByteArray.toList_eq,h];rfl
theorem ygg {b:ByteArray}(h:b.data.toList≠[48]):(b.toList==[48])=false:=by rw[ByteArray.toList_eq];simpa using h
theorem ygh (b:ByteArray):b.extract 0 b.size=b:=by
 apply ByteArray.ext;simp
theorem yaT {b:ByteArray}(h:0<b.size){c:UInt8}:b.data.toList.head?=some c↔b[0].toNat=c.toNat:=by
 rw[yiG b h]
 constructor
 ·intro e;rw[Option.some.inj e]
 ·intro e;exact congrArg some (UInt8.toNat_inj.1 e)
theorem yq (b:ByteArray):b.data.toList.length=b.size:=by simp
theorem yh4 (b:ByteArray)(k:Nat):(b.extract 0 k).data.toList=b.data.toList.take k:=by
 rw[Lib.extract_upto]
theorem yct (b:ByteArray):(⟨b.data.toList.toArray⟩:ByteArray)=b:=yld b
theorem ygi {d:List UInt8}(h:y9 (46::d)=none)(ha:d.all yL=true):d.length<1\/3<d.length\/d.getLast?=some 48:=by
 rcases Nat.lt_or_ge d.length 1 with h1 | h1
 ·exact Or.inl h1
 ·rcases Nat.lt_or_ge 3 d.length with h2 | h2
  ·exact Or.inr (Or.inl h2)
  ·by_cases h3:d.getLast?=some 48
   ·exact Or.inr (Or.inr h3)
   ·have e:y9 (46::d)=some (pad (yad d) d.length 3):=if_pos ⟨rfl,h1,h2,ha,h3⟩
    rw[e] at h;cases h
theorem yh5 {d:List UInt8}{p:Nat}(h:y9 (46::d)=some p):1<=d.length/\d.length<=3/\d.getLast?≠some 48:=by
 by_cases hc:(46:UInt8)=46/\1<=d.length/\d.length<=3/\d.all yL=true/\d.getLast?≠some 48
 ·exact⟨hc.2.1,hc.2.2.1,hc.2.2.2.2⟩
 ·have e:y9 (46::d)=none:=if_neg hc
  rw[e] at h;cases h
theorem yg5 {b:ByteArray}(h:b.size-1<b.size):b.data.toList.getLast?=some b[b.size-1]:=by
 rw[List.getLast?_eq_getElem?,yq,yfR b _ h]
theorem yot (s tx:ByteArray)(w:World)(hs:s.size<=9223372036854775806)(h0:0<s.size)(h45:((s[0].toNat:Int)==45)=true)(htx:s.extract 1 s.size=tx)(htl:tx.size<=s.size) :
    Calls Tryz.prog 265 #[.string s] w fun e w'=>e=.returned (ydv true tx.data.toList)/\w=w':=by
 go_enter func265,ntmps265;go_wp2
 go_loop [7,8] (fun dv iv=>∃ dt i:Nat,dv=.int .i64 dt/\iv=.int .i64 i/\i<=tx.size/\dt<=tx.size/\Scan tx.data.toList i dt) (fun _ iv=>tx.size-(intOf iv).toNat)
 case atStart=>exact⟨tx.size,0,rfl,rfl,Nat.zero_le _,Nat.le_refl _,by have:=Scan.start tx.data.toList;rw[yq] at this;exact this⟩
 case round =>
  obtain⟨dt,i,rfl,rfl,hi,hdt,hsc⟩:=hrel;have HS:=Lib.hid hsc;clear hsc
  by_cases hlt:i<tx.size
  ·have HC:=Lib.hid (yfR tx i hlt)
   by_cases h46:tx[i].toNat=46
   ·have hb46:=ygf h46
    have hlo:(tx[i].toNat:Int)<48:=by omega
    have H46:=Lib.hid h46;clear h46
    by_cases hdn:dt=tx.size
    ·subst hdn
     go_wp2
     go_round
     case rel=>exact⟨i,i+1,rfl,by go_num,by omega,by omega,by have:=HS.out;rw[<- yq] at this;exact this.point (by rw[HC.out];exact congrArg some (UInt8.toNat_inj.1 H46.out))⟩
     case measure=>simp[intOf];omega
    ·have hbd:((dt:Int)==tx.size)=false:=by rw[beq_eq_false_iff_ne];omega
     have HB:=Lib.hid (yaJ (neg:=true) (HS.out.bad HC.out (by unfold yL;simp;omega) (fun h=>hdn (by rw[h.2,yq]))));go_wp2
     (try simp only[Exit.inBlock,Exit.then])
     refine bodyPost_ret (yn rfl _ _ _) rfl ⟨?_,rfl⟩;rw[HB.out];rfl
   ·have hb46:=yh3 h46
    have H46:=Lib.hid h46;clear h46
    by_cases hlo:(tx[i].toNat:Int)<48
    ·have HB:=Lib.hid (yaJ (neg:=true) (HS.out.bad HC.out (by unfold yL;simp;omega) (fun h=>H46.out (by rw[h.1];rfl))))
     go_wp2
     (try simp only[Exit.inBlock,Exit.then])
     refine bodyPost_ret (yn rfl _ _ _) rfl ⟨?_,rfl⟩;rw[HB.out];rfl
    ·by_cases hhi:57<(tx[i].toNat:Int)
     ·have HB:=Lib.hid (yaJ (neg:=true) (HS.out.bad HC.out (by unfold yL;simp;omega) (fun h=>H46.out (by rw[h.1];rfl))))
      go_wp2
      (try simp only[Exit.inBlock,Exit.then])
      refine bodyPost_ret (yn rfl _ _ _) rfl ⟨?_,rfl⟩;rw[HB.out];rfl
     ·go_wp2
      go_round
      case rel=>exact⟨dt,i+1,rfl,by go_num,by omega,by omega,HS.out.digit HC.out (yjj (by omega))⟩
      case measure=>simp[intOf];omega
  ·obtain rfl:i=tx.size:=by omega
   have hdone:=HS.out;rw[<- yq] at hdone
   rcases hdone.done with ⟨hdt2,hL⟩ | ⟨hdt2,hL,hdr,hda⟩
   ·rw[yq] at hdt2
    subst hdt2;have hws:=ygh tx;have hlen:(yD tx.data.toList).length=tx.size:=by rw[hL,yq]
    have hfr:y9 (tx.data.toList.drop (yD tx.data.toList).length)=some 0:=by rw[hlen,List.drop_eq_nil_of_le (by rw[yq];omega)];rfl
    have HFR:=Lib.hid hfr;have HLEN:=Lib.hid hlen;have HL:=Lib.hid hL;clear hdone hL hlen hfr HS
    by_cases h0:tx.size=0
    ·have hemp:=ydw h0
     have HB:=Lib.hid (yaG (neg:=true) (Or.inl (by rw[HLEN.out];exact h0)));clear h0;go_wp2
     (try simp only[Exit.inBlock,Exit.then])
     refine bodyPost_ret (yn rfl _ _ _) rfl ⟨?_,rfl⟩;rw[HB.out];rfl
    ·have h0s:0<tx.size:=by omega
     have hemp:=ycU h0s;clear h0
     by_cases h1:1<tx.size
     ·have h48n:tx.data.toList≠[48]:=fun h=>by have:=yq tx;rw[h] at this;simp at this;omega
      have hone:=ygg h48n
      by_cases h48:tx[0].toNat=48
      ·have hb48:=ybx h48
       have HB:=Lib.hid (yaG (neg:=true) (Or.inr (Or.inl ⟨by rw[HLEN.out];exact h1,(yaT h0s).2 h48⟩)));clear h48;go_wp2
       (try simp only[Exit.inBlock,Exit.then])
       refine bodyPost_ret (yn rfl _ _ _) rfl ⟨?_,rfl⟩;rw[HB.out];rfl
      ·have hb48:=yb7 h48
       have hg:=yaK (neg:=true) (p:=0) (t:=tx.data.toList) (by
        rintro (h | h | h)
        ·have:=HLEN.out;omega
        ·exact h48 ((yaT h0s).1 h.2)
        ·exact h48n h.2) HFR.out
       rw[HLEN.out,HL.out,List.drop_eq_nil_of_le (by rw[yq];omega),yct] at hg;have HG:=Lib.hid hg;clear h48 hg h48n;go_wp2
       (try simp only[Exit.inBlock,Exit.then])
       refine bodyPost_ret (yn rfl _ _ _) rfl ⟨?_,rfl⟩;rw[HG.out];rfl
     ·by_cases h48:tx.data.toList=[48]
      ·have hone:=yl3 h48
       have HB:=Lib.hid (yaG (neg:=true) (Or.inr (Or.inr ⟨rfl,h48⟩)));clear h48;go_wp2
       (try simp only[Exit.inBlock,Exit.then])
       refine bodyPost_ret (yn rfl _ _ _) rfl ⟨?_,rfl⟩;rw[HB.out];rfl
      ·have hone:=ygg h48
       have hg:=yaK (neg:=true) (p:=0) (t:=tx.data.toList) (by
        rintro (h | h | h)
        ·have:=HLEN.out;omega
        ·have:=HLEN.out;omega
        ·exact h48 h.2) HFR.out
       rw[HLEN.out,HL.out,List.drop_eq_nil_of_le (by rw[yq];omega),yct] at hg;have HG:=Lib.hid hg;clear h48 hg;go_wp2
       (try simp only[Exit.inBlock,Exit.then])
       refine bodyPost_ret (yn rfl _ _ _) rfl ⟨?_,rfl⟩;rw[HG.out];rfl
   ·rw[yq] at hdt2
    obtain⟨wh,hwh⟩:∃ wh,tx.extract 0 dt=wh:=⟨_,rfl⟩
    obtain⟨pt,hpt⟩:∃ pt,tx.extract (dt+1) tx.size=pt:=⟨_,rfl⟩
    have hwd:wh.data.toList=yD tx.data.toList:=by rw[<- hwh,yh4,yaC tx.data.toList,hL]
    have hpd:pt.data.toList=tx.data.toList.drop (dt+1):=by rw[<- hpt,ya3]
    have hws:wh.size=dt:=by rw[<- yq,hwd,<- hL]
    have hps:pt.size=tx.size-(dt+1):=by rw[<- yq,hpd,List.length_drop,yq]
    have hws1:wh.size<=dt:=by omega
    have hws2:dt<=wh.size:=by omega
    have hptm:pt.size<=tx.size:=by omega
    rw[<- hpd] at hda hdr;have HL:=Lib.hid hL;have HWD:=Lib.hid hwd;have HPD:=Lib.hid hpd;have HDR:=Lib.hid hdr;have HDA:=Lib.hid hda;have HPS:=Lib.hid hps;clear hdone hL hwd hpd hdr hda hws hps HS
    cases hf:y9 (46::pt.data.toList) with
    | none =>
     have HB:=Lib.hid (yaJ (neg:=true) (t:=tx.data.toList) (by rw[HDR.out];exact hf))
     rcases ygi hf HDA.out with h | h | h
     ·rw[yq] at h
      clear hf;go_wp2
      (try simp only[Exit.inBlock,Exit.then])
      refine bodyPost_ret (yn rfl _ _ _) rfl ⟨?_,rfl⟩;rw[HB.out];rfl
     ·rw[yq] at h
      clear hf;go_wp2
      (try simp only[Exit.inBlock,Exit.then])
      refine bodyPost_ret (yn rfl _ _ _) rfl ⟨?_,rfl⟩;rw[HB.out];rfl
     ·by_cases hp0:pt.size<1
      ·clear hf h
       go_wp2
       (try simp only[Exit.inBlock,Exit.then])
       refine bodyPost_ret (yn rfl _ _ _) rfl ⟨?_,rfl⟩;rw[HB.out];rfl
      ·by_cases hp3:3<pt.size
       ·clear hf h
        go_wp2
        (try simp only[Exit.inBlock,Exit.then])
        refine bodyPost_ret (yn rfl _ _ _) rfl ⟨?_,rfl⟩;rw[HB.out];rfl
       ·have hin:pt.size-1<pt.size:=by omega
        rw[yg5 hin] at h;have hb48:=ybx (c:=pt[pt.size-1]) (by rw[Option.some.inj h];rfl);clear hf h;go_wp2
        (try simp only[Exit.inBlock,Exit.then])
        refine bodyPost_ret (yn rfl _ _ _) rfl ⟨?_,rfl⟩;rw[HB.out];rfl
    | some p =>
     obtain⟨hp1,hp3,hpl⟩:=yh5 hf;rw[yq] at hp1 hp3;have hin:pt.size-1<pt.size:=by omega
     rw[yg5 hin] at hpl;have hbl:=yb7 (c:=pt[pt.size-1]) (fun h=>hpl (congrArg some (UInt8.toNat_inj.1 h)));have hpe:=ycU (b:=pt) (by omega);have HF:Hid (y9 (tx.data.toList.drop (yD tx.data.toList).length)=some p):=Lib.hid (by rw[HDR.out];exact hf);clear hf hpl
     by_cases h0:dt=0
     ·have hemp:=ydw (b:=wh) (by omega)
      have HB:=Lib.hid (yaG (neg:=true) (t:=tx.data.toList) (Or.inl (by rw[<- HL.out];exact h0)));clear h0;go_wp2
      (try simp only[Exit.inBlock,Exit.then])
      refine bodyPost_ret (yn rfl _ _ _) rfl ⟨?_,rfl⟩;rw[HB.out];rfl
     ·have h0s:0<wh.size:=by omega
      have hemp:=ycU h0s;have hhd:wh.data.toList.head?=tx.data.toList.head?:=by rw[HWD.out];exact yeG (by rw[<- HL.out];exact h0)
      have HHD:=Lib.hid hhd
      have hnb:tx.data.toList≠[48]:=by
       intro h;have e:=HDR.out;rw[h] at e;simp[yD,yL] at e
      clear h0 hhd
      by_cases h1:1<dt
      ·have h1w:1<wh.size:=by omega
       have hone:=ygg (b:=wh) (fun h=>by have:=yq wh;rw[h] at this;simp at this;omega)
       by_cases h48:wh[0].toNat=48
       ·have hb48:=ybx h48
        have HB:=Lib.hid (yaG (neg:=true) (t:=tx.data.toList) (Or.inr (Or.inl ⟨by rw[<- HL.out];exact h1,by rw[<- HHD.out];exact(yaT h0s).2 h48⟩)));clear h48 hnb;go_wp2
        (try simp only[Exit.inBlock,Exit.then])
        refine bodyPost_ret (yn rfl _ _ _) rfl ⟨?_,rfl⟩;rw[HB.out];rfl
       ·have hb48:=yb7 h48
        have hg:=yaK (neg:=true) (t:=tx.data.toList) (by
         rintro (h | h | h)
         ·rw[<- HL.out] at h;omega
         ·rw[<- HHD.out] at h;exact h48 ((yaT h0s).1 h.2)
         ·exact hnb h.2) HF.out
        rw[<- HL.out,<- HPD.out,<- HWD.out,yct,yct] at hg;have HG:=Lib.hid hg;clear h48 hg hnb;go_wp2
        (try simp only[Exit.inBlock,Exit.then])
        refine bodyPost_ret (yn rfl _ _ _) rfl ⟨?_,rfl⟩;rw[HG.out];rfl
      ·have h1w:¬ 1<wh.size:=by omega
       have hg:=yaK (neg:=true) (t:=tx.data.toList) (by
        rintro (h | h | h)
        ·rw[<- HL.out] at h;omega
        ·rw[<- HL.out] at h;omega
        ·exact hnb h.2) HF.out
       rw[<- HL.out,<- HPD.out,<- HWD.out,yct,yct] at hg;have HG:=Lib.hid hg;clear hg hnb
       by_cases hw48:wh.data.toList=[48]
       ·have hone:=yl3 hw48
        clear hw48;go_wp2
        (try simp only[Exit.inBlock,Exit.then])
        refine bodyPost_ret (yn rfl _ _ _) rfl ⟨?_,rfl⟩;rw[HG.out];rfl
       ·have hone:=ygg hw48
        clear hw48;go_wp2
        (try simp only[Exit.inBlock,Exit.then])
        refine bodyPost_ret (yn rfl _ _ _) rfl ⟨?_,rfl⟩;rw[HG.out];rfl
theorem yov (tx:ByteArray)(w:World)(hs:tx.size<=9223372036854775806)(h0:0<tx.size)(h45:((tx[0].toNat:Int)==45)=false) :
    Calls Tryz.prog 265 #[.string tx] w fun e w'=>e=.returned (ydv false tx.data.toList)/\w=w':=by
 go_enter func265,ntmps265;go_wp2
 go_loop [7,8] (fun dv iv=>∃ dt i:Nat,dv=.int .i64 dt/\iv=.int .i64 i/\i<=tx.size/\dt<=tx.size/\Scan tx.data.toList i dt) (fun _ iv=>tx.size-(intOf iv).toNat)
 case atStart=>exact⟨tx.size,0,rfl,rfl,Nat.zero_le _,Nat.le_refl _,by have:=Scan.start tx.data.toList;rw[yq] at this;exact this⟩
 case round =>
  obtain⟨dt,i,rfl,rfl,hi,hdt,hsc⟩:=hrel;have HS:=Lib.hid hsc;clear hsc
  by_cases hlt:i<tx.size
  ·have HC:=Lib.hid (yfR tx i hlt)
   by_cases h46:tx[i].toNat=46
   ·have hb46:=ygf h46
    have hlo:(tx[i].toNat:Int)<48:=by omega
    have H46:=Lib.hid h46;clear h46
    by_cases hdn:dt=tx.size
    ·subst hdn
     go_wp2
     go_round
     case rel=>exact⟨i,i+1,rfl,by go_num,by omega,by omega,by have:=HS.out;rw[<- yq] at this;exact this.point (by rw[HC.out];exact congrArg some (UInt8.toNat_inj.1 H46.out))⟩
     case measure=>simp[intOf];omega
    ·have hbd:((dt:Int)==tx.size)=false:=by rw[beq_eq_false_iff_ne];omega
     have HB:=Lib.hid (yaJ (neg:=false) (HS.out.bad HC.out (by unfold yL;simp;omega) (fun h=>hdn (by rw[h.2,yq]))));go_wp2
     (try simp only[Exit.inBlock,Exit.then])
     refine bodyPost_ret (yn rfl _ _ _) rfl ⟨?_,rfl⟩;rw[HB.out];rfl
   ·have hb46:=yh3 h46
    have H46:=Lib.hid h46;clear h46
    by_cases hlo:(tx[i].toNat:Int)<48
    ·have HB:=Lib.hid (yaJ (neg:=false) (HS.out.bad HC.out (by unfold yL;simp;omega) (fun h=>H46.out (by rw[h.1];rfl))))
     go_wp2
     (try simp only[Exit.inBlock,Exit.then])
     refine bodyPost_ret (yn rfl _ _ _) rfl ⟨?_,rfl⟩;rw[HB.out];rfl
    ·by_cases hhi:57<(tx[i].toNat:Int)
     ·have HB:=Lib.hid (yaJ (neg:=false) (HS.out.bad HC.out (by unfold yL;simp;omega) (fun h=>H46.out (by rw[h.1];rfl))))
      go_wp2
      (try simp only[Exit.inBlock,Exit.then])
      refine bodyPost_ret (yn rfl _ _ _) rfl ⟨?_,rfl⟩;rw[HB.out];rfl
     ·go_wp2
      go_round
      case rel=>exact⟨dt,i+1,rfl,by go_num,by omega,by omega,HS.out.digit HC.out (yjj (by omega))⟩
      case measure=>simp[intOf];omega
  ·obtain rfl:i=tx.size:=by omega
   have hdone:=HS.out;rw[<- yq] at hdone
   rcases hdone.done with ⟨hdt2,hL⟩ | ⟨hdt2,hL,hdr,hda⟩
   ·rw[yq] at hdt2
    subst hdt2;have hws:=ygh tx;have hlen:(yD tx.data.toList).length=tx.size:=by rw[hL,yq]
    have hfr:y9 (tx.data.toList.drop (yD tx.data.toList).length)=some 0:=by rw[hlen,List.drop_eq_nil_of_le (by rw[yq];omega)];rfl
    have HFR:=Lib.hid hfr;have HLEN:=Lib.hid hlen;have HL:=Lib.hid hL;clear hdone hL hlen hfr HS
    by_cases h0:tx.size=0
    ·have hemp:=ydw h0
     have HB:=Lib.hid (yaG (neg:=false) (Or.inl (by rw[HLEN.out];exact h0)));clear h0;go_wp2
     (try simp only[Exit.inBlock,Exit.then])
     refine bodyPost_ret (yn rfl _ _ _) rfl ⟨?_,rfl⟩;rw[HB.out];rfl
    ·have h0s:0<tx.size:=by omega
     have hemp:=ycU h0s;clear h0
     by_cases h1:1<tx.size
     ·have h48n:tx.data.toList≠[48]:=fun h=>by have:=yq tx;rw[h] at this;simp at this;omega
      have hone:=ygg h48n
      by_cases h48:tx[0].toNat=48
      ·have hb48:=ybx h48
       have HB:=Lib.hid (yaG (neg:=false) (Or.inr (Or.inl ⟨by rw[HLEN.out];exact h1,(yaT h0s).2 h48⟩)));clear h48;go_wp2
       (try simp only[Exit.inBlock,Exit.then])
       refine bodyPost_ret (yn rfl _ _ _) rfl ⟨?_,rfl⟩;rw[HB.out];rfl
      ·have hb48:=yb7 h48
       have hg:=yaK (neg:=false) (p:=0) (t:=tx.data.toList) (by
        rintro (h | h | h)
        ·have:=HLEN.out;omega
        ·exact h48 ((yaT h0s).1 h.2)
        ·exact h48n h.2) HFR.out
       rw[HLEN.out,HL.out,List.drop_eq_nil_of_le (by rw[yq];omega),yct] at hg;have HG:=Lib.hid hg;clear h48 hg h48n;go_wp2
       (try simp only[Exit.inBlock,Exit.then])
       refine bodyPost_ret (yn rfl _ _ _) rfl ⟨?_,rfl⟩;rw[HG.out];rfl
     ·have hg:=yaK (neg:=false) (p:=0) (t:=tx.data.toList) (by
        rintro (h | h | h)
        ·have:=HLEN.out;omega
        ·have:=HLEN.out;omega
        ·cases h.1) HFR.out
      rw[HLEN.out,HL.out,List.drop_eq_nil_of_le (by rw[yq];omega),yct] at hg;have HG:=Lib.hid hg;clear hg;go_wp2
      (try simp only[Exit.inBlock,Exit.then])
      refine bodyPost_ret (yn rfl _ _ _) rfl ⟨?_,rfl⟩;rw[HG.out];rfl
   ·rw[yq] at hdt2
    obtain⟨wh,hwh⟩:∃ wh,tx.extract 0 dt=wh:=⟨_,rfl⟩
    obtain⟨pt,hpt⟩:∃ pt,tx.extract (dt+1) tx.size=pt:=⟨_,rfl⟩
    have hwd:wh.data.toList=yD tx.data.toList:=by rw[<- hwh,yh4,yaC tx.data.toList,hL]
    have hpd:pt.data.toList=tx.data.toList.drop (dt+1):=by rw[<- hpt,ya3]
    have hws:wh.size=dt:=by rw[<- yq,hwd,<- hL]
    have hps:pt.size=tx.size-(dt+1):=by rw[<- yq,hpd,List.length_drop,yq]
    have hws1:wh.size<=dt:=by omega
    have hws2:dt<=wh.size:=by omega
    have hptm:pt.size<=tx.size:=by omega
    rw[<- hpd] at hda hdr;have HL:=Lib.hid hL;have HWD:=Lib.hid hwd;have HPD:=Lib.hid hpd;have HDR:=Lib.hid hdr;have HDA:=Lib.hid hda;have HPS:=Lib.hid hps;clear hdone hL hwd hpd hdr hda hws hps HS
    cases hf:y9 (46::pt.data.toList) with
    | none =>
     have HB:=Lib.hid (yaJ (neg:=false) (t:=tx.data.toList) (by rw[HDR.out];exact hf))
     rcases ygi hf HDA.out with h | h | h
     ·rw[yq] at h
      clear hf;go_wp2
      (try simp only[Exit.inBlock,Exit.then])
      refine bodyPost_ret (yn rfl _ _ _) rfl ⟨?_,rfl⟩;rw[HB.out];rfl
     ·rw[yq] at h
      clear hf;go_wp2
      (try simp only[Exit.inBlock,Exit.then])
      refine bodyPost_ret (yn rfl _ _ _) rfl ⟨?_,rfl⟩;rw[HB.out];rfl
     ·by_cases hp0:pt.size<1
      ·clear hf h
       go_wp2
       (try simp only[Exit.inBlock,Exit.then])
       refine bodyPost_ret (yn rfl _ _ _) rfl ⟨?_,rfl⟩;rw[HB.out];rfl
      ·by_cases hp3:3<pt.size
       ·clear hf h
        go_wp2
        (try simp only[Exit.inBlock,Exit.then])
        refine bodyPost_ret (yn rfl _ _ _) rfl ⟨?_,rfl⟩;rw[HB.out];rfl
       ·have hin:pt.size-1<pt.size:=by omega
        rw[yg5 hin] at h;have hb48:=ybx (c:=pt[pt.size-1]) (by rw[Option.some.inj h];rfl);clear hf h;go_wp2
        (try simp only[Exit.inBlock,Exit.then])
        refine bodyPost_ret (yn rfl _ _ _) rfl ⟨?_,rfl⟩;rw[HB.out];rfl
    | some p =>
     obtain⟨hp1,hp3,hpl⟩:=yh5 hf;rw[yq] at hp1 hp3;have hin:pt.size-1<pt.size:=by omega
     rw[yg5 hin] at hpl;have hbl:=yb7 (c:=pt[pt.size-1]) (fun h=>hpl (congrArg some (UInt8.toNat_inj.1 h)));have hpe:=ycU (b:=pt) (by omega);have HF:Hid (y9 (tx.data.toList.drop (yD tx.data.toList).length)=some p):=Lib.hid (by rw[HDR.out];exact hf);clear hf hpl
     by_cases h0:dt=0
     ·have hemp:=ydw (b:=wh) (by omega)
      have HB:=Lib.hid (yaG (neg:=false) (t:=tx.data.toList) (Or.inl (by rw[<- HL.out];exact h0)));clear h0;go_wp2
      (try simp only[Exit.inBlock,Exit.then])
      refine bodyPost_ret (yn rfl _ _ _) rfl ⟨?_,rfl⟩;rw[HB.out];rfl
     ·have h0s:0<wh.size:=by omega
      have hemp:=ycU h0s;have hhd:wh.data.toList.head?=tx.data.toList.head?:=by rw[HWD.out];exact yeG (by rw[<- HL.out];exact h0)
      have HHD:=Lib.hid hhd
      have hnb:tx.data.toList≠[48]:=by
       intro h;have e:=HDR.out;rw[h] at e;simp[yD,yL] at e
      clear h0 hhd
      by_cases h1:1<dt
      ·have h1w:1<wh.size:=by omega
       have hone:=ygg (b:=wh) (fun h=>by have:=yq wh;rw[h] at this;simp at this;omega)
       by_cases h48:wh[0].toNat=48
       ·have hb48:=ybx h48
        have HB:=Lib.hid (yaG (neg:=false) (t:=tx.data.toList) (Or.inr (Or.inl ⟨by rw[<- HL.out];exact h1,by rw[<- HHD.out];exact(yaT h0s).2 h48⟩)));clear h48 hnb;go_wp2
        (try simp only[Exit.inBlock,Exit.then])
        refine bodyPost_ret (yn rfl _ _ _) rfl ⟨?_,rfl⟩;rw[HB.out];rfl
       ·have hb48:=yb7 h48
        have hg:=yaK (neg:=false) (t:=tx.data.toList) (by
         rintro (h | h | h)
         ·rw[<- HL.out] at h;omega
         ·rw[<- HHD.out] at h;exact h48 ((yaT h0s).1 h.2)
         ·exact hnb h.2) HF.out
        rw[<- HL.out,<- HPD.out,<- HWD.out,yct,yct] at hg;have HG:=Lib.hid hg;clear h48 hg hnb;go_wp2
        (try simp only[Exit.inBlock,Exit.then])
        refine bodyPost_ret (yn rfl _ _ _) rfl ⟨?_,rfl⟩;rw[HG.out];rfl
      ·have h1w:¬ 1<wh.size:=by omega
       have hg:=yaK (neg:=false) (t:=tx.data.toList) (by
        rintro (h | h | h)
        ·rw[<- HL.out] at h;omega
        ·rw[<- HL.out] at h;omega
        ·exact hnb h.2) HF.out
       rw[<- HL.out,<- HPD.out,<- HWD.out,yct,yct] at hg;have HG:=Lib.hid hg;clear hg hnb;go_wp2
       (try simp only[Exit.inBlock,Exit.then])
       refine bodyPost_ret (yn rfl _ _ _) rfl ⟨?_,rfl⟩;rw[HG.out];rfl
end Go.Proofs.YtgmidodmmlmmeaaGreatDoor
