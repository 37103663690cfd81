/-
  The library's slices.Grow at attributes, maps.Keys at a map from strings to strings, slices.Sorted at strings. Condition: lengths.
  The library's slices.Concat at two lists of attributes. Condition: the lists' lengths.
  What Merge of the landed code answers. Condition: the lists' lengths.
  What Merge of the landed code answers: the walk. Condition: the lists' lengths.
-/
import Derived.Shelf.Spec.SlicesGrow
import Derived.Shelf.SlIter.Nil
import Derived.Test.YtcdoicgbjoikkaaGreatDoorMcg
import Derived.Laws.AppendOwnNone
namespace Go.Proofs.YtcdoicgbjoikkaaGreatDoor.att
open Go.RowKit Go.Maps Go.Sort Go.Shelf lex tre
def lays_grow_ren:Go.Shelf.Ren:=⟨fun | 4=>156 | n=>n,fun | 0=>0 | 3=>3 | 4=>4 | 9=>9 | 20=>20 | 22=>54 | 25=>82 | n=>n,fun | n=>n⟩
theorem lays_grow:Go.Proofs.Lays8.n4 Tryz.prog lays_grow_ren:={
 mixed:=by kernel_rfl
 f4:=⟨Tryz.f156.name,by decide,Tryz.func156.trans (congrArg some (by kernel_rfl))⟩
 t0:=Tryz.underlying0
 a0:=Tryz.isAgg0
 z0:=Tryz.sizeOf0
 v0:=Tryz.zeroValue0
 t3:=Tryz.underlying3
 a3:=Tryz.isAgg3
 z3:=Tryz.sizeOf3
 v3:=Tryz.zeroValue3
 t4:=Tryz.underlying4
 a4:=Tryz.isAgg4
 z4:=Tryz.sizeOf4
 v4:=Tryz.zeroValue4
 t9:=Tryz.underlying9
 a9:=Tryz.isAgg9
 z9:=Tryz.sizeOf9
 v9:=Tryz.zeroValue9
 t20:=Tryz.underlying20
 a20:=Tryz.isAgg20
 z20:=Tryz.sizeOf20
 v20:=Tryz.zeroValue20
 t22:=Tryz.underlying54
 a22:=Tryz.isAgg54
 z22:=Tryz.sizeOf54
 v22:=Tryz.zeroValue54 }
def lays_keys_ren:Go.Shelf.Ren:=⟨fun | 7=>137 | 10=>159 | n=>n,fun | 0=>0 | 4=>4 | 23=>178 | 26=>9 | 27=>153 | 28=>154 | 33=>92 | 3=>9 | n=>n,fun | n=>n⟩
theorem lays_keys:Go.Proofs.SlLaysZ.n7 Tryz.prog lays_keys_ren:={
 mixed:=by kernel_rfl
 f7:=⟨Tryz.f137.name,by decide,Tryz.func137.trans (congrArg some (by kernel_rfl))⟩
 f10:=⟨Tryz.f159.name,by decide,Tryz.func159.trans (congrArg some (by kernel_rfl))⟩
 t0:=Tryz.underlying0
 a0:=Tryz.isAgg0
 z0:=Tryz.sizeOf0
 v0:=Tryz.zeroValue0
 t4:=Tryz.underlying4
 a4:=Tryz.isAgg4
 z4:=Tryz.sizeOf4
 v4:=Tryz.zeroValue4
 t23:=Tryz.underlying178
 a23:=Tryz.isAgg178
 z23:=Tryz.sizeOf178
 v23:=Tryz.zeroValue178
 t26:=Tryz.underlying9
 a26:=Tryz.isAgg9
 z26:=Tryz.sizeOf9
 v26:=Tryz.zeroValue9
 t27:=Tryz.underlying153
 a27:=Tryz.isAgg153
 z27:=Tryz.sizeOf153
 v27:=Tryz.zeroValue153
 t28:=Tryz.underlying154
 a28:=Tryz.isAgg154
 z28:=Tryz.sizeOf154
 v28:=Tryz.zeroValue154
 t33:=Tryz.underlying92
 a33:=Tryz.isAgg92
 z33:=Tryz.sizeOf92
 v33:=Tryz.zeroValue92 }
def lays_sorted_ren:Go.Shelf.Ren:=⟨fun | 6=>136 | 8=>157 | 9=>158 | 11=>168 | n=>n,fun | 0=>0 | 24=>42 | 26=>9 | 28=>154 | 33=>92 | n=>n,fun | n=>n⟩
theorem lays_sorted:Go.Proofs.SlLaysZ.n6 Tryz.prog lays_sorted_ren:={
 mixed:=by kernel_rfl
 f6:=⟨Tryz.f136.name,by decide,Tryz.func136.trans (congrArg some (by kernel_rfl))⟩
 f8:=⟨Tryz.f157.name,by decide,Tryz.func157.trans (congrArg some (by kernel_rfl))⟩
 f11:=⟨Tryz.f168.name,by decide,Tryz.func168.trans (congrArg some (by kernel_rfl))⟩
 t0:=Tryz.underlying0
 a0:=Tryz.isAgg0
 z0:=Tryz.sizeOf0
 v0:=Tryz.zeroValue0
 t24:=Tryz.underlying42
 a24:=Tryz.isAgg42
 z24:=Tryz.sizeOf42
 v24:=Tryz.zeroValue42
 t26:=Tryz.underlying9
 a26:=Tryz.isAgg9
 z26:=Tryz.sizeOf9
 v26:=Tryz.zeroValue9
 t28:=Tryz.underlying154
 a28:=Tryz.isAgg154
 z28:=Tryz.sizeOf154
 v28:=Tryz.zeroValue154
 i26:=by kernel_rfl }
theorem sorts_in (m:Nat):AnyZ.SortsIn Tryz.prog lays_sorted_ren Fence.wide m :=
 ⟨fun blk off cap ss W hH hblk hsz=>callsIn_wide.2 (Tryz.slices_Sort_string blk off cap ss W hH hblk hsz),
  fun p cap W=>callsIn_wide.2 (Tryz.slices_Sort_string_none p cap W)⟩
end Go.Proofs.YtcdoicgbjoikkaaGreatDoor.att
namespace Go.Proofs.YtcdoicgbjoikkaaGreatDoor.att
open Go.RowKit lex tre
def Arow (w:World)(B:Nat)(v:Value)(l:List Pr):Prop:=w.ownsRow B 82 2 v l.length (l.flatMap prC)
theorem Arow.prs {w:World}{B:Nat}{v:Value}{l:List Pr}(h:Arow w B v l)(hb:Bnd l):Prs w v l:=own_prs h hb
theorem append_nil_run {w:World}(ty B:Nat)(v:Value)(l:List Pr)(h:Arow w B v l)(c:Nat):(Builtin.append_ #[54,54] ty #[v,.slice none 0 c]).run Tryz.prog w=.ok v w:=by
 obtain ⟨i0,hi,_,_,_⟩:=info_of_cla
 have hu:=run_underlying Tryz.underlying54
 rcases h.2 with ⟨rfl,_⟩ | ⟨g,cap,cur,rfl,_,_,hnc,_⟩
 ·simp [Builtin.append_,hu,sizeOf,typeInfo,hi,Builtin.lenOf,Builtin.firstCells]
 ·simp [Builtin.append_,hu,sizeOf,typeInfo,hi,Builtin.lenOf,Builtin.firstCells,hnc,storeCells]
theorem prs_cells {w:World}{A:Addr}{n cap:Nat}{l:List Pr}(h:Prs w (.slice (some A) n cap) l):∀ j u,(l.flatMap prC)[j]?=some u→w.cell? (A.add j)=some u:=by
 intro j u hj
 have hlen:=flat_len prC 2 (fun _=>rfl) l
 have hjl:j < l.length*2:=by
  rw [← hlen];exact (List.getElem?_eq_some_iff.1 hj).1
 have hi:j / 2 < l.length:=by omega
 obtain ⟨A',e,q0,q1,_⟩:=h.get hi
 cases e
 have hg:=flat_get prC 2 (fun _=>rfl) l (j / 2) (j % 2) hi (by omega)
 rw [show j / 2*2+j % 2=j by omega,hj] at hg
 rcases (by omega:j % 2=0∨j % 2=1) with h0 | h0
 ·rw [h0] at hg
  obtain rfl:u=.string (bb l[j / 2].1):=Option.some.inj hg
  rw [show j / 2*2=j by omega] at q0
  exact q0
 ·rw [h0] at hg
  obtain rfl:u=.string (bb l[j / 2].2):=Option.some.inj hg
  rw [add_one_of A j (by omega)]
  have eb:(A.add (j / 2*2)).block=A.block:=by unfold Addr.add;split <;> rfl
  have eo:(A.add (j / 2*2)).off+1=A.off+j:=by
   unfold Addr.add
   split
   ·rename_i h2;show A.off+1=A.off+j;omega
   ·show A.off+j / 2*2+1=A.off+j;omega
  rw [eb,eo] at q1
  exact q1
theorem app_prs {w:World}{ops:Array Oper}{rest:List Oper}{o:Oper}{a:Act}{Q:Exit→Act→World→Prop}
    (hg:o.guard=none) (p y:Operand) (ho:o.op=.call { callee:=.builtin .append,args:=#[p,y],argTypes:=#[54,54] })
    (B:Nat) (v:Value) (l m:List Pr) (ao:Option Addr) (cap:Nat) (hs:a.eval p=v) (hx:a.eval y=.slice ao m.length cap) (h:Hid (Arow w B v l)) (hm:Hid (Prs w (.slice ao m.length cap) m)) (hl:l.length+m.length≤1000000) (hB:B≤w.heap.size)
    (hK:∀ v' w',Arow w' B v' (l ++ m)→w.grownBy w' v.ownBlock→wpList Tryz.prog ops Q rest (a.put o.dst v') w'):wpList Tryz.prog ops Q (o :: rest) a w:=by
 obtain ⟨i0,hi,hz0,hz1,hz2⟩:=info_of_cla
 cases ao with
 | none =>
  obtain rfl:m=[]:=by
   obtain ⟨ao',cap',e,_,_,hA⟩:=hm.out
   cases e
   cases m with
   | nil=>rfl
   | cons x t=>obtain ⟨A,e,_⟩:=hA (by simp);cases e
  refine wpList_plain hg fun K hK2=>?_
  have hrun:=append_nil_run (w:=w) o.type B v l h.out cap
  rw [List.length_nil] at hx
  unfold Oper.wp
  simp [execOp,ho,resolve,invoke,builtin,hs,hx,hrun,Result.andThen]
  exact hK2 _ _ (hK v w (by rw [List.append_nil];exact h.out) (World.grownBy.refl w _))
 | some A =>
  refine wpList_append_own _ hg p y 54 ho B 82 i0 _ 2 32 Tryz.underlying54 hi hz0 hz1 hz2 rfl (by decide) v l.length _ hs h.out A m.length cap (m.flatMap prC) hx (flat_len prC 2 (fun _=>rfl) m) (prs_cells hm.out) ?_ (by unfold maxLen;omega) (by omega) hB ?_
  ·intro u hu
   obtain ⟨r,_,hr⟩:=List.mem_flatMap.1 hu
   simp only [prC,List.mem_cons,List.not_mem_nil,or_false] at hr
   rcases hr with rfl | rfl <;> rfl
  ·intro v' w' hown hgrow _
   refine hK v' w' ?_ hgrow
   unfold Arow
   rw [List.length_append,List.flatMap_append]
   exact hown
set_option maxHeartbeats 1000000 in
theorem grow_of (n:Nat)(w:World)(hn:n≤1000000) :
    Calls Tryz.prog 156 #[.slice none 0 0,.int .i64 n] w fun e w'=>(∃ ao cap,e=.returned (.slice ao 0 cap)∧Arow w' w.heap.size (.slice ao 0 cap) [])∧Below w.heap.size w w':=by
 obtain ⟨i0,hi,hz0,hz1,hz2⟩:=info_of_cla
 by_cases h0:n=0
 ·subst h0
  exact (Any8.slices_Grow_room lays_grow none 0 0 0 w (Nat.le_refl _) (by omega) (by omega) (by omega)).mono fun e w' ⟨h1,h2⟩=>by
   subst h2
   exact ⟨⟨none,0,h1,World.ownsRow_nil _ _ _ _⟩,Below.refl _ _⟩
 ·refine (Any8.slices_Grow_grow lays_grow i0 _ hi hz0 (by omega) none 0 0 n [] w (Nat.le_refl _) (by omega) (by rw [hz2];omega) (by omega) (by simp) (fun _=>rfl) (fun a e=>by cases e)).mono fun e w' ⟨h1,h2⟩=>?_
  subst h2
  have hge:=grownCap_ge w (0+n) 0 (lays_grow_ren.t 25)
  have hle:=grownCap_le_maxLen w (0+n) 0 (lays_grow_ren.t 25) (by unfold maxLen;omega)
  refine ⟨⟨_,_,h1,by simp,Or.inr ⟨w.heap.size,_,_,rfl,Nat.le_refl _,heap_alloc_new w.drew _,Nat.zero_le _,hle,?_,by simp⟩⟩,((Below.refl _ w).drew).alloc (Nat.le_refl _) _⟩
  show (_ ++ _ ++ _:Array Value).size=_
  rw [Array.size_append,Array.size_append,size_zeroCells,size_zeroCells,show (Value.agg #[.string ⟨#[]⟩,.string ⟨#[]⟩]).cells.size=2 from rfl]
  simp only [List.size_toArray,List.length_nil]
  omega
set_option maxRecDepth 100000 in
set_option maxHeartbeats 4000000 in
theorem conc_of (v1 v2:Value)(l m:List Pr)(g:Nat)(w:World)(h1:Hid (Prs w v1 l))(h2:Hid (Prs w v2 m))(hl:l.length≤1000)(hm:m.length≤1000)(hg:Hid (Own2 w g v1 v2)) :
    Calls Tryz.prog 135 #[.slice (some ⟨g,0,none⟩) 2 2] w fun e w'=>(∃ v,e=.returned v∧Prs w' v (l ++ m))∧Below w.heap.size w w':=by
 obtain ⟨ao1,cap1,rfl,_,_,_⟩:=id h1.out
 obtain ⟨ao2,cap2,rfl,_,_,_⟩:=id h2.out
 have hb:Bnd (l ++ m):=Bnd.app (prs_bnd2 h1.out) (prs_bnd2 h2.out)
 obtain ⟨n,hn⟩:∃ n:Nat,l.length+m.length=n:=⟨_,rfl⟩
 have HB:=Lh hb
 have HN:=Lh hn
 have hn1:n≤2000:=by omega
 have c0:=hg.out.1
 have c1:=hg.out.2.1
 clear hb hn
 go_enter Tryz.func135,Tryz.ntmps135
 go_wp2_with fail
 go_loop [3,11] (fun sz iv=>(iv=.int .i64 0∧sz=.int .i64 0)∨(iv=.int .i64 1∧sz=.int .i64 l.length)∨(iv=.int .i64 2∧sz=.int .i64 n)) (fun _ iv=>3 - (intOf iv).toNat)
 case atStart=>exact Or.inl ⟨rfl,rfl⟩
 case round =>
  rcases hrel with ⟨rfl,rfl⟩ | ⟨rfl,rfl⟩ | ⟨rfl,rfl⟩
  ·go_wp2
   go_round
   case rel=>exact Or.inr (Or.inl ⟨rfl,by go_num⟩)
   case measure=>simp [intOf]
  ·have e1:(l.length:Int)+(m.length:Int)=(n:Int):=by have:=HN.out;omega
   have e2:¬ ((n:Int) < 0):=by omega
   go_wp2
   go_round
   case rel=>exact Or.inr (Or.inr ⟨rfl,rfl⟩)
   case measure=>simp [intOf]
  ·clear c0 c1
   go_wp2_with fail
   refine (grow_of n w (by omega)).mono ?_
   rintro e w1 ⟨⟨ao3,cap3,rfl,hr3⟩,hb1⟩
   have HB1:=Lh hb1
   have HR3:=Lh hr3
   clear hb1 hr3
   go_wp2_with fail
   go_loopw [6,27] (fun nv iv wr=>∃ (p:List Pr) (ao:Option Addr) (cap:Nat),nv=.slice ao p.length cap∧Arow wr w.heap.size (.slice ao p.length cap) p∧Below w.heap.size w wr∧((iv=.int .i64 0∧p=[])∨(iv=.int .i64 1∧p=l)∨(iv=.int .i64 2∧p=l ++ m))) (fun _ iv _=>3 - (intOf iv).toNat)
   case atStart=>exact ⟨[],ao3,cap3,rfl,HR3.out,HB1.out,Or.inl ⟨rfl,rfl⟩⟩
   case round =>
    obtain ⟨p,ao,cap,rfl,hrow,hbw,hor⟩:=hrel
    rename World=>wr
    have HBW:=Lh hbw
    have HROW:=Lh hrow
    have hz:=hbw.size
    obtain ⟨c0,c1,_,_⟩:=hg.out.keep hbw
    have k1:=Lh (h1.out.keep hbw)
    have k2:=Lh (h2.out.keep hbw)
    clear hbw hrow HB1 HR3
    rcases hor with ⟨rfl,rfl⟩ | ⟨rfl,rfl⟩ | ⟨rfl,rfl⟩
    ·go_wp2_with (at_builtin;refine app_prs rfl (.tmp 31) (.tmp 32) rfl w.heap.size _ [] l ao1 cap1 rfl rfl HROW k1 (by first | omega | (simp;omega)) hz ?_;intro v4 w4 hrow4 hgr4;obtain ⟨ao4,cap4,rfl,_,_⟩:=own_form hrow4)
     have HB4:=HBW.out.grown hgr4 hz (fun q hq=>(World.ownsRow.lt HROW.out q hq).1)
     go_roundw
     case rel=>exact ⟨[] ++ l,ao4,cap4,rfl,hrow4,HB4,Or.inr (Or.inl ⟨rfl,by simp⟩)⟩
     case measure=>simp [intOf]
    ·go_wp2_with (at_builtin;refine app_prs rfl (.tmp 31) (.tmp 32) rfl w.heap.size _ p m ao2 cap2 rfl rfl HROW k2 (by first | omega | (simp;omega)) hz ?_;intro v4 w4 hrow4 hgr4;obtain ⟨ao4,cap4,rfl,_,_⟩:=own_form hrow4)
     have HB4:=HBW.out.grown hgr4 hz (fun q hq=>(World.ownsRow.lt HROW.out q hq).1)
     go_roundw
     case rel=>exact ⟨p ++ m,ao4,cap4,by rw [List.length_append],hrow4,HB4,Or.inr (Or.inr ⟨rfl,rfl⟩)⟩
     case measure=>simp [intOf]
    ·go_wp2
     go_ret
     exact ⟨⟨_,rfl,HROW.out.prs HB.out⟩,HBW.out⟩
def vlF (L:List Pr)(x:List UInt8):Value × Bool:=(.string (bb (getL L x).1),(getL L x).2)
theorem vlF_snoc (L:List Pr)(a:Pr):(fun x=>if x=a.1 then (Value.string (bb a.2),true) else vlF L x)=vlF (L ++ [a]):=by
 funext x
 unfold vlF
 rw [getL_snoc]
 by_cases h:x=a.1
 ·rw [if_pos h,if_pos h.symm]
 ·rw [if_neg h,if_neg (fun e=>h e.symm)]
theorem asc_lt:∀ {l:List Pr},Asc l→(l.map Prod.fst).Pairwise (· < ·)
 | [],_=>List.Pairwise.nil
 | x :: t,h=>List.Pairwise.cons (fun y hy=>by obtain ⟨a,ha,rfl⟩:=List.mem_map.1 hy;exact h.1 a ha) (asc_lt h.2)
theorem own_size {w:World}{k:TypeId}{b n:Nat}{D:DataW Value}(h:w.ownsMap Tryz.prog k heldR b n D):Maps.size D≤n:=by
 obtain ⟨es,clock,hb,F,hs,rfl⟩:=h
 show (List.foldr DataW.insert [] _).length≤n
 rw [length_sorted]
 simpa using hs
theorem ks_perm {w:World}{b n:Nat}{D:DataW Value}{L:List Pr}(h:mAt (.string ⟨#[]⟩) w b n D (vlF L)){ss:List (List UInt8)}(hp:ss.Perm (strKeys D)) :
    ss.mergeSort (fun x y=>decide (x≤y))=(sortL L).map Prod.fst:=by
 obtain ⟨es,rfl,hpw⟩:=h.1.tidy (Maps.string_keyed Tryz.underlying9)
 obtain ⟨es',e,hk⟩:=h.1.keysOf
 cases e
 have hlt:=asc_lt (sort_ok L).1
 have hnd:((sortL L).map Prod.fst).Nodup:=by
  unfold List.Nodup
  refine List.Pairwise.imp ?_ hlt
  intro a b hab e
  subst e
  exact lt_irr _ hab
 have h0:((sortL L).map Prod.fst).Perm (strKeys (.map es:DataW Value)):=by
  refine perm_strKeys hpw (fun p hp'=>?_) hnd (fun x=>?_)
  ·obtain ⟨key,hkey⟩:=hk p hp'
   obtain ⟨x,_,hx,_⟩:=Maps.keyOf_str Tryz.underlying9 hkey
   exact ⟨x,hx⟩
  ·rw [(h.2.2 x).2]
   show _ ↔ (getL L x).2=true
   rw [← (sort_ok L).2,getL_mem]
   exact List.mem_map
 rw [mergeSort_of_perm (hp.trans h0.symm)]
 exact List.mergeSort_of_pairwise (hlt.imp (fun hab=>by rw [decide_eq_true_eq];exact List.le_of_lt hab))
theorem keys_of (mb:Option Nat)(w:World):Calls Tryz.prog 137 #[.map mb] w fun e w'=>e=.returned (.func (.func 159) #[] #[.pointer (some ⟨w.heap.size,0,none⟩)])∧w'=w.alloc (.cells #[.map mb] 178) :=
 callsIn_wide.1 (AnyZ.keys_in lays_keys Fence.wide 5 trivial rfl mb w)
theorem sorted_of (b n B:Nat)(D:DataW Value)(L:List Pr)(w:World)(hm:Hid (mAt (.string ⟨#[]⟩) w b n D (vlF L)))(hB:Hid (w.cell? ⟨B,0,none⟩=some (.map (some b))))(hn:n≤1000) :
    Calls Tryz.prog 136 #[.func (.func 159) #[] #[.pointer (some ⟨B,0,none⟩)]] w fun e w' =>
     (∃ v,e=.returned v∧w'.ownsRow w.heap.size 9 1 v (sortL L).length ((sortL L).map fun a=>Value.string (bb a.1)))∧Below w.heap.size w w':=by
 have hsz:=own_size hm.out.1
 have hseq:SeqGives Fence.wide 2 Tryz.prog 159 #[.pointer (some ⟨B,0,none⟩)] encStr (fun ss=>ss.Perm (strKeys D)) (Maps.size D) w :=
  AnyZ.keys_gives (ρ:=lays_keys_ren) { lays_keys with } Fence.wide 2 trivial rfl (by omega) B b n D _ (World.block_lt_of_cell? w _ hB.out) hB.out hm.out.1
 have cS:=AnyZ.sorted_in lays_sorted Fence.wide 5 trivial trivial trivial trivial rfl (by omega) (sorts_in _) (enters_of Tryz.func158 (by kernel_rfl) rfl) 159 #[.pointer (some ⟨B,0,none⟩)] trivial (enters_of Tryz.func159 (by kernel_rfl) rfl) _ _ (by unfold maxLen;omega) (by omega) _ hseq
 refine (callsIn_wide.1 cS).mono fun e w' ⟨v,ss,h1,hS,hrow,_,hb⟩=>⟨⟨v,h1,?_⟩,hb⟩
 have hk:=ks_perm hm.out hS
 rw [hk,List.map_map] at hrow
 have hl:ss.length=(sortL L).length:=by
  have:=congrArg List.length hk
  rw [List.length_mergeSort,List.length_map] at this
  exact this
 rw [hl] at hrow
 exact hrow
theorem prs_grown {w w':World}{v:Value}{l:List Pr}{b:Nat}(h:Prs w v l)(hg:w.grownBy w' (some b))(hb:∃ o:Obj,w.heap[b]?=some o∧o.isCells=false):Prs w' v l:=by
 obtain ⟨ao,cap,rfl,hc,hm,hA⟩:=h
 refine ⟨ao,cap,rfl,hc,hm,fun hn=>?_⟩
 obtain ⟨A,rfl,h2⟩:=hA hn
 exact ⟨A,rfl,fun i hi=>⟨cell_kept (h2 i hi).1 hg (fun r e=>by cases e;exact hb),cell_kept (h2 i hi).2.1 hg (fun r e=>by cases e;exact hb),(h2 i hi).2.2⟩⟩
theorem mAt.map {z:Value}{w:World}{b n:Nat}{D:DataW Value}{F:List UInt8→Value × Bool}(h:mAt z w b n D F):∃ o:Obj,w.heap[b]?=some o∧o.isCells=false:=by
 obtain ⟨es,clock,hb,_⟩:=h.1
 exact ⟨_,hb,rfl⟩
theorem asc_get:∀ {l:List Pr},Asc l→∀ {a:Pr},a∈l→getL l a.1=(a.2,true)
 | [],_,_,h=>(nomatch h)
 | x :: t,hs,a,h=>by
  rw [getL_cons]
  rcases List.mem_cons.1 h with rfl | h
  ·rw [getL_far (l:=t) (fun y hy e=>lt_irr a.1 (by have:=hs.1 y hy;rwa [e] at this))]
   simp
  ·rw [asc_get hs.2 h];rfl
theorem str_zero (w:World):(zeroValue 9).run Tryz.prog w=.ok (.string ⟨#[]⟩) w:=Tryz.zeroValue9 w
theorem info_of_at:∃ i,Tryz.prog.info? 82=some i∧i.zero=some (.agg #[.string ⟨#[]⟩,.string ⟨#[]⟩])∧i.size=2∧i.bytes=32:=info_of_cla
set_option maxRecDepth 100000 in
set_option maxHeartbeats 8000000 in
theorem merge10T_of (v1 v2:Value)(l m:List Pr)(w:World)(h1:Hid (Prs w v1 l))(h2:Hid (Prs w v2 m))(hl:l.length≤60)(hm:m.length≤60) :
    Calls Tryz.prog 97 #[v1,v2] w fun e w'=>∃ v',e=.returned v'∧PrsT w' v' (mergeL l m)∧Below w.heap.size w w':=by
 obtain ⟨ao1,cap1,rfl,_,_,_⟩:=id h1.out
 obtain ⟨ao2,cap2,rfl,_,_,_⟩:=id h2.out
 have HBD:=Lh (Bnd.app (prs_bnd2 h1.out) (prs_bnd2 h2.out))
 obtain ⟨L,hL⟩:∃ L,l ++ m=L:=⟨_,rfl⟩
 have hLl:L.length≤120:=by rw [← hL,List.length_append];omega
 have hM:mergeL l m=sortL L:=by unfold mergeL;rw [hL]
 rw [hM]
 rw [hL] at HBD
 have HL:=Lh hL
 have hMl:(sortL L).length≤120:=Nat.le_trans (sort_len L) hLl
 have B0:=al1 w (.map #[] 0)
 have m0:=mAt_made (.string ⟨#[]⟩) w
 have hz0:(w.alloc (.map #[] 0)).heap.size=w.heap.size+1:=by simp
 have k1:=h1.out.keep B0
 have k2:=h2.out.keep B0
 generalize hw0:w.alloc (.map #[] 0)=w0 at B0 m0 hz0 k1 k2
 have B1:=al1 w0 (.cells #[.slice ao1 l.length cap1,.slice ao2 m.length cap2] 54)
 have o2:=own2_new w0 (.slice ao1 l.length cap1) (.slice ao2 m.length cap2) 54
 have q1:=Lh (k1.keep B1)
 have q2:=Lh (k2.keep B1)
 have m1:=m0.keep B1
 have HB1:=Lh (below_keep B1 B0)
 rw [hz0] at o2
 have HO:=Lh o2
 have HM1:=Lh m1
 have hmm:=@run_makeMap Tryz.prog
 clear hL hM k1 k2 B0 B1 m0 m1 o2 h1 h2
 go_enter Tryz.func97,Tryz.ntmps97
 go_wp2_with fail
 clear hw0
 refine (conc_of _ _ l m (w.heap.size+1) _ q1 q2 (by omega) (by omega) HO).mono ?_
 rintro e w2 ⟨⟨lv,rfl,hlv⟩,hb2⟩
 rw [HL.out] at hlv
 obtain ⟨ao3,cap3,rfl,_,_,_⟩:=id hlv
 have HB2:=Lh (below_keep hb2 HB1.out)
 have HM2:=Lh (HM1.out.keep hb2)
 have HLV:=Lh hlv
 clear hlv hb2 HB1 HM1 q1 q2 HO HL hmm hz0
 go_wp2_with fail
 go_loopw [17] (fun iv wr=>∃ (j:Nat) (D:DataW Value),iv=.int .i64 j∧j≤L.length∧Below w.heap.size w wr∧mAt (.string ⟨#[]⟩) wr w.heap.size j D (vlF (L.take j))∧Prs wr (.slice ao3 L.length cap3) L) (fun iv _=>L.length - (intOf iv).toNat)
 case atStart=>exact ⟨0,_,rfl,Nat.zero_le _,HB2.out,HM2.out,HLV.out⟩
 case round =>
  obtain ⟨j,D,rfl,hj,hbw,hmw,hlw⟩:=hrel
  rename World=>wr
  have HBW:=Lh hbw
  have HMW:=Lh hmw
  have HLW:=Lh hlw
  have hzb:=hmw.lt
  clear hbw hmw hlw HB2 HM2 HLV
  by_cases hlt:j < L.length
  ·obtain ⟨A,rfl,c0,c1,-,-⟩:=HLW.out.get hlt
   have hbd:=HBD.out L[j] (List.getElem_mem hlt)
   have htk:=List.take_succ_eq_append_getElem hlt
   obtain ⟨u,hu⟩:∃ u,L[j]=u:=⟨_,rfl⟩
   rw [hu] at c0 c1 hbd htk
   obtain ⟨u1,u2⟩:=u
   simp only at c0 c1 hbd
   have hal:=al1 wr (.cells #[.string (bb u1),.string (bb u2)] 82)
   have HB3:=below_keep hal HBW.out
   have mk:=HMW.out.keep hal
   have pk:=HLW.out.keep hal
   obtain ⟨w4,hrun,m4,g4⟩:=mk.put Tryz.underlying178 (bb u1) (.string (bb u2)) (by rw [bb_len];exact hbd.1) (by unfold maxLen;omega)
   have p4:=Lh (prs_grown pk g4 mk.map)
   have HB4:=Lh (below_put HB3 g4 (Nat.le_refl _))
   have HM4:Hid (mAt (.string ⟨#[]⟩) w4 w.heap.size (j+1) (D.put (.string u1) (.held (.string (bb u2)))) (vlF (L.take (j+1)))):=Lh (by
    rw [htk,← vlF_snoc]
    exact m4)
   have i0:(0:Int)≤(j:Int):=by omega
   have i1:(j:Int) < (L.length:Int):=by omega
   clear hal HB3 mk pk m4 g4 htk hu hbd
   go_wp2
   go_roundw
   case rel=>exact ⟨j+1,_,by go_num,by omega,HB4.out,HM4.out,p4.out⟩
   case measure=>simp [intOf];omega
  ·obtain rfl:j=L.length:=by omega
   have HMW2:Hid (mAt (.string ⟨#[]⟩) wr w.heap.size L.length D (vlF L)):=Lh (by have:=HMW.out;rw [List.take_length] at this;exact this)
   clear HMW HLW
   go_wp2_with fail
   refine (keys_of (some w.heap.size) wr).mono ?_
   rintro e w3' ⟨rfl,rfl⟩
   have hal:=al1 wr (.cells #[.map (some w.heap.size)] 178)
   have HB3:=Lh (below_keep hal HBW.out)
   have HM3:=Lh (HMW2.out.keep hal)
   have hcell:Hid ((wr.alloc (.cells #[.map (some w.heap.size)] 178)).cell? ⟨wr.heap.size,0,none⟩=some (.map (some w.heap.size))):=Lh (Boxed.new wr 178 (.map (some w.heap.size))).cell
   clear hal
   go_wp2_with fail
   generalize wr.alloc (.cells #[.map (some w.heap.size)] 178)=w3 at HB3 HM3 hcell ⊢
   refine (sorted_of w.heap.size L.length wr.heap.size D L w3 HM3 hcell (by omega)).mono ?_
   rintro e w4 ⟨⟨kv,rfl,hrow⟩,hb4⟩
   have hnl:Nl w4 kv ((sortL L).map Prod.fst):=Nrow.nl (B:=w3.heap.size) (by
    unfold Nrow nmC
    rw [List.length_map,List.map_map]
    exact hrow)
   obtain ⟨ao4,cap4,rfl,_,_,_⟩:=id hnl
   rw [List.length_map] at hnl ⊢
   have HB4:=Lh (below_keep hb4 HB3.out)
   have HM4:=Lh (HM3.out.keep hb4)
   have HNL:=Lh hnl
   clear hrow hb4 hnl HB3 HM3 hcell HMW2 HBW
   obtain ⟨M,hMM⟩:∃ M,sortL L=M:=⟨_,rfl⟩
   have HGT:Hid (∀ a∈M,(vlF L a.1).1=.string (bb a.2)):=Lh (fun a ha=>by
    unfold vlF
    have hs:=(sort_ok L).2 a.1
    rw [hMM] at hs
    rw [← hs,asc_get (by rw [← hMM];exact (sort_ok L).1) ha])
   have HMB:Hid (Bnd M):=Lh (fun r hr=>HBD.out r (sort_mem L r (by rw [hMM];exact hr)))
   rw [hMM] at HNL hMl ⊢
   have HMM:=Lh hMM
   clear hMM
   go_wp2_with fail
   go_loopw [8,31] (fun ov iv wr=>∃ (i:Nat) (ao:Option Addr) (cap:Nat),iv=.int .i64 i∧i≤M.length∧ov=.slice ao i cap∧wr.ownsRow w4.heap.size 82 2 (.slice ao i cap) (M.take i).length ((M.take i).flatMap prC)∧Below w4.heap.size w4 wr) (fun _ iv _=>M.length - (intOf iv).toNat)
   case atStart=>exact ⟨0,none,0,rfl,Nat.zero_le _,rfl,World.ownsRow_nil _ _ _ _,Below.refl _ _⟩
   case round =>
    obtain ⟨i,ao,cap,rfl,hi,rfl,hrow,hbx⟩:=hrel
    rename World=>wx
    have HBX:=Lh hbx
    have HROW:=Lh hrow
    have hzx:=hbx.size
    clear hbx hrow
    by_cases hlt:i < M.length
    ·obtain ⟨A,rfl,c0⟩:=(HNL.out.keep HBX.out).get (show i < (M.map Prod.fst).length by rw [List.length_map];exact hlt)
     rw [List.getElem_map] at c0
     have hbd:=HMB.out M[i] (List.getElem_mem hlt)
     have hgt:=HGT.out M[i] (List.getElem_mem hlt)
     have htk:=List.take_succ_eq_append_getElem hlt
     have htl:(M.take i).length=i:=by rw [List.length_take];omega
     obtain ⟨u,hu⟩:∃ u,M[i]=u:=⟨_,rfl⟩
     rw [hu] at c0 hbd hgt htk
     have hrun:=(HM4.out.keep HBX.out).look Tryz.underlying178 str_zero (bb u.1) (by rw [bb_len];exact hbd.1)
     rw [show (vlF L (bb u.1).data.toList).1=.string (bb u.2) from hgt] at hrun
     have HTK:=Lh htk
     have i0:(0:Int)≤(i:Int):=by omega
     have i1:(i:Int) < (M.length:Int):=by omega
     have HTL:=Lh htl
     clear hu hbd hgt htk htl
     go_wp2_with (at_builtin;refine app_pr Tryz.underlying54 info_of_at rfl (.tmp 35) (.tmp 41) rfl w4.heap.size _ (M.take i) u _ rfl rfl rfl HROW (by rw [HTL.out];omega) hzx ?_;intro ao5 cap5 w5 hrow5 hgr5)
     have HB5:=Lh (HBX.out.grown hgr5 hzx (fun q hq=>(World.ownsRow.lt HROW.out q hq).1))
     rw [HTL.out,← HTK.out] at hrow5
     go_roundw
     case rel=>exact ⟨i+1,ao5,cap5,by go_num,by omega,rfl,hrow5,HB5.out⟩
     case measure=>simp [intOf];omega
    ·obtain rfl:i=M.length:=by omega
     go_wp2
     go_ret
     refine ⟨_,rfl,?_,below_keep HBX.out HB4.out⟩
     have hr:=HROW.out
     rw [List.take_length] at hr
     rw [HMM.out]
     show PrsT wx (.slice ao M.length cap) M
     exact own_prsT hr HMB.out
end Go.Proofs.YtcdoicgbjoikkaaGreatDoor.att
