/-
  What Merge of the reference returns. Condition: lists of at most 20000 attributes.
  What Number of the reference returns. Condition: values of at most 20000 bytes.
  What split of the reference returns: a row of texts. Condition: texts of at most 20000 bytes.
  What Mode and Side of the reference return. No condition.
-/
import Derived.Test.YtcdoicgbjoikkaaGreatDoorMcb
import Derived.Test.YtcdoicgbjoikkaaGreatDoorMtd
namespace Go.Proofs.YtcdoicgbjoikkaaGreatDoor.att
open Go.RowKit lex tre
theorem Bnd.sort {l:List Pr}(h:Bnd l):Bnd (sortL l):=fun r hr=>h r (sort_mem l r hr)
theorem Bnd.take {l:List Pr}(h:Bnd l)(k:Nat):Bnd (l.take k):=fun r hr=>h r (List.mem_of_mem_take hr)
theorem Bnd.app {l m:List Pr}(h:Bnd l)(k:Bnd m):Bnd (l ++ m):=fun r hr=>(List.mem_append.1 hr).elim (h r) (k r)
theorem prs_empty (w:World)(a:Option Addr):Prs w (.slice a 0 0) []:=⟨a,0,rfl,Nat.le_refl _,by decide,fun h=>absurd h (by simp)⟩
set_option maxRecDepth 100000 in
set_option maxHeartbeats 8000000 in
theorem rmergeT_of (v v2:Value)(l m:List Pr)(w:World)(h1:Hid (Prs w v l))(h2:Hid (Prs w v2 m))(hl:l.length≤20000)(hm:m.length≤20000)(hb1:Hid (Bnd l))(hb2:Hid (Bnd m)) :
    Calls Tryz.prog 38 #[v,v2] w fun e w'=>∃ v',e=.returned v'∧PrsT w' v' (mergeL l m)∧Below w.heap.size w w':=by
 obtain ⟨ao,cap,rfl,_,_,_⟩:=id h1.out
 obtain ⟨ao2,cap2,rfl,_,_,_⟩:=id h2.out
 have HB:=Lh (al1 w (.cells #[] 82))
 go_enter Tryz.func38,Tryz.ntmps38
 have HE0:Hid (PrsT (w.alloc (.cells #[] 82)) (.slice (some ⟨w.heap.size,0,none⟩) 0 0) (sortL (l.take 0))):=Lh ⟨prs_empty _ _,fun g hg=>by obtain rfl:w.heap.size=g:=Option.some.inj hg;exact ⟨_,_,heap_alloc_new w _⟩⟩
 go_wp2_with fail
 generalize w.alloc (.cells #[] 82)=w0 at HB HE0 ⊢
 go_loopw [5,6] (fun ov iv wr=>∃ (k:Nat),PrsT wr ov (sortL (l.take k))∧iv=.int .i64 k∧k≤l.length∧Below w.heap.size w wr) (fun _ iv _=>l.length - (intOf iv).toNat)
 case atStart=>exact ⟨0,HE0.out,rfl,Nat.zero_le _,HB.out⟩
 case round =>
  obtain ⟨k,hp,rfl,hk,hbl⟩:=hrel
  rename World=>wr
  obtain ⟨oo,oc,rfl,_,_,_⟩:=id hp.1
  have HP:=Lh hp
  have HBl:=Lh hbl
  clear hp hbl HB
  by_cases hlt:k < l.length
  ·obtain ⟨A,rfl,q0,q1,-,-⟩:=(h1.out.keep HBl.out).get hlt
   have hu3:=hb1.out l[k] (List.getElem_mem hlt)
   obtain ⟨u,hu⟩:∃ u,l[k]=u:=⟨_,rfl⟩
   have hs:putL (sortL (l.take k)) u=sortL (l.take (k+1)):=by rw [← hu,List.take_succ_eq_append_getElem hlt,sortL_snoc]
   rw [hu] at q0 q1 hu3
   obtain ⟨u1,u2⟩:=u
   simp only at q0 q1 hu3
   have i0:(0:Int)≤(k:Int):=by omega
   have i1:(k:Int) < (l.length:Int):=by omega
   have hsl:(sortL (l.take k)).length≤100000:=Nat.le_trans (sort_len _) (by rw [List.length_take];omega)
   have HS:=Lh hs
   have HBd:=Lh (hb1.out.take k).sort
   clear hs hu
   go_wp2_with fail
   refine (rputT_of _ (sortL (l.take k)) u1 u2 wr (Lh HP.out.1) hsl HBd (Lh hu3)).mono ?_
   rintro e w1 ⟨v1,rfl,hp1,hb1'⟩
   have HP1:=Lh hp1
   have HB1:=Lh (below_keep hb1' HBl.out)
   clear hp1 hb1'
   go_wp2
   go_roundw
   case rel=>exact ⟨k+1,by rw [← HS.out];exact HP1.out,by go_num,by omega,HB1.out⟩
   case measure=>simp [intOf];omega
  ·obtain rfl:k=l.length:=by omega
   have HP0:Hid (PrsT wr (.slice oo (sortL (l.take l.length)).length oc) (sortL (l ++ m.take 0))):=Lh (by have:=HP.out;rw [List.take_zero,List.append_nil];rwa [List.take_length] at this ⊢)
   clear HP
   go_wp2_with fail
   go_loopw [5,7] (fun ov iv wr=>∃ (k:Nat),PrsT wr ov (sortL (l ++ m.take k))∧iv=.int .i64 k∧k≤m.length∧Below w.heap.size w wr) (fun _ iv _=>m.length - (intOf iv).toNat)
   case atStart=>exact ⟨0,HP0.out,rfl,Nat.zero_le _,HBl.out⟩
   case round =>
    obtain ⟨k,hp,rfl,hk,hbl⟩:=hrel
    rename World=>wr
    obtain ⟨oo,oc,rfl,_,_,_⟩:=id hp.1
    have HP:=Lh hp
    have HBl:=Lh hbl
    clear hp hbl HP0
    by_cases hlt:k < m.length
    ·obtain ⟨A,rfl,q0,q1,-,-⟩:=(h2.out.keep HBl.out).get hlt
     have hu3:=hb2.out m[k] (List.getElem_mem hlt)
     obtain ⟨u,hu⟩:∃ u,m[k]=u:=⟨_,rfl⟩
     have hs:putL (sortL (l ++ m.take k)) u=sortL (l ++ m.take (k+1)):=by rw [← hu,List.take_succ_eq_append_getElem hlt,← List.append_assoc,sortL_snoc]
     rw [hu] at q0 q1 hu3
     obtain ⟨u1,u2⟩:=u
     simp only at q0 q1 hu3
     have i0:(0:Int)≤(k:Int):=by omega
     have i1:(k:Int) < (m.length:Int):=by omega
     have hsl:(sortL (l ++ m.take k)).length≤100000:=Nat.le_trans (sort_len _) (by rw [List.length_append,List.length_take];omega)
     have HS:=Lh hs
     have HBd:=Lh (hb1.out.app (hb2.out.take k)).sort
     clear hs hu
     go_wp2_with fail
     refine (rputT_of _ (sortL (l ++ m.take k)) u1 u2 wr (Lh HP.out.1) hsl HBd (Lh hu3)).mono ?_
     rintro e w1 ⟨v1,rfl,hp1,hb1'⟩
     have HP1:=Lh hp1
     have HB1:=Lh (below_keep hb1' HBl.out)
     clear hp1 hb1'
     go_wp2
     go_roundw
     case rel=>exact ⟨k+1,by rw [← HS.out];exact HP1.out,by go_num,by omega,HB1.out⟩
     case measure=>simp [intOf];omega
    ·obtain rfl:k=m.length:=by omega
     go_wp2
     go_ret
     exact ⟨_,rfl,by have:=HP.out;rwa [List.take_length] at this ⊢,HBl.out⟩
theorem rknown_at (k:Int)(s:ByteArray)(f lo hi no:Int)(w:World)(h:Hid (knownL k s.data.toList=⟨f,lo,hi,no⟩)) :
    Calls Tryz.prog 79 #[.int .i64 k,.string s] w fun e w'=>e=.returned (.agg #[.int .i64 f,.int .i64 lo,.int .i64 hi,.int .i64 no])∧Below w.heap.size w w':=rknown_of k s _ w h
theorem blk_below {w w':World}{g:Nat}{t:TypeId}{arr:Array Value}(h:blk w g t arr)(hb:Below w.heap.size w w'):blk w' g t arr:=by
 have:=blk_lt h
 unfold blk at h ⊢;rw [hb.block g this];exact h
theorem blk_free {W:World}{g o:Nat}{t:TypeId}{arr:Array Value}(h:blk W g t arr):W.frozen? ⟨g,o,none⟩=false:=by
 unfold blk at h;simp [World.frozen?,h]
theorem blk_set {W:World}{g o:Nat}{t:TypeId}{arr:Array Value}(h:blk W g t arr)(u:Value):blk (W.setCell ⟨g,o,none⟩ u) g t (arr.setIfInBounds o u):=by
 unfold blk at h ⊢
 unfold World.setCell
 rw [Array.getElem?_modify,if_pos rfl,h]
 rfl
def ruB (w:World)(g:Nat)(f lo hi no:Int):Prop:=blk w g 142 #[.int .i64 f,.int .i64 lo,.int .i64 hi,.int .i64 no]
theorem ruB.cells {w:World}{g:Nat}{f lo hi no:Int}(h:ruB w g f lo hi no):w.cell? ⟨g,0,none⟩=some (.int .i64 f)∧w.cell? ⟨g,1,none⟩=some (.int .i64 lo)∧w.cell? ⟨g,2,none⟩=some (.int .i64 hi)∧w.cell? ⟨g,3,none⟩=some (.int .i64 no) ∧
    w.frozen? ⟨g,0,none⟩=false∧w.frozen? ⟨g,1,none⟩=false∧w.frozen? ⟨g,2,none⟩=false∧w.frozen? ⟨g,3,none⟩=false:=by
 unfold ruB at h
 exact ⟨by rw [blk_cell h];rfl,by rw [blk_cell h];rfl,by rw [blk_cell h];rfl,by rw [blk_cell h];rfl,blk_free h,blk_free h,blk_free h,blk_free h⟩
theorem ruB.store {w:World}{g:Nat}{f lo hi no:Int}(h:ruB w g 0 0 0 0):ruB ((((w.setCell ⟨g,0,none⟩ (.int .i64 f)).setCell ⟨g,1,none⟩ (.int .i64 lo)).setCell ⟨g,2,none⟩ (.int .i64 hi)).setCell ⟨g,3,none⟩ (.int .i64 no)) g f lo hi no:=by
 unfold ruB at h ⊢
 have h1:=blk_set (o:=3) (blk_set (o:=2) (blk_set (o:=1) (blk_set (o:=0) h (.int .i64 f)) (.int .i64 lo)) (.int .i64 hi)) (.int .i64 no)
 simpa using h1
theorem getL_in {l:List Pr}{k x:List UInt8}(h:getL l k=(x,true)):∃ r∈l,r.2=x:=by
 induction l with
 | nil=>cases h
 | cons a t ih =>
  rw [getL_cons] at h
  split at h
  ·obtain ⟨r,h1,h2⟩:=ih h;exact ⟨r,List.mem_cons_of_mem _ h1,h2⟩
  ·split at h
   ·exact ⟨a,List.mem_cons_self,(Prod.mk.inj h).1⟩
   ·cases h
set_option maxRecDepth 100000 in
set_option maxHeartbeats 4000000 in
theorem rnum_of (k:Int)(v:Value)(l:List Pr)(s:ByteArray)(n:Int)(w:World)(h:Hid (Prs w v l))(hb:Hid (∀ r∈l,r.2.length≤20000))(hr:Hid (numL k l s.data.toList=n)) :
    Calls Tryz.prog 41 #[.int .i64 k,v,.string s] w fun e w'=>e=.returned (.int .i64 n)∧Below w.heap.size w w':=by
 obtain ⟨ao,cap,rfl,_,_,_⟩:=id h.out
 have hn:=hr.out
 unfold numL at hn
 obtain ⟨f,lo,hi,no,hx⟩:∃ f lo hi no,knownL k s.data.toList=⟨f,lo,hi,no⟩:=⟨_,_,_,_,rfl⟩
 have HX:=Lh hx
 rw [hx] at hn
 simp only at hn
 clear hr hx
 by_cases hf:f≠2∧f≠3
 ·rw [if_pos hf] at hn
  subst hn
  have b2:(f != 2)=true:=by rw [bne_iff_ne];exact hf.1
  have b3:(f != 3)=true:=by rw [bne_iff_ne];exact hf.2
  clear hf
  go_enter Tryz.func41,Tryz.ntmps41
  go_wp2_with fail
  refine (rknown_at k s f lo hi no _ HX).mono ?_
  rintro e w1 ⟨rfl,hb1⟩
  have HB2:=Lh (below_keep (al1 w1 (.cells #[.int .i64 f,.int .i64 lo,.int .i64 hi,.int .i64 no] 142)) hb1)
  go_wp2
  go_ret
  exact ⟨rfl,HB2.out⟩
 rw [if_neg hf] at hn
 have bp:((f != 2) && (f != 3))=false:=by
  by_cases e:f=2
  ·subst e;rfl
  ·by_cases e3:f=3
   ·subst e3;rfl
   ·exact absurd ⟨e,e3⟩ hf
 have hf2:f=2∨f=3:=by
  by_cases e:f=2
  ·exact Or.inl e
  ·by_cases e3:f=3
   ·exact Or.inr e3
   ·exact absurd ⟨e,e3⟩ hf
 clear hf bp
 obtain ⟨x,r,hg⟩:∃ x r,getL l s.data.toList=(x,r):=⟨_,_,rfl⟩
 have HG:=Lh hg
 rw [hg] at hn
 simp only at hn
 obtain ⟨b2,hb2⟩:∃ b,(f != 2)=b:=⟨_,rfl⟩
 have b3:b2=true→(f != 3)=false:=by
  intro e
  rcases hf2 with rfl | rfl
  ·rw [← hb2] at e;cases e
  ·rfl
 clear hg hf2
 cases r
 case false =>
  rw [if_pos rfl] at hn
  subst hn
  cases b2
  case' true=>have b3':=b3 rfl
  all_goals
   clear b3
   go_enter Tryz.func41,Tryz.ntmps41
   go_wp2_with fail
   refine (rknown_at k s f lo hi no _ HX).mono ?_
   rintro e w1 ⟨rfl,hb1⟩
   have HB2:=Lh (below_keep (al1 w1 (.cells #[.int .i64 f,.int .i64 lo,.int .i64 hi,.int .i64 no] 142)) hb1)
   have HK2:Hid (ruB (w1.alloc (.cells #[.int .i64 f,.int .i64 lo,.int .i64 hi,.int .i64 no] 142)) w1.heap.size f lo hi no):=Lh (blk_new w1 _ _)
   clear hb1
   go_wp2_with fail
   generalize w1.alloc (.cells #[.int .i64 f,.int .i64 lo,.int .i64 hi,.int .i64 no] 142)=w2 at HB2 HK2 ⊢
   generalize w1.heap.size=F at HK2 ⊢
   refine (rget_of _ l s x false w2 (Lh (h.out.keep HB2.out)) HG).mono ?_
   rintro e w3 ⟨rfl,rfl⟩
   obtain ⟨c0,c1,c2,c3,-,-,-,-⟩:=HK2.out.cells
   go_wp2
   go_ret
   exact ⟨rfl,HB2.out⟩
 rw [if_neg (by decide)] at hn
 have hxl:x.length≤20000:=by obtain ⟨q,q1,q2⟩:=getL_in HG.out;rw [← q2];exact hb.out q q1
 obtain ⟨m,o,hv⟩:∃ m o,valR ⟨f,lo,hi,no⟩ x=(m,o):=⟨_,_,rfl⟩
 have HV:Hid (valR ⟨f,lo,hi,no⟩ (bb x).data.toList=(m,o)):=Lh hv
 have HXl:Hid ((bb x).size≤20000):=Lh (by show x.toArray.size≤20000;simpa using hxl)
 rw [hv] at hn
 simp only at hn
 clear hv hxl
 have HN:=Lh hn
 clear hn
 cases b2
 case' true=>have b3':=b3 rfl
 all_goals
  clear b3
  go_enter Tryz.func41,Tryz.ntmps41
  go_wp2_with fail
  refine (rknown_at k s f lo hi no _ HX).mono ?_
  rintro e w1 ⟨rfl,hb1⟩
  have HB2:=Lh (below_keep (al1 w1 (.cells #[.int .i64 f,.int .i64 lo,.int .i64 hi,.int .i64 no] 142)) hb1)
  have HK2:Hid (ruB (w1.alloc (.cells #[.int .i64 f,.int .i64 lo,.int .i64 hi,.int .i64 no] 142)) w1.heap.size f lo hi no):=Lh (blk_new w1 _ _)
  clear hb1
  go_wp2_with fail
  generalize w1.alloc (.cells #[.int .i64 f,.int .i64 lo,.int .i64 hi,.int .i64 no] 142)=w2 at HB2 HK2 ⊢
  generalize w1.heap.size=F at HK2 ⊢
  refine (rget_of _ l s x true w2 (Lh (h.out.keep HB2.out)) HG).mono ?_
  rintro e w3 ⟨rfl,rfl⟩
  obtain ⟨c0,c1,c2,c3,-,-,-,-⟩:=HK2.out.cells
  go_wp2_with fail
  refine (rvalue_of f lo hi no (bb x) m o w2 HXl.out HV).mono ?_
  rintro e w4 ⟨rfl,hb4⟩
  have HB4:=Lh (below_keep hb4 HB2.out)
  have HK4:Hid (ruB w4 F f lo hi no):=Lh (blk_below HK2.out hb4)
  clear hb4 c0 c1 c2 c3 HK2
  obtain ⟨c0,c1,c2,c3,-,-,-,-⟩:=HK4.out.cells
  cases o
  ·have hn:=HN.out
   rw [if_neg (by decide)] at hn
   subst hn
   go_wp2
   go_ret
   exact ⟨rfl,HB4.out⟩
  ·have hn:=HN.out
   rw [if_pos rfl] at hn
   subst hn
   go_wp2
   go_ret
   exact ⟨rfl,HB4.out⟩
def Brow (w:World)(B:Nat)(v:Value)(l:List ByteArray):Prop:=w.ownsRow B 9 1 v l.length (l.map Value.string)
theorem app_txt {w:World}{ops:Array Oper}{rest:List Oper}{o:Oper}{a:Act}{Q:Exit→Act→World→Prop}(hg:o.guard=none)(p y:Operand)(ho:o.op=.call { callee:=.builtin .append,args:=#[p,y],argTypes:=#[42,42] })
    (B:Nat) (v:Value) (l:List ByteArray) (x:ByteArray) (H:Nat) (hH:w.heap.size=H) (hs:a.eval p=v) (hx:a.eval y=.slice (some ⟨H,0,none⟩) 1 1) (h:Hid (Brow w B v l)) (hl:l.length≤1000000) (hB:B≤w.heap.size)
    (hK:∀ ao cap w',Brow w' B (.slice ao (l.length+1) cap) (l ++ [x])→w.grownBy w' v.ownBlock→wpList Tryz.prog ops Q rest (a.put o.dst (.slice ao (l.length+1) cap)) w'):wpList Tryz.prog ops Q (o :: rest) a (w.alloc (.cells #[.string x] 9)):=by
 subst hH
 obtain ⟨i0,hi,hz0,hz1,hz2⟩:=info_str1
 refine wpList_append_own _ hg p y 42 ho B 9 i0 (.string ⟨#[]⟩) 1 16 Tryz.underlying42 hi hz0 hz1 hz2 rfl (by decide) v l.length _ hs (World.ownsRow.alloc h.out _) ⟨w.heap.size,0,none⟩ 1 1 [.string x] hx rfl ?_ (by simp [Value.oneCell']) (by unfold maxLen;omega) (by omega) (by simp;omega) ?_
 ·intro j u hj
  rw [add_at,Nat.zero_add,blk_cell (blk_new w #[.string x] 9),← hj]
  simp
 ·intro v' w' hown hgrow _
  obtain ⟨ao,cap,rfl,_,_⟩:=own_form hown
  refine hK ao cap w' ?_ ?_
  ·unfold Brow;rw [List.length_append,List.map_append];exact hown
  ·refine ⟨hgrow.os,hgrow.tape,hgrow.output,Nat.le_trans (by simp) hgrow.size,fun k hk hne=>?_⟩
   rw [hgrow.block k (by simp;omega) hne,heap_alloc_old w _ hk]
def toL (x:ByteArray):List UInt8:=x.data.toList
theorem ext_L (s:ByteArray)(a b:Nat):(s.extract a b).data.toList=(s.data.toList.drop a).take (b - a):=by
 rw [ByteArray.data_extract,Array.toList_extract,List.extract_eq_take_drop]
theorem at_L (s:ByteArray)(i:Nat)(h:i < s.size):s.data.toList.drop i=s[i] :: s.data.toList.drop (i+1):=by
 rw [List.drop_eq_getElem_cons (by simpa using h)];rfl
theorem take_more (L:List UInt8)(f i:Nat)(h:i < L.length)(hf:f≤i):(L.drop f).take (i+1 - f)=(L.drop f).take (i - f) ++ [L[i]]:=by
 rw [show i+1 - f=(i - f)+1 by omega,List.take_succ_eq_append_getElem (by rw [List.length_drop];omega)]
 simp [show f+(i - f)=i by omega]
set_option maxRecDepth 100000 in
set_option maxHeartbeats 4000000 in
theorem rsplit_of (s:ByteArray)(w:World)(hs:s.size≤20000) :
    Calls Tryz.prog 124 #[.string s] w fun e w'=>∃ ao cap D,e=.returned (.slice ao D.length cap)∧Brow w' w.heap.size (.slice ao D.length cap) D∧D.map toL=splitL s.data.toList∧Below w.heap.size w w':=by
 obtain ⟨R,hR⟩:∃ R,splitL s.data.toList=R:=⟨_,rfl⟩
 have HR:Hid (splitA ((s.data.toList.drop 0).take (0 - 0)) (s.data.toList.drop 0)=R):=Lh (by rw [← hR];rfl)
 rw [hR]
 have HO:Hid (Brow (w.alloc (.cells #[] 9)) w.heap.size (.slice (some ⟨w.heap.size,0,none⟩) 0 0) []):=Lh (World.ownsRow_made (base:=w.heap.size) (e:=9) (size:=1) w #[] 0 (Nat.le_refl _) (by decide) rfl)
 have HB:=Lh (al1 w (.cells #[] 9))
 clear hR
 go_enter Tryz.func124,Tryz.ntmps124
 go_wp2_with fail
 generalize w.alloc (.cells #[] 9)=w0 at HO HB ⊢
 go_loopw [3,4,5] (fun ov fv iv wr=>∃ (f i:Nat) (D:List ByteArray) (q:Option Addr) (c:Nat),ov=.slice q D.length c∧fv=.int .i64 f∧iv=.int .i64 i∧f≤i∧i≤s.size∧D.length≤i∧D.map toL ++ splitA ((s.data.toList.drop f).take (i - f)) (s.data.toList.drop i)=R∧Brow wr w.heap.size (.slice q D.length c) D∧Below w.heap.size w wr) (fun _ _ iv _=>s.size - (intOf iv).toNat)
 case atStart=>exact ⟨0,0,[],_,0,rfl,rfl,rfl,Nat.le_refl _,Nat.zero_le _,Nat.zero_le _,HR.out,HO.out,HB.out⟩
 case round =>
  obtain ⟨f,i,D,q,c,rfl,rfl,rfl,hfi,hi,hD,hfe,hown,hbel⟩:=hrel
  rename World=>wr
  have HOw:=Lh hown
  have HBw:=Lh hbel
  have hdl:D.length≤1000000:=by omega
  have hgb:w.heap.size≤wr.heap.size:=hbel.size
  clear HO HB HR hown hbel
  have hsl:s.data.toList.length=s.size:=by simp
  by_cases hlt:i+1 < s.size
  ·rw [at_L s i (by omega),at_L s (i+1) hlt] at hfe
   have hta:=take_more s.data.toList f i (by omega) hfi
   have hgi:s.data.toList[i]'(by omega)=s[i]:=rfl
   obtain ⟨x,hx⟩:∃ x,s[i]'(by omega)=x:=⟨_,rfl⟩
   obtain ⟨y,hy⟩:∃ y,s[i+1]'hlt=y:=⟨_,rfl⟩
   by_cases hc:x=44∧y=32
   ·rw [hx,hy] at hfe
    have hp:splitA ((s.data.toList.drop f).take (i - f)) (x :: y :: s.data.toList.drop (i+1+1))=(s.data.toList.drop f).take (i - f) :: splitA [] (s.data.toList.drop (i+1+1)):=by rw [splitA,if_pos hc]
    rw [hp] at hfe
    have HF:=Lh hfe
    have b1:((s[i].toNat:Int) == 44)=true:=by rw [hx,hc.1];rfl
    have b2:((s[i+1].toNat:Int) == 32)=true:=by rw [hy,hc.2];rfl
    have HX:Hid ((s.extract f i).data.toList=(s.data.toList.drop f).take (i - f)):=Lh (ext_L s f i)
    clear hp hfe hx hy hc hta hgi
    go_wp2_with (at_builtin;refine app_txt rfl (.tmp 23) (.tmp 28) rfl w.heap.size _ D (s.extract f i) _ rfl rfl rfl HOw hdl hgb ?_;intro oz cz wz own7 grow7;have HOz:=Lh own7;have HGz:=Lh grow7;clear own7 grow7)
    have HLz:Hid (Below w.heap.size w wz):=Lh (below_grown HBw.out HGz.out (fun p hp=>(World.ownsRow.lt HOw.out p hp).1) hgb)
    have hlz:(D ++ [s.extract f i]).length=D.length+1:=by simp
    have HFz:Hid ((D ++ [s.extract f i]).map toL ++ splitA ((s.data.toList.drop (i+2)).take (i+2 - (i+2))) (s.data.toList.drop (i+2))=R):=Lh (by
     rw [← HF.out,List.map_append,Nat.sub_self,List.take_zero,List.append_assoc]
     show _ ++ ([toL (s.extract f i)] ++ _)=_
     unfold toL;rw [HX.out];rfl)
    go_roundw
    case rel=>exact ⟨i+2,i+2,D ++ [s.extract f i],oz,cz,by rw [hlz],by go_num,by go_num,Nat.le_refl _,by omega,by rw [hlz];omega,HFz.out,by rw [hlz];exact HOz.out,HLz.out⟩
    case measure=>simp [intOf];omega
   ·rw [hx,hy] at hfe
    have hp:splitA ((s.data.toList.drop f).take (i - f)) (x :: y :: s.data.toList.drop (i+1+1))=splitA ((s.data.toList.drop f).take (i - f) ++ [x]) (y :: s.data.toList.drop (i+1+1)):=by rw [splitA,if_neg hc]
    rw [hp,← hx,← hgi,← hta,← hy,← at_L s (i+1) hlt] at hfe
    have HF:=Lh hfe
    obtain ⟨q1,hq1⟩:∃ b,((s[i].toNat:Int) == 44)=b:=⟨_,rfl⟩
    obtain ⟨q2,hq2⟩:∃ b,((s[i+1].toNat:Int) == 32)=b:=⟨_,rfl⟩
    have hq:q1=true→q2=false:=by
     intro e
     rw [← hq2,beq_eq_false_iff_ne]
     intro e2
     rw [← hq1,beq_iff_eq] at e
     refine hc ⟨?_,?_⟩
     ·rw [← hx];exact UInt8.toNat_inj.1 (by simpa using (Int.ofNat.inj e))
     ·rw [← hy];exact UInt8.toNat_inj.1 (by simpa using (Int.ofNat.inj e2))
    clear hp hfe hx hy hc hta hgi
    cases q1
    ·go_wp2
     go_roundw
     case rel=>exact ⟨f,i+1,D,q,c,rfl,rfl,by go_num,by omega,by omega,by omega,HF.out,HOw.out,HBw.out⟩
     case measure=>simp [intOf];omega
    ·have hq':=hq rfl
     rw [hq'] at hq2
     go_wp2
     go_roundw
     case rel=>exact ⟨f,i+1,D,q,c,rfl,rfl,by go_num,by omega,by omega,by omega,HF.out,HOw.out,HBw.out⟩
     case measure=>simp [intOf];omega
  ·have hend:splitA ((s.data.toList.drop f).take (i - f)) (s.data.toList.drop i)=[s.data.toList.drop f]:=by
     by_cases h1:i=s.size
     ·subst h1
      rw [List.drop_of_length_le (i:=s.size) (l:=s.data.toList) (by omega),List.take_of_length_le (by rw [List.length_drop];omega)];rfl
     ·have h2:i < s.size:=by omega
      have hta:=take_more s.data.toList f i (by omega) hfi
      rw [at_L s i h2,List.drop_of_length_le (show s.data.toList.length≤i+1 by omega)]
      show [(s.data.toList.drop f).take (i - f) ++ [s[i]]]=_
      rw [show s[i]=s.data.toList[i]'(by omega) from rfl,← hta,List.take_of_length_le (by rw [List.length_drop];omega)]
   rw [hend] at hfe
   have HF:=Lh hfe
   clear hend hfe
   have HX:Hid ((s.extract f s.size).data.toList=s.data.toList.drop f):=Lh (by rw [ext_L,List.take_of_length_le (by rw [List.length_drop];omega)])
   go_wp2_with (at_builtin;refine app_txt rfl (.tmp 35) (.tmp 39) rfl w.heap.size _ D (s.extract f s.size) _ rfl rfl rfl HOw hdl hgb ?_;intro oz cz wz own7 grow7;have HOz:=Lh own7;have HGz:=Lh grow7;clear own7 grow7)
   have HLz:Hid (Below w.heap.size w wz):=Lh (below_grown HBw.out HGz.out (fun p hp=>(World.ownsRow.lt HOw.out p hp).1) hgb)
   have hlz:(D ++ [s.extract f s.size]).length=D.length+1:=by simp
   go_ret
   refine ⟨oz,cz,D ++ [s.extract f s.size],by rw [hlz];rfl,by rw [hlz];exact HOz.out,?_,HLz.out⟩
   rw [← HF.out,List.map_append]
   show _ ++ [toL (s.extract f s.size)]=_
   unfold toL;rw [HX.out]
theorem ad0 (b k:Nat):(⟨b,0,none⟩:Addr).add k=⟨b,k,none⟩:=by
 unfold Addr.add;split
 ·subst_vars;rfl
 ·simp
theorem nl_lit (w:World)(l:List (List UInt8))(hl:l.length≤maxLen)(t:TypeId):Nl (w.alloc (.cells (l.map fun x=>.string (bb x)).toArray t)) (.slice (some ⟨w.heap.size,0,none⟩) l.length l.length) l:=by
 refine ⟨_,l.length,rfl,Nat.le_refl _,hl,fun _=>⟨_,rfl,fun i hi=>?_⟩⟩
 have h:=heap_alloc_new w (.cells (l.map fun x=>Value.string (bb x)).toArray t)
 rw [ad0]
 unfold World.cell?
 simp only [h]
 simp [hi]
theorem idx_step (s x:List UInt8)(t:List (List UInt8))(i:Int):idxA s (x :: t) i=if x=s then i else idxA s t (i+1):=rfl
set_option maxRecDepth 100000 in
set_option maxHeartbeats 4000000 in
theorem rmode_of (s:ByteArray)(n:Int)(w:World)(hr:Hid (idxA s.data.toList modes 0=n)) :
    Calls Tryz.prog 82 #[.string s] w fun e w'=>e=.returned (.int .i64 n)∧Below w.heap.size w w':=by
 have hlit:=nl_lit w modes (by decide) 9
 have hn:modes.length=5:=rfl
 have HL:Hid (Nl (w.alloc (.cells #[.string ⟨#[108,97,121,101,114,101,100]⟩,.string ⟨#[111,114,116,104,111,103,111,110,97,108]⟩,.string ⟨#[115,116,114,97,105,103,104,116]⟩,.string ⟨#[116,105,100,121]⟩,.string ⟨#[114,97,100,105,97,108]⟩] 9)) (.slice (some ⟨w.heap.size,0,none⟩) 5 5) modes):=Lh hlit
 have HB:=Lh (al1 w (.cells #[.string ⟨#[108,97,121,101,114,101,100]⟩,.string ⟨#[111,114,116,104,111,103,111,110,97,108]⟩,.string ⟨#[115,116,114,97,105,103,104,116]⟩,.string ⟨#[116,105,100,121]⟩,.string ⟨#[114,97,100,105,97,108]⟩] 9))
 have HN:=Lh hn
 clear hlit hn
 go_enter Tryz.func82,Tryz.ntmps82
 go_wp2_with fail
 generalize w.alloc (.cells #[.string ⟨#[108,97,121,101,114,101,100]⟩,.string ⟨#[111,114,116,104,111,103,111,110,97,108]⟩,.string ⟨#[115,116,114,97,105,103,104,116]⟩,.string ⟨#[116,105,100,121]⟩,.string ⟨#[114,97,100,105,97,108]⟩] 9)=w0 at HL HB ⊢
 go_loop [4] (fun iv=>∃ k:Nat,iv=.int .i64 k∧k≤5∧idxA s.data.toList (modes.drop k) k=n) (fun iv=>5 - (intOf iv).toNat)
 case atStart=>exact ⟨0,rfl,Nat.zero_le _,hr.out⟩
 case round =>
  obtain ⟨k,rfl,hk,hfe⟩:=hrel
  by_cases hlt:k < 5
  ·obtain ⟨A,e,hcell⟩:=HL.out.get (i:=k) (by rw [HN.out];exact hlt)
   cases e
   rw [List.drop_eq_getElem_cons (by rw [HN.out];exact hlt),idx_step] at hfe
   obtain ⟨y,hy⟩:∃ y,modes[k]'(by rw [HN.out];exact hlt)=y:=⟨_,rfl⟩
   rw [hy] at hfe hcell
   rw [ad0] at hcell
   have i0:(0:Int)≤(k:Int):=by omega
   have i1:(k:Int) < 5:=by omega
   obtain ⟨Y,hY⟩:∃ Y,bb y=Y:=⟨_,rfl⟩
   rw [hY] at hcell
   have hY2:Y.data.toList=y:=by rw [← hY]
   by_cases hxy:y=s.data.toList
   ·have b1:(Y.toList == s.toList)=true:=by rw [ByteArray.toList_eq,ByteArray.toList_eq,hY2,beq_iff_eq];exact hxy
    rw [if_pos hxy] at hfe
    subst hfe
    clear hy hY hY2 hxy HL
    go_wp2
    go_ret
    exact ⟨rfl,HB.out⟩
   ·have b1:(Y.toList == s.toList)=false:=by rw [ByteArray.toList_eq,ByteArray.toList_eq,hY2,beq_eq_false_iff_ne];exact hxy
    rw [if_neg hxy] at hfe
    have HF:=Lh hfe
    clear hy hY hY2 hxy hfe
    go_wp2
    go_round
    case rel=>exact ⟨k+1,by go_num,by omega,HF.out⟩
    case measure=>simp [intOf];omega
  ·obtain rfl:k=5:=by omega
   have he:(-1:Int)=n:=hfe
   subst he
   go_wp2
   go_ret
   exact ⟨rfl,HB.out⟩
set_option maxRecDepth 100000 in
set_option maxHeartbeats 4000000 in
theorem rside_of (s:ByteArray)(n:Int)(w:World)(hr:Hid (idxA s.data.toList sides 0=n)) :
    Calls Tryz.prog 125 #[.string s] w fun e w'=>e=.returned (.int .i64 n)∧Below w.heap.size w w':=by
 have hlit:=nl_lit w sides (by decide) 9
 have hn:sides.length=4:=rfl
 have HL:Hid (Nl (w.alloc (.cells #[.string ⟨#[116,111,112]⟩,.string ⟨#[114,105,103,104,116]⟩,.string ⟨#[98,111,116,116,111,109]⟩,.string ⟨#[108,101,102,116]⟩] 9)) (.slice (some ⟨w.heap.size,0,none⟩) 4 4) sides):=Lh hlit
 have HB:=Lh (al1 w (.cells #[.string ⟨#[116,111,112]⟩,.string ⟨#[114,105,103,104,116]⟩,.string ⟨#[98,111,116,116,111,109]⟩,.string ⟨#[108,101,102,116]⟩] 9))
 have HN:=Lh hn
 clear hlit hn
 go_enter Tryz.func125,Tryz.ntmps125
 go_wp2_with fail
 generalize w.alloc (.cells #[.string ⟨#[116,111,112]⟩,.string ⟨#[114,105,103,104,116]⟩,.string ⟨#[98,111,116,116,111,109]⟩,.string ⟨#[108,101,102,116]⟩] 9)=w0 at HL HB ⊢
 go_loop [4] (fun iv=>∃ k:Nat,iv=.int .i64 k∧k≤4∧idxA s.data.toList (sides.drop k) k=n) (fun iv=>4 - (intOf iv).toNat)
 case atStart=>exact ⟨0,rfl,Nat.zero_le _,hr.out⟩
 case round =>
  obtain ⟨k,rfl,hk,hfe⟩:=hrel
  by_cases hlt:k < 4
  ·obtain ⟨A,e,hcell⟩:=HL.out.get (i:=k) (by rw [HN.out];exact hlt)
   cases e
   rw [List.drop_eq_getElem_cons (by rw [HN.out];exact hlt),idx_step] at hfe
   obtain ⟨y,hy⟩:∃ y,sides[k]'(by rw [HN.out];exact hlt)=y:=⟨_,rfl⟩
   rw [hy] at hfe hcell
   rw [ad0] at hcell
   have i0:(0:Int)≤(k:Int):=by omega
   have i1:(k:Int) < 4:=by omega
   obtain ⟨Y,hY⟩:∃ Y,bb y=Y:=⟨_,rfl⟩
   rw [hY] at hcell
   have hY2:Y.data.toList=y:=by rw [← hY]
   by_cases hxy:y=s.data.toList
   ·have b1:(Y.toList == s.toList)=true:=by rw [ByteArray.toList_eq,ByteArray.toList_eq,hY2,beq_iff_eq];exact hxy
    rw [if_pos hxy] at hfe
    subst hfe
    clear hy hY hY2 hxy HL
    go_wp2
    go_ret
    exact ⟨rfl,HB.out⟩
   ·have b1:(Y.toList == s.toList)=false:=by rw [ByteArray.toList_eq,ByteArray.toList_eq,hY2,beq_eq_false_iff_ne];exact hxy
    rw [if_neg hxy] at hfe
    have HF:=Lh hfe
    clear hy hY hY2 hxy hfe
    go_wp2
    go_round
    case rel=>exact ⟨k+1,by go_num,by omega,HF.out⟩
    case measure=>simp [intOf];omega
  ·obtain rfl:k=4:=by omega
   have he:(-1:Int)=n:=hfe
   subst he
   go_wp2
   go_ret
   exact ⟨rfl,HB.out⟩
end Go.Proofs.YtcdoicgbjoikkaaGreatDoor.att
