/-
  What Get of the reference returns. Condition: a list of attributes in memory.
  Rows of attributes that a call makes: what they hold, one attribute more. No condition.
  What put and Merge of the reference return. Condition: lists of at most 100000 attributes.
-/
import Derived.Test.YtcdoicgbjoikkaaGreatDoorMca
import Derived.Test.YtcdoicgbjoikkaaGreatDoorMtc
import Derived.Deep.AppendLies
namespace Go.Proofs.YtcdoicgbjoikkaaGreatDoor.att
open Go.RowKit lex tre
set_option maxRecDepth 100000 in
set_option maxHeartbeats 4000000 in
theorem rget_of (v:Value)(l:List Pr)(s:ByteArray)(x:List UInt8)(r:Bool)(w:World)(h:Hid (Prs w v l))(hr:Hid (getL l s.data.toList=(x,r))) :
    Calls Tryz.prog 39 #[v,.string s] w fun e w'=>e=.returned (.tuple #[.string (bb x),.bool r])∧w=w':=by
 obtain ⟨ao,cap,rfl,hc,hm,_⟩:=id h.out
 unfold maxLen at hm
 have hlm:l.length≤9223372036854775807:=by omega
 have HR:Hid (getL (l.take l.length) s.data.toList=(x,r)):=Lh (by rw [List.take_length];exact hr.out)
 clear hc hm hr
 go_enter Tryz.func39,Tryz.ntmps39
 go_wp2_with fail
 go_loop [6] (fun iv=>∃ k:Nat,iv=.int .i64 ((k:Int) - 1)∧k≤l.length∧getL (l.take k) s.data.toList=(x,r)) (fun iv=>(intOf iv+1).toNat)
 case atStart=>exact ⟨l.length,by go_num,Nat.le_refl _,HR.out⟩
 case round =>
  obtain ⟨k,rfl,hk,hfe⟩:=hrel
  clear HR
  cases k with
  | zero =>
   have e1:([]:List UInt8)=x:=(Prod.mk.inj hfe).1
   have e2:false=r:=(Prod.mk.inj hfe).2
   subst e1
   subst e2
   go_wp2
   go_ret2
   exact ⟨rfl,rfl⟩
  | succ m =>
   have em:((m+1:Nat):Int) - 1=(m:Int):=by omega
   rw [em]
   have hlt:m < l.length:=by omega
   obtain ⟨A,rfl,q0,q1,-,-⟩:=h.out.get hlt
   rw [List.take_succ_eq_append_getElem hlt,getL_snoc] at hfe
   obtain ⟨u,hu⟩:∃ u,l[m]=u:=⟨_,rfl⟩
   rw [hu] at q0 q1 hfe
   obtain ⟨u1,u2⟩:=u
   simp only at q0 q1 hfe
   have i0:(0:Int)≤(m:Int):=by omega
   have i1:(m:Int) < (l.length:Int):=by omega
   obtain ⟨Y,hY⟩:∃ Y,bb u1=Y:=⟨_,rfl⟩
   rw [hY] at q0
   have hY2:Y.data.toList=u1:=by rw [← hY]
   clear hu em
   by_cases hxy:u1=s.data.toList
   ·have b1:(Y.toList == s.toList)=true:=by rw [ByteArray.toList_eq,ByteArray.toList_eq,hY2,beq_iff_eq];exact hxy
    rw [if_pos hxy] at hfe
    have e1:u2=x:=(Prod.mk.inj hfe).1
    have e2:true=r:=(Prod.mk.inj hfe).2
    subst e1
    subst e2
    clear hY hY2 hxy hfe
    go_wp2
    go_ret2
    exact ⟨rfl,rfl⟩
   ·have b1:(Y.toList == s.toList)=false:=by rw [ByteArray.toList_eq,ByteArray.toList_eq,hY2,beq_eq_false_iff_ne];exact hxy
    rw [if_neg hxy] at hfe
    have HF:=Lh hfe
    clear hY hY2 hxy hfe
    go_wp2
    go_round
    case rel=>exact ⟨m,by go_num,by omega,HF.out⟩
    case measure=>simp [intOf]
theorem add_at (b o j:Nat):(⟨b,o,none⟩:Addr).add j=⟨b,o+j,none⟩:=by
 unfold Addr.add;split
 ·subst_vars;rfl
 ·rfl
def prC (r:Pr):List Value:=[.string (bb r.1),.string (bb r.2)]
def blk (W:World)(g:Nat)(t:TypeId)(arr:Array Value):Prop:=W.heap[g]?=some (.cells arr t (0,0))
theorem blk_cell {W:World}{g o:Nat}{t:TypeId}{arr:Array Value}(h:blk W g t arr):W.cell? ⟨g,o,none⟩=arr[o]?:=by
 unfold blk at h;simp [World.cell?,h]
theorem blk_lt {W:World}{g:Nat}{t:TypeId}{arr:Array Value}(h:blk W g t arr):g < W.heap.size:=by
 rcases Nat.lt_or_ge g W.heap.size with q | q
 ·exact q
 ·unfold blk at h;rw [Array.getElem?_eq_none (by omega)] at h;cases h
theorem blk_new (w:World)(c:Array Value)(t:TypeId):blk (w.alloc (.cells c t)) w.heap.size t c:=heap_alloc_new w _
theorem flat_len {X:Type}(f:X→List Value)(k:Nat)(hk:∀ x,(f x).length=k)(l:List X):(l.flatMap f).length=l.length*k:=by
 induction l with
 | nil=>simp
 | cons x t ih=>rw [List.flatMap_cons,List.length_append,ih,hk,List.length_cons,Nat.add_mul];omega
theorem flat_get {X:Type}(f:X→List Value)(k:Nat)(hk:∀ x,(f x).length=k):∀ (l:List X) (i j:Nat) (h:i < l.length),j < k→(l.flatMap f)[i*k+j]?=(f l[i])[j]?:=by
 intro l
 induction l with
 | nil=>intro i j h;simp at h
 | cons x t ih =>
  intro i j h hj
  rw [List.flatMap_cons]
  cases i with
  | zero=>rw [Nat.zero_mul,Nat.zero_add,List.getElem?_append_left (by rw [hk];exact hj)];rfl
  | succ i =>
   rw [List.getElem?_append_right (by rw [hk,Nat.add_mul];omega),hk,show (i+1)*k+j - k=i*k+j by rw [Nat.add_mul];omega]
   exact ih i j (by simpa using h) hj
theorem own_blk {w:World}{B s n:Nat}{t:TypeId}{v:Value}{xs:List Value}(h:w.ownsRow B t s v n xs)(hn:0 < n):∃ g cap arr,v=.slice (some ⟨g,0,none⟩) n cap∧B≤g∧blk w g t arr∧n≤cap∧cap≤maxLen∧∀ j,j < n*s→arr[j]?=xs[j]?:=by
 rcases h.2 with ⟨_,rfl⟩ | ⟨g,cap,cur,rfl,hB,hk,h1,h2,h3,h4⟩
 ·omega
 ·refine ⟨g,cap,cur,rfl,hB,hk,h1,h2,fun j hj=>?_⟩
  rw [← h4,List.getElem?_take_of_lt hj,Array.getElem?_toList]
theorem own_form {w:World}{B s n:Nat}{t:TypeId}{v:Value}{xs:List Value}(h:w.ownsRow B t s v n xs):∃ ao cap,v=.slice ao n cap∧n≤cap∧cap≤maxLen:=by
 rcases h.2 with ⟨rfl,rfl⟩ | ⟨g,cap,cur,rfl,_,_,h1,h2,_⟩
 ·exact ⟨_,0,rfl,Nat.le_refl _,by decide⟩
 ·exact ⟨_,cap,rfl,h1,h2⟩
theorem info_cla:(Tryz.prog.info? 82).map (fun i=>(i.zero,i.size,i.bytes))=some (some (.agg #[.string ⟨#[]⟩,.string ⟨#[]⟩]),2,32):=by kernel_rfl
theorem info_of_cla:∃ i,Tryz.prog.info? 82=some i∧i.zero=some (.agg #[.string ⟨#[]⟩,.string ⟨#[]⟩])∧i.size=2∧i.bytes=32:=by
 have h:=info_cla
 cases hq:Tryz.prog.info? 82 with
 | none=>rw [hq] at h;cases h
 | some i =>
  rw [hq] at h
  simp only [Option.map_some,Option.some.injEq,Prod.mk.injEq] at h
  exact ⟨i,rfl,h.1,h.2.1,h.2.2⟩
theorem own_prs {w:World}{B:Nat}{t:TypeId}{v:Value}{l:List Pr}(h:w.ownsRow B t 2 v l.length (l.flatMap prC))(hl:∀ r∈l,r.1.length≤maxLen∧r.2.length≤maxLen):Prs w v l:=by
 by_cases h0:l.length=0
 ·obtain ⟨ao,cap,rfl,h1,h2⟩:=own_form h
  exact ⟨ao,cap,rfl,h1,h2,fun hn=>by omega⟩
 ·obtain ⟨g,cap,arr,rfl,hB',hk,h1,h2,h3⟩:=own_blk h (by omega)
  refine ⟨_,cap,rfl,h1,h2,fun _=>⟨_,rfl,fun i hi=>?_⟩⟩
  have e0:=flat_get prC 2 (fun _=>rfl) l i 0 hi (by decide)
  have e1:=flat_get prC 2 (fun _=>rfl) l i 1 hi (by decide)
  obtain ⟨p2,p3⟩:=hl l[i] (List.getElem_mem hi)
  refine ⟨?_,?_,p2,p3⟩
  ·rw [add_at,Nat.zero_add,blk_cell hk,← Nat.add_zero (i*2),h3 _ (by omega)];exact e0
  ·rw [add_at]
   show w.cell? ⟨g,0+i*2+1,none⟩=_
   rw [Nat.zero_add,blk_cell hk,h3 _ (by omega)];exact e1
structure PrsT (w:World)(v:Value)(l:List Pr):Prop where
 prs:Prs w v l
 typ:∀ g,v.ownBlock=some g→∃ arr fr,w.heap[g]?=some (.cells arr 82 fr)
theorem own_prsT {w:World}{B:Nat}{v:Value}{l:List Pr}(h:w.ownsRow B 82 2 v l.length (l.flatMap prC))(hl:∀ r∈l,r.1.length≤maxLen∧r.2.length≤maxLen):PrsT w v l:=by
 refine ⟨own_prs h hl,fun g hg=>?_⟩
 rcases h.2 with ⟨rfl,_⟩ | ⟨g',cap,cur,rfl,_,hk,_⟩
 ·cases hg
 ·obtain rfl:g'=g:=Option.some.inj hg
  exact ⟨_,_,hk⟩
theorem PrsT.keep {w1 w2:World}{v:Value}{l:List Pr}(h:PrsT w1 v l)(hb:Below w1.heap.size w1 w2):PrsT w2 v l:=by
 refine ⟨h.1.keep hb,fun g hg=>?_⟩
 obtain ⟨arr,fr,hk⟩:=h.2 g hg
 have hl:g < w1.heap.size:=by
  rcases Nat.lt_or_ge g w1.heap.size with q | q
  ·exact q
  ·rw [Array.getElem?_eq_none (by omega)] at hk;cases hk
 exact ⟨arr,fr,by rw [hb.block g hl];exact hk⟩
theorem app_pr {w:World}{ops:Array Oper}{rest:List Oper}{o:Oper}{a:Act}{Q:Exit→Act→World→Prop}{T E:TypeId}(hT:Tryz.prog.underlying T=some (.slice E))(hE:∃ i,Tryz.prog.info? E=some i∧i.zero=some (.agg #[.string ⟨#[]⟩,.string ⟨#[]⟩])∧i.size=2∧i.bytes=32)
    (hg:o.guard=none) (p y:Operand) (ho:o.op=.call { callee:=.builtin .append,args:=#[p,y],argTypes:=#[T,T] })
    (B:Nat) (v:Value) (l:List Pr) (x:Pr) (H:Nat) (hH:w.heap.size=H) (hs:a.eval p=v) (hx:a.eval y=.slice (some ⟨H,0,none⟩) 1 1) (h:Hid (w.ownsRow B E 2 v l.length (l.flatMap prC))) (hl:l.length≤1000000) (hB:B≤w.heap.size)
    (hK:∀ ao cap w',w'.ownsRow B E 2 (.slice ao (l.length+1) cap) (l ++ [x]).length ((l ++ [x]).flatMap prC)→w.grownBy w' v.ownBlock→wpList Tryz.prog ops Q rest (a.put o.dst (.slice ao (l.length+1) cap)) w'):wpList Tryz.prog ops Q (o :: rest) a (w.alloc (.cells #[.string (bb x.1),.string (bb x.2)] E)):=by
 subst hH
 obtain ⟨i0,hi,hz0,hz1,hz2⟩:=hE
 refine wpList_append_own _ hg p y T ho B E i0 _ 2 32 hT hi hz0 hz1 hz2 rfl (by decide) v l.length _ hs (World.ownsRow.alloc h.out _) ⟨w.heap.size,0,none⟩ 1 1 [.string (bb x.1),.string (bb x.2)] hx rfl ?_ (by simp [Value.oneCell']) (by unfold maxLen;omega) (by omega) (by simp;omega) ?_
 ·intro j u hj
  rw [add_at,Nat.zero_add,blk_cell (blk_new w #[.string (bb x.1),.string (bb x.2)] E),← hj]
  simp
 ·intro v' w' hown hgrow _
  obtain ⟨ao,cap,rfl,_,_⟩:=own_form hown
  refine hK ao cap w' ?_ ?_
  ·rw [List.length_append,List.flatMap_append];exact hown
  ·refine ⟨hgrow.os,hgrow.tape,hgrow.output,Nat.le_trans (by simp) hgrow.size,fun k hk hne=>?_⟩
   rw [hgrow.block k (by simp;omega) hne,heap_alloc_old w _ hk]
theorem below_grown {n:Nat}{W a b:World}{row:Option Nat}(h:Below n W a)(g:a.grownBy b row)(hr:∀ q,row=some q→n≤q)(hs:n≤a.heap.size):Below n W b :=
 ⟨g.os.trans h.os,g.tape.trans h.tape,g.output.trans h.output,Nat.le_trans h.size g.size,fun q hq=>(g.block q (by omega) (fun e=>by have:=hr q e.symm;omega)).trans (h.block q hq)⟩
theorem bb_list (x:List UInt8):(bb x).toList=x:=by rw [ByteArray.toList_eq]
def Bnd (l:List Pr):Prop:=∀ r∈l,r.1.length≤maxLen∧r.2.length≤maxLen
theorem Bnd.snoc {l:List Pr}{a:Pr}(h:Bnd l)(ha:a.1.length≤maxLen∧a.2.length≤maxLen):Bnd (l ++ [a]):=fun r hr=>by
 rcases List.mem_append.1 hr with hr | hr
 ·exact h r hr
 ·rw [List.mem_singleton.1 hr];exact ha
set_option maxRecDepth 100000 in
set_option maxHeartbeats 8000000 in
theorem rputT_of (v:Value)(l:List Pr)(a1 a2:List UInt8)(w:World)(h:Hid (Prs w v l))(hl:l.length≤100000)(hb:Hid (Bnd l))(ha:Hid (a1.length≤maxLen∧a2.length≤maxLen)) :
    Calls Tryz.prog 83 #[v,.agg #[.string (bb a1),.string (bb a2)]] w fun e w'=>∃ v',e=.returned v'∧PrsT w' v' (putL l (a1,a2))∧Below w.heap.size w w':=by
 obtain ⟨ao,cap,rfl,hc,hm,_⟩:=id h.out
 obtain ⟨R,hR⟩:∃ R,putL l (a1,a2)=R:=⟨_,rfl⟩
 have HP:=Lh (show putA (a1,a2) (l.drop 0) false=R by rw [List.drop_zero];exact hR)
 rw [hR]
 have HB:=Lh (al1 w (.cells #[.string (bb a1),.string (bb a2)] 82))
 have HK:=Lh (blk_new w #[.string (bb a1),.string (bb a2)] 82)
 have hs:(w.alloc (.cells #[.string (bb a1),.string (bb a2)] 82)).heap.size=w.heap.size+1:=by simp
 have HO:Hid (((w.alloc (.cells #[.string (bb a1),.string (bb a2)] 82)).alloc (.cells #[] 82)).ownsRow (w.heap.size+1) 82 2 (.slice (some ⟨w.heap.size+1,0,none⟩) 0 0) 0 []):=Lh (by
  have h:=World.ownsRow_made (base:=w.heap.size+1) (e:=82) (size:=2) (w.alloc (.cells #[.string (bb a1),.string (bb a2)] 82)) #[] 0 (by simp) (by decide) rfl
  rw [hs] at h;exact h)
 have HB1:Hid (Below (w.heap.size+1) (w.alloc (.cells #[.string (bb a1),.string (bb a2)] 82)) ((w.alloc (.cells #[.string (bb a1),.string (bb a2)] 82)).alloc (.cells #[] 82))):=Lh (by have h:=al1 (w.alloc (.cells #[.string (bb a1),.string (bb a2)] 82)) (.cells #[] 82);rwa [hs] at h)
 have HS:Hid ((w.alloc (.cells #[.string (bb a1),.string (bb a2)] 82)).heap.size=w.heap.size+1):=Lh hs
 unfold maxLen at hm
 have hlm:l.length≤9223372036854775807:=by omega
 clear hR hs hc hm
 go_enter Tryz.func83,Tryz.ntmps83
 go_wp2_with fail
 generalize (w.alloc (.cells #[.string (bb a1),.string (bb a2)] 82)).alloc (.cells #[] 82)=w0 at HO HB1 ⊢
 generalize (w.alloc (.cells #[.string (bb a1),.string (bb a2)] 82))=wF at HB HK HB1 HS ⊢
 go_loopw [5,6,7] (fun ov dv iv wr=>∃ (k:Nat) (d:Bool) (D:List Pr) (q:Option Addr) (c:Nat),ov=.slice q D.length c∧dv=.bool d∧iv=.int .i64 k∧k≤l.length∧D.length≤2*k∧D ++ putA (a1,a2) (l.drop k) d=R∧Bnd D∧wr.ownsRow (w.heap.size+1) 82 2 (.slice q D.length c) D.length (D.flatMap prC)∧Below (w.heap.size+1) wF wr) (fun _ _ iv _=>l.length - (intOf iv).toNat)
 case atStart=>exact ⟨0,false,[],_,0,rfl,rfl,rfl,Nat.zero_le _,Nat.zero_le _,HP.out,fun r hr=>(nomatch hr),HO.out,HB1.out⟩
 case round =>
  obtain ⟨k,d,D,q,c,rfl,rfl,rfl,hk,hD,hfe,hbd,hown,hbel⟩:=hrel
  rename World=>wr
  have HBw:Hid (Below w.heap.size w wr):=Lh (HB.out.trans (hbel.mono (by omega)))
  have HBl:=Lh hbel
  have HOw:=Lh hown
  have HBd:=Lh hbd
  have hdl:D.length≤1000000:=by omega
  have hgb:w.heap.size+1≤wr.heap.size:=by have:=hbel.size;have:=HS.out;omega
  clear HO HB1 HP hown hbel hbd
  by_cases hlt:k < l.length
  ·obtain ⟨A,rfl,q0,q1,-,-⟩:=(h.out.keep HBw.out).get hlt
   have hu3:=hb.out l[k] (List.getElem_mem hlt)
   rw [List.drop_eq_getElem_cons hlt] at hfe
   obtain ⟨u,hu⟩:∃ u,l[k]=u:=⟨_,rfl⟩
   obtain ⟨u1,u2⟩:=u
   have HUl:=Lh hu
   rw [hu] at q0 q1 hfe hu3
   simp only at q0 q1 hu3
   have HU:=Lh hu3
   have hkf:blk wr w.heap.size 82 #[.string (bb a1),.string (bb a2)]:=by have h:=HK.out;unfold blk at h ⊢;rw [HBl.out.block _ (Nat.lt_succ_self _)];exact h
   have f0:wr.cell? ⟨w.heap.size,0,none⟩=some (.string (bb a1)):=by rw [blk_cell hkf];rfl
   have f1:wr.cell? ⟨w.heap.size,1,none⟩=some (.string (bb a2)):=by rw [blk_cell hkf];rfl
   have i0:(0:Int)≤(k:Int):=by omega
   have i1:(k:Int) < (l.length:Int):=by omega
   obtain ⟨lt,hlt1⟩:∃ b,decide (u1 < a1)=b:=⟨_,rfl⟩
   obtain ⟨eq,heq1⟩:∃ b,decide (u1=a1)=b:=⟨_,rfl⟩
   have b1:Op.bytesLess u1 a1=lt:=by rw [less_eq];exact hlt1
   have b2:(u1 == a1)=eq:=by rw [← heq1];by_cases e:u1=a1 <;> simp [e]
   have HF:Hid (D ++ ((if d=false∧lt=false then [(a1,a2)] else []) ++ ((if eq=false then [(u1,u2)] else []) ++ putA (a1,a2) (l.drop (k+1)) (d || !lt)))=R):=Lh (by
    rw [← hfe]
    show _=D ++ ((if d=false∧¬ u1 < a1 then [(a1,a2)] else []) ++ ((if u1≠a1 then [(u1,u2)] else []) ++ putA (a1,a2) (l.drop (k+1)) (d || decide (¬ u1 < a1))))
    rw [← hlt1,← heq1]
    simp only [decide_eq_false_iff_not,ne_eq,decide_not])
   clear hu hkf hlt1 heq1 hfe hu3
   cases d <;> cases lt <;> cases eq
   ·go_wp2_with fail
    go_quiet (fail)
    have HOwa:Hid ((wr.drewN nq).ownsRow (w.heap.size+1) 82 2 (.slice q D.length c) D.length (D.flatMap prC)):=Lh HOw.out
    have HLwa:Hid (Below (w.heap.size+1) wF (wr.drewN nq)):=Lh (HBl.out.trans ((drew_n wr nq).mono hgb))
    have hgwa:w.heap.size+1≤(wr.drewN nq).heap.size:=hgb
    clear q0 q1 f0 f1
    generalize wr.drewN nq=wa at HOwa HLwa hgwa ⊢
    have hkf:blk wa w.heap.size 82 #[.string (bb a1),.string (bb a2)]:=by have h:=HK.out;unfold blk at h ⊢;rw [HLwa.out.block _ (Nat.lt_succ_self _)];exact h
    have f0:wa.cell? ⟨w.heap.size,0,none⟩=some (.string (bb a1)):=by rw [blk_cell hkf];rfl
    have f1:wa.cell? ⟨w.heap.size,1,none⟩=some (.string (bb a2)):=by rw [blk_cell hkf];rfl
    obtain ⟨A',e',q0,q1,-,-⟩:=(h.out.keep (HB.out.trans (HLwa.out.mono (by omega)))).get hlt
    cases e'
    rw [HUl.out] at q0 q1
    simp only at q0 q1
    clear hkf
    have HRwb:Hid (∀ p,(Value.ownBlock (.slice q D.length c))=some p→w.heap.size+1≤p):=Lh fun p hp=>(World.ownsRow.lt HOwa.out p hp).1
    go_wp2_with (at_builtin;refine app_pr Tryz.underlying54 info_of_cla rfl (.tmp 27) (.tmp 29) rfl (w.heap.size+1) _ D (a1,a2) _ rfl rfl rfl HOwa hdl hgwa ?_;intro owb cwb wb own7 grow7;have HOwb:=Lh own7;have HGwb:=Lh grow7;clear own7 grow7)
    have HLwb:=Lh (below_grown HLwa.out HGwb.out HRwb.out hgwa)
    have hgwb:w.heap.size+1≤wb.heap.size:=Nat.le_trans hgwa HGwb.out.size
    have HDwb:=Lh (Bnd.snoc (a:=(a1,a2)) HBd.out ha.out)
    have hdwb:(D ++ [(a1,a2)]).length≤1000000:=by simp only [List.length_append,List.length_cons,List.length_nil];omega
    clear q0 q1 f0 f1
    have hkf:blk wb w.heap.size 82 #[.string (bb a1),.string (bb a2)]:=by have h:=HK.out;unfold blk at h ⊢;rw [HLwb.out.block _ (Nat.lt_succ_self _)];exact h
    have f0:wb.cell? ⟨w.heap.size,0,none⟩=some (.string (bb a1)):=by rw [blk_cell hkf];rfl
    have f1:wb.cell? ⟨w.heap.size,1,none⟩=some (.string (bb a2)):=by rw [blk_cell hkf];rfl
    obtain ⟨A',e',q0,q1,-,-⟩:=(h.out.keep (HB.out.trans (HLwb.out.mono (by omega)))).get hlt
    cases e'
    rw [HUl.out] at q0 q1
    simp only at q0 q1
    clear hkf
    go_wp2_with fail
    go_quiet (fail)
    have HOwc:Hid ((wb.drewN nq).ownsRow (w.heap.size+1) 82 2 (.slice owb (D.length+1) cwb) (D ++ [(a1,a2)]).length ((D ++ [(a1,a2)]).flatMap prC)):=Lh HOwb.out
    have HLwc:Hid (Below (w.heap.size+1) wF (wb.drewN nq)):=Lh (HLwb.out.trans ((drew_n wb nq).mono hgwb))
    have hgwc:w.heap.size+1≤(wb.drewN nq).heap.size:=hgwb
    clear q0 q1 f0 f1
    generalize wb.drewN nq=wc at HOwc HLwc hgwc ⊢
    have hkf:blk wc w.heap.size 82 #[.string (bb a1),.string (bb a2)]:=by have h:=HK.out;unfold blk at h ⊢;rw [HLwc.out.block _ (Nat.lt_succ_self _)];exact h
    have f0:wc.cell? ⟨w.heap.size,0,none⟩=some (.string (bb a1)):=by rw [blk_cell hkf];rfl
    have f1:wc.cell? ⟨w.heap.size,1,none⟩=some (.string (bb a2)):=by rw [blk_cell hkf];rfl
    obtain ⟨A',e',q0,q1,-,-⟩:=(h.out.keep (HB.out.trans (HLwc.out.mono (by omega)))).get hlt
    cases e'
    rw [HUl.out] at q0 q1
    simp only at q0 q1
    clear hkf
    have HRwd:Hid (∀ p,(Value.ownBlock (.slice owb (D.length+1) cwb))=some p→w.heap.size+1≤p):=Lh fun p hp=>(World.ownsRow.lt HOwc.out p hp).1
    go_wp2_with (at_builtin;refine app_pr Tryz.underlying54 info_of_cla rfl (.tmp 39) (.tmp 44) rfl (w.heap.size+1) _ (D ++ [(a1,a2)]) (u1,u2) _ rfl rfl rfl HOwc hdwb hgwc ?_;intro owd cwd wd own7 grow7;have HOwd:=Lh own7;have HGwd:=Lh grow7;clear own7 grow7)
    have HLwd:=Lh (below_grown HLwc.out HGwd.out HRwd.out hgwc)
    have hgwd:w.heap.size+1≤wd.heap.size:=Nat.le_trans hgwc HGwd.out.size
    have HDwd:=Lh (Bnd.snoc (a:=(u1,u2)) HDwb.out HU.out)
    have hdwd:((D ++ [(a1,a2)]) ++ [(u1,u2)]).length≤1000000:=by simp only [List.length_append,List.length_cons,List.length_nil];omega
    clear q0 q1 f0 f1
    have hkf:blk wd w.heap.size 82 #[.string (bb a1),.string (bb a2)]:=by have h:=HK.out;unfold blk at h ⊢;rw [HLwd.out.block _ (Nat.lt_succ_self _)];exact h
    have f0:wd.cell? ⟨w.heap.size,0,none⟩=some (.string (bb a1)):=by rw [blk_cell hkf];rfl
    have f1:wd.cell? ⟨w.heap.size,1,none⟩=some (.string (bb a2)):=by rw [blk_cell hkf];rfl
    obtain ⟨A',e',q0,q1,-,-⟩:=(h.out.keep (HB.out.trans (HLwd.out.mono (by omega)))).get hlt
    cases e'
    rw [HUl.out] at q0 q1
    simp only at q0 q1
    clear hkf
    go_roundw
    case rel=>exact ⟨k+1,true,((D ++ [(a1,a2)]) ++ [(u1,u2)]),owd,cwd,by simp,rfl,by go_num,by omega,by first | omega | (simp only [List.length_append,List.length_cons,List.length_nil];omega),by have:=HF.out;simpa using this,HDwd.out,by have:=HOwd.out;simpa using this,HLwd.out⟩
    case measure=>simp [intOf];omega
   ·go_wp2_with fail
    go_quiet (fail)
    have HOwa:Hid ((wr.drewN nq).ownsRow (w.heap.size+1) 82 2 (.slice q D.length c) D.length (D.flatMap prC)):=Lh HOw.out
    have HLwa:Hid (Below (w.heap.size+1) wF (wr.drewN nq)):=Lh (HBl.out.trans ((drew_n wr nq).mono hgb))
    have hgwa:w.heap.size+1≤(wr.drewN nq).heap.size:=hgb
    clear q0 q1 f0 f1
    generalize wr.drewN nq=wa at HOwa HLwa hgwa ⊢
    have hkf:blk wa w.heap.size 82 #[.string (bb a1),.string (bb a2)]:=by have h:=HK.out;unfold blk at h ⊢;rw [HLwa.out.block _ (Nat.lt_succ_self _)];exact h
    have f0:wa.cell? ⟨w.heap.size,0,none⟩=some (.string (bb a1)):=by rw [blk_cell hkf];rfl
    have f1:wa.cell? ⟨w.heap.size,1,none⟩=some (.string (bb a2)):=by rw [blk_cell hkf];rfl
    obtain ⟨A',e',q0,q1,-,-⟩:=(h.out.keep (HB.out.trans (HLwa.out.mono (by omega)))).get hlt
    cases e'
    rw [HUl.out] at q0 q1
    simp only at q0 q1
    clear hkf
    have HRwb:Hid (∀ p,(Value.ownBlock (.slice q D.length c))=some p→w.heap.size+1≤p):=Lh fun p hp=>(World.ownsRow.lt HOwa.out p hp).1
    go_wp2_with (at_builtin;refine app_pr Tryz.underlying54 info_of_cla rfl (.tmp 27) (.tmp 29) rfl (w.heap.size+1) _ D (a1,a2) _ rfl rfl rfl HOwa hdl hgwa ?_;intro owb cwb wb own7 grow7;have HOwb:=Lh own7;have HGwb:=Lh grow7;clear own7 grow7)
    have HLwb:=Lh (below_grown HLwa.out HGwb.out HRwb.out hgwa)
    have hgwb:w.heap.size+1≤wb.heap.size:=Nat.le_trans hgwa HGwb.out.size
    have HDwb:=Lh (Bnd.snoc (a:=(a1,a2)) HBd.out ha.out)
    have hdwb:(D ++ [(a1,a2)]).length≤1000000:=by simp only [List.length_append,List.length_cons,List.length_nil];omega
    clear q0 q1 f0 f1
    have hkf:blk wb w.heap.size 82 #[.string (bb a1),.string (bb a2)]:=by have h:=HK.out;unfold blk at h ⊢;rw [HLwb.out.block _ (Nat.lt_succ_self _)];exact h
    have f0:wb.cell? ⟨w.heap.size,0,none⟩=some (.string (bb a1)):=by rw [blk_cell hkf];rfl
    have f1:wb.cell? ⟨w.heap.size,1,none⟩=some (.string (bb a2)):=by rw [blk_cell hkf];rfl
    obtain ⟨A',e',q0,q1,-,-⟩:=(h.out.keep (HB.out.trans (HLwb.out.mono (by omega)))).get hlt
    cases e'
    rw [HUl.out] at q0 q1
    simp only at q0 q1
    clear hkf
    go_wp2_with fail
    go_quiet (fail)
    have HOwc:Hid ((wb.drewN nq).ownsRow (w.heap.size+1) 82 2 (.slice owb (D.length+1) cwb) (D ++ [(a1,a2)]).length ((D ++ [(a1,a2)]).flatMap prC)):=Lh HOwb.out
    have HLwc:Hid (Below (w.heap.size+1) wF (wb.drewN nq)):=Lh (HLwb.out.trans ((drew_n wb nq).mono hgwb))
    have hgwc:w.heap.size+1≤(wb.drewN nq).heap.size:=hgwb
    clear q0 q1 f0 f1
    generalize wb.drewN nq=wc at HOwc HLwc hgwc ⊢
    have hkf:blk wc w.heap.size 82 #[.string (bb a1),.string (bb a2)]:=by have h:=HK.out;unfold blk at h ⊢;rw [HLwc.out.block _ (Nat.lt_succ_self _)];exact h
    have f0:wc.cell? ⟨w.heap.size,0,none⟩=some (.string (bb a1)):=by rw [blk_cell hkf];rfl
    have f1:wc.cell? ⟨w.heap.size,1,none⟩=some (.string (bb a2)):=by rw [blk_cell hkf];rfl
    obtain ⟨A',e',q0,q1,-,-⟩:=(h.out.keep (HB.out.trans (HLwc.out.mono (by omega)))).get hlt
    cases e'
    rw [HUl.out] at q0 q1
    simp only at q0 q1
    clear hkf
    go_wp2
    go_roundw
    case rel=>exact ⟨k+1,true,(D ++ [(a1,a2)]),owb,cwb,by simp,rfl,by go_num,by omega,by first | omega | (simp only [List.length_append,List.length_cons,List.length_nil];omega),by have:=HF.out;simpa using this,HDwb.out,by have:=HOwc.out;simpa using this,HLwc.out⟩
    case measure=>simp [intOf];omega
   ·go_wp2_with fail
    go_quiet (fail)
    have HOwa:Hid ((wr.drewN nq).ownsRow (w.heap.size+1) 82 2 (.slice q D.length c) D.length (D.flatMap prC)):=Lh HOw.out
    have HLwa:Hid (Below (w.heap.size+1) wF (wr.drewN nq)):=Lh (HBl.out.trans ((drew_n wr nq).mono hgb))
    have hgwa:w.heap.size+1≤(wr.drewN nq).heap.size:=hgb
    clear q0 q1 f0 f1
    generalize wr.drewN nq=wa at HOwa HLwa hgwa ⊢
    have hkf:blk wa w.heap.size 82 #[.string (bb a1),.string (bb a2)]:=by have h:=HK.out;unfold blk at h ⊢;rw [HLwa.out.block _ (Nat.lt_succ_self _)];exact h
    have f0:wa.cell? ⟨w.heap.size,0,none⟩=some (.string (bb a1)):=by rw [blk_cell hkf];rfl
    have f1:wa.cell? ⟨w.heap.size,1,none⟩=some (.string (bb a2)):=by rw [blk_cell hkf];rfl
    obtain ⟨A',e',q0,q1,-,-⟩:=(h.out.keep (HB.out.trans (HLwa.out.mono (by omega)))).get hlt
    cases e'
    rw [HUl.out] at q0 q1
    simp only at q0 q1
    clear hkf
    go_wp2_with fail
    go_quiet (fail)
    have HOwc:Hid ((wa.drewN nq).ownsRow (w.heap.size+1) 82 2 (.slice q D.length c) D.length (D.flatMap prC)):=Lh HOwa.out
    have HLwc:Hid (Below (w.heap.size+1) wF (wa.drewN nq)):=Lh (HLwa.out.trans ((drew_n wa nq).mono hgwa))
    have hgwc:w.heap.size+1≤(wa.drewN nq).heap.size:=hgwa
    clear q0 q1 f0 f1
    generalize wa.drewN nq=wc at HOwc HLwc hgwc ⊢
    have hkf:blk wc w.heap.size 82 #[.string (bb a1),.string (bb a2)]:=by have h:=HK.out;unfold blk at h ⊢;rw [HLwc.out.block _ (Nat.lt_succ_self _)];exact h
    have f0:wc.cell? ⟨w.heap.size,0,none⟩=some (.string (bb a1)):=by rw [blk_cell hkf];rfl
    have f1:wc.cell? ⟨w.heap.size,1,none⟩=some (.string (bb a2)):=by rw [blk_cell hkf];rfl
    obtain ⟨A',e',q0,q1,-,-⟩:=(h.out.keep (HB.out.trans (HLwc.out.mono (by omega)))).get hlt
    cases e'
    rw [HUl.out] at q0 q1
    simp only at q0 q1
    clear hkf
    have HRwd:Hid (∀ p,(Value.ownBlock (.slice q D.length c))=some p→w.heap.size+1≤p):=Lh fun p hp=>(World.ownsRow.lt HOwc.out p hp).1
    go_wp2_with (at_builtin;refine app_pr Tryz.underlying54 info_of_cla rfl (.tmp 39) (.tmp 44) rfl (w.heap.size+1) _ D (u1,u2) _ rfl rfl rfl HOwc hdl hgwc ?_;intro owd cwd wd own7 grow7;have HOwd:=Lh own7;have HGwd:=Lh grow7;clear own7 grow7)
    have HLwd:=Lh (below_grown HLwc.out HGwd.out HRwd.out hgwc)
    have hgwd:w.heap.size+1≤wd.heap.size:=Nat.le_trans hgwc HGwd.out.size
    have HDwd:=Lh (Bnd.snoc (a:=(u1,u2)) HBd.out HU.out)
    have hdwd:(D ++ [(u1,u2)]).length≤1000000:=by simp only [List.length_append,List.length_cons,List.length_nil];omega
    clear q0 q1 f0 f1
    have hkf:blk wd w.heap.size 82 #[.string (bb a1),.string (bb a2)]:=by have h:=HK.out;unfold blk at h ⊢;rw [HLwd.out.block _ (Nat.lt_succ_self _)];exact h
    have f0:wd.cell? ⟨w.heap.size,0,none⟩=some (.string (bb a1)):=by rw [blk_cell hkf];rfl
    have f1:wd.cell? ⟨w.heap.size,1,none⟩=some (.string (bb a2)):=by rw [blk_cell hkf];rfl
    obtain ⟨A',e',q0,q1,-,-⟩:=(h.out.keep (HB.out.trans (HLwd.out.mono (by omega)))).get hlt
    cases e'
    rw [HUl.out] at q0 q1
    simp only at q0 q1
    clear hkf
    go_roundw
    case rel=>exact ⟨k+1,false,(D ++ [(u1,u2)]),owd,cwd,by simp,rfl,by go_num,by omega,by first | omega | (simp only [List.length_append,List.length_cons,List.length_nil];omega),by have:=HF.out;simpa using this,HDwd.out,by have:=HOwd.out;simpa using this,HLwd.out⟩
    case measure=>simp [intOf];omega
   ·go_wp2_with fail
    go_quiet (fail)
    have HOwa:Hid ((wr.drewN nq).ownsRow (w.heap.size+1) 82 2 (.slice q D.length c) D.length (D.flatMap prC)):=Lh HOw.out
    have HLwa:Hid (Below (w.heap.size+1) wF (wr.drewN nq)):=Lh (HBl.out.trans ((drew_n wr nq).mono hgb))
    have hgwa:w.heap.size+1≤(wr.drewN nq).heap.size:=hgb
    clear q0 q1 f0 f1
    generalize wr.drewN nq=wa at HOwa HLwa hgwa ⊢
    have hkf:blk wa w.heap.size 82 #[.string (bb a1),.string (bb a2)]:=by have h:=HK.out;unfold blk at h ⊢;rw [HLwa.out.block _ (Nat.lt_succ_self _)];exact h
    have f0:wa.cell? ⟨w.heap.size,0,none⟩=some (.string (bb a1)):=by rw [blk_cell hkf];rfl
    have f1:wa.cell? ⟨w.heap.size,1,none⟩=some (.string (bb a2)):=by rw [blk_cell hkf];rfl
    obtain ⟨A',e',q0,q1,-,-⟩:=(h.out.keep (HB.out.trans (HLwa.out.mono (by omega)))).get hlt
    cases e'
    rw [HUl.out] at q0 q1
    simp only at q0 q1
    clear hkf
    go_wp2_with fail
    go_quiet (fail)
    have HOwc:Hid ((wa.drewN nq).ownsRow (w.heap.size+1) 82 2 (.slice q D.length c) D.length (D.flatMap prC)):=Lh HOwa.out
    have HLwc:Hid (Below (w.heap.size+1) wF (wa.drewN nq)):=Lh (HLwa.out.trans ((drew_n wa nq).mono hgwa))
    have hgwc:w.heap.size+1≤(wa.drewN nq).heap.size:=hgwa
    clear q0 q1 f0 f1
    generalize wa.drewN nq=wc at HOwc HLwc hgwc ⊢
    have hkf:blk wc w.heap.size 82 #[.string (bb a1),.string (bb a2)]:=by have h:=HK.out;unfold blk at h ⊢;rw [HLwc.out.block _ (Nat.lt_succ_self _)];exact h
    have f0:wc.cell? ⟨w.heap.size,0,none⟩=some (.string (bb a1)):=by rw [blk_cell hkf];rfl
    have f1:wc.cell? ⟨w.heap.size,1,none⟩=some (.string (bb a2)):=by rw [blk_cell hkf];rfl
    obtain ⟨A',e',q0,q1,-,-⟩:=(h.out.keep (HB.out.trans (HLwc.out.mono (by omega)))).get hlt
    cases e'
    rw [HUl.out] at q0 q1
    simp only at q0 q1
    clear hkf
    go_wp2
    go_roundw
    case rel=>exact ⟨k+1,false,D,q,c,by simp,rfl,by go_num,by omega,by first | omega | (simp only [List.length_append,List.length_cons,List.length_nil];omega),by have:=HF.out;simpa using this,HBd.out,by have:=HOwc.out;simpa using this,HLwc.out⟩
    case measure=>simp [intOf];omega
   ·go_wp2_with fail
    go_quiet (fail)
    have HOwa:Hid ((wr.drewN nq).ownsRow (w.heap.size+1) 82 2 (.slice q D.length c) D.length (D.flatMap prC)):=Lh HOw.out
    have HLwa:Hid (Below (w.heap.size+1) wF (wr.drewN nq)):=Lh (HBl.out.trans ((drew_n wr nq).mono hgb))
    have hgwa:w.heap.size+1≤(wr.drewN nq).heap.size:=hgb
    clear q0 q1 f0 f1
    generalize wr.drewN nq=wa at HOwa HLwa hgwa ⊢
    have hkf:blk wa w.heap.size 82 #[.string (bb a1),.string (bb a2)]:=by have h:=HK.out;unfold blk at h ⊢;rw [HLwa.out.block _ (Nat.lt_succ_self _)];exact h
    have f0:wa.cell? ⟨w.heap.size,0,none⟩=some (.string (bb a1)):=by rw [blk_cell hkf];rfl
    have f1:wa.cell? ⟨w.heap.size,1,none⟩=some (.string (bb a2)):=by rw [blk_cell hkf];rfl
    obtain ⟨A',e',q0,q1,-,-⟩:=(h.out.keep (HB.out.trans (HLwa.out.mono (by omega)))).get hlt
    cases e'
    rw [HUl.out] at q0 q1
    simp only at q0 q1
    clear hkf
    go_wp2_with fail
    go_quiet (fail)
    have HOwc:Hid ((wa.drewN nq).ownsRow (w.heap.size+1) 82 2 (.slice q D.length c) D.length (D.flatMap prC)):=Lh HOwa.out
    have HLwc:Hid (Below (w.heap.size+1) wF (wa.drewN nq)):=Lh (HLwa.out.trans ((drew_n wa nq).mono hgwa))
    have hgwc:w.heap.size+1≤(wa.drewN nq).heap.size:=hgwa
    clear q0 q1 f0 f1
    generalize wa.drewN nq=wc at HOwc HLwc hgwc ⊢
    have hkf:blk wc w.heap.size 82 #[.string (bb a1),.string (bb a2)]:=by have h:=HK.out;unfold blk at h ⊢;rw [HLwc.out.block _ (Nat.lt_succ_self _)];exact h
    have f0:wc.cell? ⟨w.heap.size,0,none⟩=some (.string (bb a1)):=by rw [blk_cell hkf];rfl
    have f1:wc.cell? ⟨w.heap.size,1,none⟩=some (.string (bb a2)):=by rw [blk_cell hkf];rfl
    obtain ⟨A',e',q0,q1,-,-⟩:=(h.out.keep (HB.out.trans (HLwc.out.mono (by omega)))).get hlt
    cases e'
    rw [HUl.out] at q0 q1
    simp only at q0 q1
    clear hkf
    have HRwd:Hid (∀ p,(Value.ownBlock (.slice q D.length c))=some p→w.heap.size+1≤p):=Lh fun p hp=>(World.ownsRow.lt HOwc.out p hp).1
    go_wp2_with (at_builtin;refine app_pr Tryz.underlying54 info_of_cla rfl (.tmp 39) (.tmp 44) rfl (w.heap.size+1) _ D (u1,u2) _ rfl rfl rfl HOwc hdl hgwc ?_;intro owd cwd wd own7 grow7;have HOwd:=Lh own7;have HGwd:=Lh grow7;clear own7 grow7)
    have HLwd:=Lh (below_grown HLwc.out HGwd.out HRwd.out hgwc)
    have hgwd:w.heap.size+1≤wd.heap.size:=Nat.le_trans hgwc HGwd.out.size
    have HDwd:=Lh (Bnd.snoc (a:=(u1,u2)) HBd.out HU.out)
    have hdwd:(D ++ [(u1,u2)]).length≤1000000:=by simp only [List.length_append,List.length_cons,List.length_nil];omega
    clear q0 q1 f0 f1
    have hkf:blk wd w.heap.size 82 #[.string (bb a1),.string (bb a2)]:=by have h:=HK.out;unfold blk at h ⊢;rw [HLwd.out.block _ (Nat.lt_succ_self _)];exact h
    have f0:wd.cell? ⟨w.heap.size,0,none⟩=some (.string (bb a1)):=by rw [blk_cell hkf];rfl
    have f1:wd.cell? ⟨w.heap.size,1,none⟩=some (.string (bb a2)):=by rw [blk_cell hkf];rfl
    obtain ⟨A',e',q0,q1,-,-⟩:=(h.out.keep (HB.out.trans (HLwd.out.mono (by omega)))).get hlt
    cases e'
    rw [HUl.out] at q0 q1
    simp only at q0 q1
    clear hkf
    go_roundw
    case rel=>exact ⟨k+1,true,(D ++ [(u1,u2)]),owd,cwd,by simp,rfl,by go_num,by omega,by first | omega | (simp only [List.length_append,List.length_cons,List.length_nil];omega),by have:=HF.out;simpa using this,HDwd.out,by have:=HOwd.out;simpa using this,HLwd.out⟩
    case measure=>simp [intOf];omega
   ·go_wp2_with fail
    go_quiet (fail)
    have HOwa:Hid ((wr.drewN nq).ownsRow (w.heap.size+1) 82 2 (.slice q D.length c) D.length (D.flatMap prC)):=Lh HOw.out
    have HLwa:Hid (Below (w.heap.size+1) wF (wr.drewN nq)):=Lh (HBl.out.trans ((drew_n wr nq).mono hgb))
    have hgwa:w.heap.size+1≤(wr.drewN nq).heap.size:=hgb
    clear q0 q1 f0 f1
    generalize wr.drewN nq=wa at HOwa HLwa hgwa ⊢
    have hkf:blk wa w.heap.size 82 #[.string (bb a1),.string (bb a2)]:=by have h:=HK.out;unfold blk at h ⊢;rw [HLwa.out.block _ (Nat.lt_succ_self _)];exact h
    have f0:wa.cell? ⟨w.heap.size,0,none⟩=some (.string (bb a1)):=by rw [blk_cell hkf];rfl
    have f1:wa.cell? ⟨w.heap.size,1,none⟩=some (.string (bb a2)):=by rw [blk_cell hkf];rfl
    obtain ⟨A',e',q0,q1,-,-⟩:=(h.out.keep (HB.out.trans (HLwa.out.mono (by omega)))).get hlt
    cases e'
    rw [HUl.out] at q0 q1
    simp only at q0 q1
    clear hkf
    go_wp2_with fail
    go_quiet (fail)
    have HOwc:Hid ((wa.drewN nq).ownsRow (w.heap.size+1) 82 2 (.slice q D.length c) D.length (D.flatMap prC)):=Lh HOwa.out
    have HLwc:Hid (Below (w.heap.size+1) wF (wa.drewN nq)):=Lh (HLwa.out.trans ((drew_n wa nq).mono hgwa))
    have hgwc:w.heap.size+1≤(wa.drewN nq).heap.size:=hgwa
    clear q0 q1 f0 f1
    generalize wa.drewN nq=wc at HOwc HLwc hgwc ⊢
    have hkf:blk wc w.heap.size 82 #[.string (bb a1),.string (bb a2)]:=by have h:=HK.out;unfold blk at h ⊢;rw [HLwc.out.block _ (Nat.lt_succ_self _)];exact h
    have f0:wc.cell? ⟨w.heap.size,0,none⟩=some (.string (bb a1)):=by rw [blk_cell hkf];rfl
    have f1:wc.cell? ⟨w.heap.size,1,none⟩=some (.string (bb a2)):=by rw [blk_cell hkf];rfl
    obtain ⟨A',e',q0,q1,-,-⟩:=(h.out.keep (HB.out.trans (HLwc.out.mono (by omega)))).get hlt
    cases e'
    rw [HUl.out] at q0 q1
    simp only at q0 q1
    clear hkf
    go_wp2
    go_roundw
    case rel=>exact ⟨k+1,true,D,q,c,by simp,rfl,by go_num,by omega,by first | omega | (simp only [List.length_append,List.length_cons,List.length_nil];omega),by have:=HF.out;simpa using this,HBd.out,by have:=HOwc.out;simpa using this,HLwc.out⟩
    case measure=>simp [intOf];omega
   ·go_wp2_with fail
    go_quiet (fail)
    have HOwa:Hid ((wr.drewN nq).ownsRow (w.heap.size+1) 82 2 (.slice q D.length c) D.length (D.flatMap prC)):=Lh HOw.out
    have HLwa:Hid (Below (w.heap.size+1) wF (wr.drewN nq)):=Lh (HBl.out.trans ((drew_n wr nq).mono hgb))
    have hgwa:w.heap.size+1≤(wr.drewN nq).heap.size:=hgb
    clear q0 q1 f0 f1
    generalize wr.drewN nq=wa at HOwa HLwa hgwa ⊢
    have hkf:blk wa w.heap.size 82 #[.string (bb a1),.string (bb a2)]:=by have h:=HK.out;unfold blk at h ⊢;rw [HLwa.out.block _ (Nat.lt_succ_self _)];exact h
    have f0:wa.cell? ⟨w.heap.size,0,none⟩=some (.string (bb a1)):=by rw [blk_cell hkf];rfl
    have f1:wa.cell? ⟨w.heap.size,1,none⟩=some (.string (bb a2)):=by rw [blk_cell hkf];rfl
    obtain ⟨A',e',q0,q1,-,-⟩:=(h.out.keep (HB.out.trans (HLwa.out.mono (by omega)))).get hlt
    cases e'
    rw [HUl.out] at q0 q1
    simp only at q0 q1
    clear hkf
    go_wp2_with fail
    go_quiet (fail)
    have HOwc:Hid ((wa.drewN nq).ownsRow (w.heap.size+1) 82 2 (.slice q D.length c) D.length (D.flatMap prC)):=Lh HOwa.out
    have HLwc:Hid (Below (w.heap.size+1) wF (wa.drewN nq)):=Lh (HLwa.out.trans ((drew_n wa nq).mono hgwa))
    have hgwc:w.heap.size+1≤(wa.drewN nq).heap.size:=hgwa
    clear q0 q1 f0 f1
    generalize wa.drewN nq=wc at HOwc HLwc hgwc ⊢
    have hkf:blk wc w.heap.size 82 #[.string (bb a1),.string (bb a2)]:=by have h:=HK.out;unfold blk at h ⊢;rw [HLwc.out.block _ (Nat.lt_succ_self _)];exact h
    have f0:wc.cell? ⟨w.heap.size,0,none⟩=some (.string (bb a1)):=by rw [blk_cell hkf];rfl
    have f1:wc.cell? ⟨w.heap.size,1,none⟩=some (.string (bb a2)):=by rw [blk_cell hkf];rfl
    obtain ⟨A',e',q0,q1,-,-⟩:=(h.out.keep (HB.out.trans (HLwc.out.mono (by omega)))).get hlt
    cases e'
    rw [HUl.out] at q0 q1
    simp only at q0 q1
    clear hkf
    have HRwd:Hid (∀ p,(Value.ownBlock (.slice q D.length c))=some p→w.heap.size+1≤p):=Lh fun p hp=>(World.ownsRow.lt HOwc.out p hp).1
    go_wp2_with (at_builtin;refine app_pr Tryz.underlying54 info_of_cla rfl (.tmp 39) (.tmp 44) rfl (w.heap.size+1) _ D (u1,u2) _ rfl rfl rfl HOwc hdl hgwc ?_;intro owd cwd wd own7 grow7;have HOwd:=Lh own7;have HGwd:=Lh grow7;clear own7 grow7)
    have HLwd:=Lh (below_grown HLwc.out HGwd.out HRwd.out hgwc)
    have hgwd:w.heap.size+1≤wd.heap.size:=Nat.le_trans hgwc HGwd.out.size
    have HDwd:=Lh (Bnd.snoc (a:=(u1,u2)) HBd.out HU.out)
    have hdwd:(D ++ [(u1,u2)]).length≤1000000:=by simp only [List.length_append,List.length_cons,List.length_nil];omega
    clear q0 q1 f0 f1
    have hkf:blk wd w.heap.size 82 #[.string (bb a1),.string (bb a2)]:=by have h:=HK.out;unfold blk at h ⊢;rw [HLwd.out.block _ (Nat.lt_succ_self _)];exact h
    have f0:wd.cell? ⟨w.heap.size,0,none⟩=some (.string (bb a1)):=by rw [blk_cell hkf];rfl
    have f1:wd.cell? ⟨w.heap.size,1,none⟩=some (.string (bb a2)):=by rw [blk_cell hkf];rfl
    obtain ⟨A',e',q0,q1,-,-⟩:=(h.out.keep (HB.out.trans (HLwd.out.mono (by omega)))).get hlt
    cases e'
    rw [HUl.out] at q0 q1
    simp only at q0 q1
    clear hkf
    go_roundw
    case rel=>exact ⟨k+1,true,(D ++ [(u1,u2)]),owd,cwd,by simp,rfl,by go_num,by omega,by first | omega | (simp only [List.length_append,List.length_cons,List.length_nil];omega),by have:=HF.out;simpa using this,HDwd.out,by have:=HOwd.out;simpa using this,HLwd.out⟩
    case measure=>simp [intOf];omega
   ·go_wp2_with fail
    go_quiet (fail)
    have HOwa:Hid ((wr.drewN nq).ownsRow (w.heap.size+1) 82 2 (.slice q D.length c) D.length (D.flatMap prC)):=Lh HOw.out
    have HLwa:Hid (Below (w.heap.size+1) wF (wr.drewN nq)):=Lh (HBl.out.trans ((drew_n wr nq).mono hgb))
    have hgwa:w.heap.size+1≤(wr.drewN nq).heap.size:=hgb
    clear q0 q1 f0 f1
    generalize wr.drewN nq=wa at HOwa HLwa hgwa ⊢
    have hkf:blk wa w.heap.size 82 #[.string (bb a1),.string (bb a2)]:=by have h:=HK.out;unfold blk at h ⊢;rw [HLwa.out.block _ (Nat.lt_succ_self _)];exact h
    have f0:wa.cell? ⟨w.heap.size,0,none⟩=some (.string (bb a1)):=by rw [blk_cell hkf];rfl
    have f1:wa.cell? ⟨w.heap.size,1,none⟩=some (.string (bb a2)):=by rw [blk_cell hkf];rfl
    obtain ⟨A',e',q0,q1,-,-⟩:=(h.out.keep (HB.out.trans (HLwa.out.mono (by omega)))).get hlt
    cases e'
    rw [HUl.out] at q0 q1
    simp only at q0 q1
    clear hkf
    go_wp2_with fail
    go_quiet (fail)
    have HOwc:Hid ((wa.drewN nq).ownsRow (w.heap.size+1) 82 2 (.slice q D.length c) D.length (D.flatMap prC)):=Lh HOwa.out
    have HLwc:Hid (Below (w.heap.size+1) wF (wa.drewN nq)):=Lh (HLwa.out.trans ((drew_n wa nq).mono hgwa))
    have hgwc:w.heap.size+1≤(wa.drewN nq).heap.size:=hgwa
    clear q0 q1 f0 f1
    generalize wa.drewN nq=wc at HOwc HLwc hgwc ⊢
    have hkf:blk wc w.heap.size 82 #[.string (bb a1),.string (bb a2)]:=by have h:=HK.out;unfold blk at h ⊢;rw [HLwc.out.block _ (Nat.lt_succ_self _)];exact h
    have f0:wc.cell? ⟨w.heap.size,0,none⟩=some (.string (bb a1)):=by rw [blk_cell hkf];rfl
    have f1:wc.cell? ⟨w.heap.size,1,none⟩=some (.string (bb a2)):=by rw [blk_cell hkf];rfl
    obtain ⟨A',e',q0,q1,-,-⟩:=(h.out.keep (HB.out.trans (HLwc.out.mono (by omega)))).get hlt
    cases e'
    rw [HUl.out] at q0 q1
    simp only at q0 q1
    clear hkf
    go_wp2
    go_roundw
    case rel=>exact ⟨k+1,true,D,q,c,by simp,rfl,by go_num,by omega,by first | omega | (simp only [List.length_append,List.length_cons,List.length_nil];omega),by have:=HF.out;simpa using this,HBd.out,by have:=HOwc.out;simpa using this,HLwc.out⟩
    case measure=>simp [intOf];omega
  ·obtain rfl:k=l.length:=by omega
   have HF:Hid (D ++ putA (a1,a2) [] d=R):=Lh (by rw [← hfe,List.drop_length])
   clear hfe
   have hkf:blk wr w.heap.size 82 #[.string (bb a1),.string (bb a2)]:=by have h:=HK.out;unfold blk at h ⊢;rw [HBl.out.block _ (Nat.lt_succ_self _)];exact h
   have f0:wr.cell? ⟨w.heap.size,0,none⟩=some (.string (bb a1)):=by rw [blk_cell hkf];rfl
   have f1:wr.cell? ⟨w.heap.size,1,none⟩=some (.string (bb a2)):=by rw [blk_cell hkf];rfl
   clear hkf
   cases d
   ·have HRw:Hid (∀ p,(Value.ownBlock (.slice q D.length c))=some p→w.heap.size+1≤p):=Lh fun p hp=>(World.ownsRow.lt HOw.out p hp).1
    go_wp2_with (at_builtin;refine app_pr Tryz.underlying54 info_of_cla rfl (.tmp 48) (.tmp 50) rfl (w.heap.size+1) _ D (a1,a2) _ rfl rfl rfl HOw hdl hgb ?_;intro oz cz wz own7 grow7;have HOz:=Lh own7;have HGz:=Lh grow7;clear own7 grow7)
    have HLz:=Lh (below_grown HBl.out HGz.out HRw.out hgb)
    have HPz:Hid (PrsT wz (.slice oz (D.length+1) cz) (D ++ [(a1,a2)])):=Lh (own_prsT HOz.out (Bnd.snoc (a:=(a1,a2)) HBd.out ha.out))
    go_ret
    exact ⟨_,rfl,by rw [← HF.out];exact HPz.out,HB.out.trans (HLz.out.mono (by omega))⟩
   ·go_wp2
    go_ret
    exact ⟨_,rfl,by rw [← HF.out];show PrsT wr _ (D ++ []);rw [List.append_nil];exact own_prsT HOw.out HBd.out,HBw.out⟩
end Go.Proofs.YtcdoicgbjoikkaaGreatDoor.att
