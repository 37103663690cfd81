/-
  Lists of ports in memory, rows of ports that a call makes, and plain facts on a part's first space. No condition.
  What Ports of the reference returns. Condition: texts of at most 20000 bytes.
  What Check of the reference returns. Condition: values of at most 20000 bytes.
-/
import Derived.Test.YtcdoicgbjoikkaaGreatDoorMcc
namespace Go.Proofs.YtcdoicgbjoikkaaGreatDoor.att
open Go.RowKit lex tre
abbrev Pt:=List UInt8 × Int
def poC (p:Pt):List Value:=[.string (bb p.1),.int .i64 p.2]
def poAt (w:World)(A:Addr)(i:Nat)(p:Pt):Prop:=w.cell? (A.add (i*2))=some (.string (bb p.1))∧w.cell? ⟨(A.add (i*2)).block,(A.add (i*2)).off+1,none⟩=some (.int .i64 p.2)
def Pos (w:World)(v:Value)(l:List Pt):Prop:=∃ (ao:Option Addr) (cap:Nat),v=.slice ao l.length cap∧l.length≤cap∧cap≤maxLen∧(0 < l.length→∃ A,ao=some A∧∀ i (h:i < l.length),poAt w A i l[i])
theorem Pos.keep {w1 w2:World}{v:Value}{l:List Pt}(h:Pos w1 v l)(hb:Below w1.heap.size w1 w2):Pos w2 v l:=by
 obtain ⟨ao,cap,rfl,hc,hm,hA⟩:=h
 exact ⟨ao,cap,rfl,hc,hm,fun hn=>by obtain ⟨A,rfl,h2⟩:=hA hn;exact ⟨A,rfl,fun i hi=>⟨cell_later' hb (h2 i hi).1,cell_later' hb (h2 i hi).2⟩⟩⟩
theorem Pos.nil (w:World):Pos w (.slice none 0 0) []:=⟨none,0,rfl,Nat.le_refl _,by decide,fun h=>absurd h (by simp)⟩
theorem Pos.get {w:World}{ao:Option Addr}{n cap:Nat}{l:List Pt}(h:Pos w (.slice ao n cap) l){k:Nat}(hk:k < l.length):∃ A,ao=some A∧poAt w A k l[k]:=by
 obtain ⟨ao',cap',e,_,_,hA⟩:=h
 cases e
 obtain ⟨A,rfl,h2⟩:=hA (by omega)
 exact ⟨A,rfl,h2 k hk⟩
def Prow (w:World)(B:Nat)(v:Value)(l:List Pt):Prop:=w.ownsRow B 129 2 v l.length (l.flatMap poC)
theorem Prow.pos {w:World}{B:Nat}{v:Value}{l:List Pt}(h:Prow w B v l):Pos w v l:=by
 unfold Prow at h
 by_cases h0:l.length=0
 ·obtain ⟨ao,cap,rfl,h1,h2⟩:=own_form h
  exact ⟨ao,cap,rfl,h1,h2,fun hn=>by omega⟩
 ·obtain ⟨g,cap,arr,rfl,hB',hk,h1,h2,h3⟩:=own_blk h (by omega)
  refine ⟨_,cap,rfl,h1,h2,fun _=>⟨_,rfl,fun i hi=>?_⟩⟩
  have e0:=flat_get poC 2 (fun _=>rfl) l i 0 hi (by decide)
  have e1:=flat_get poC 2 (fun _=>rfl) l i 1 hi (by decide)
  refine ⟨?_,?_⟩
  ·rw [add_at,Nat.zero_add,blk_cell hk,← Nat.add_zero (i*2),h3 _ (by omega)];exact e0
  ·rw [add_at]
   show w.cell? ⟨g,0+i*2+1,none⟩=_
   rw [Nat.zero_add,blk_cell hk,h3 _ (by omega)];exact e1
structure PosT (w:World)(v:Value)(l:List Pt):Prop where
 pos:Pos w v l
 typ:∀ g,v.ownBlock=some g→∃ arr fr,w.heap[g]?=some (.cells arr 129 fr)
theorem PosT.nil (w:World):PosT w (.slice none 0 0) []:=⟨Pos.nil w,fun g hg=>by cases hg⟩
theorem Prow.posT {w:World}{B:Nat}{v:Value}{l:List Pt}(h:Prow w B v l):PosT w v l:=by
 refine ⟨h.pos,fun g hg=>?_⟩
 unfold Prow at h
 rcases h.2 with ⟨rfl,_⟩ | ⟨g',cap,cur,rfl,_,hk,_⟩
 ·cases hg
 ·obtain rfl:g'=g:=Option.some.inj hg
  exact ⟨_,_,hk⟩
theorem info_cpo:(Tryz.prog.info? 129).map (fun i=>(i.zero,i.size,i.bytes))=some (some (.agg #[.string ⟨#[]⟩,.int .i64 0]),2,24):=by kernel_rfl
theorem info_of_cpo:∃ i,Tryz.prog.info? 129=some i∧i.zero=some (.agg #[.string ⟨#[]⟩,.int .i64 0])∧i.size=2∧i.bytes=24:=by
 have h:=info_cpo
 cases hq:Tryz.prog.info? 129 with
 | none=>rw [hq] at h;cases h
 | some i =>
  rw [hq] at h
  simp only [Option.map_some,Option.some.injEq,Prod.mk.injEq] at h
  exact ⟨i,rfl,h.1,h.2.1,h.2.2⟩
theorem app_po {w:World}{ops:Array Oper}{rest:List Oper}{o:Oper}{a:Act}{Q:Exit→Act→World→Prop}(hg:o.guard=none)(p y:Operand)(ho:o.op=.call { callee:=.builtin .append,args:=#[p,y],argTypes:=#[43,43] })
    (B:Nat) (v:Value) (l:List Pt) (x:ByteArray) (d:Int) (H:Nat) (hH:w.heap.size=H) (hs:a.eval p=v) (hx:a.eval y=.slice (some ⟨H,0,none⟩) 1 1) (h:Hid (Prow w B v l)) (hl:l.length≤1000000) (hB:B≤w.heap.size)
    (hK:∀ ao cap w',Prow w' B (.slice ao (l.length+1) cap) (l ++ [(x.data.toList,d)])→w.grownBy w' v.ownBlock→wpList Tryz.prog ops Q rest (a.put o.dst (.slice ao (l.length+1) cap)) w'):wpList Tryz.prog ops Q (o :: rest) a (w.alloc (.cells #[.string x,.int .i64 d] 129)):=by
 subst hH
 obtain ⟨i0,hi,hz0,hz1,hz2⟩:=info_of_cpo
 refine wpList_append_own _ hg p y 43 ho B 129 i0 _ 2 24 Tryz.underlying43 hi hz0 hz1 hz2 rfl (by decide) v l.length _ hs (World.ownsRow.alloc h.out _) ⟨w.heap.size,0,none⟩ 1 1 [.string x,.int .i64 d] hx rfl ?_ (by simp [Value.oneCell']) (by unfold maxLen;omega) (by omega) (by simp;omega) ?_
 ·intro j u hj
  rw [add_at,Nat.zero_add,blk_cell (blk_new w #[.string x,.int .i64 d] 129),← hj]
  simp
 ·intro v' w' hown hgrow _
  obtain ⟨ao,cap,rfl,_,_⟩:=own_form hown
  refine hK ao cap w' ?_ ?_
  ·unfold Prow
   rw [List.length_append,List.flatMap_append]
   have hx:bb x.data.toList=x:=by simp [bb]
   show World.ownsRow _ _ _ _ _ _ (_ ++ (poC (x.data.toList,d) ++ []))
   unfold poC
   simp only [hx,List.append_nil]
   exact hown
  ·refine ⟨hgrow.os,hgrow.tape,hgrow.output,Nat.le_trans (by simp) hgrow.size,fun k hk hne=>?_⟩
   rw [hgrow.block k (by simp;omega) hne,heap_alloc_old w _ hk]
def gapN (s:List UInt8):Nat:=(s.takeWhile (·≠32)).length
theorem gap_le (s:List UInt8):gapN s≤s.length:=takeWhile_le _ s
theorem gap_at:∀ (s:List UInt8) (k:Nat) (h:k < s.length),(s[k]=32→gapN s≤k)∧(s[k]≠32→gapN s≠k):=by
 intro s
 induction s with
 | nil=>intro k h;simp at h
 | cons c t ih =>
  intro k h
  unfold gapN at ih ⊢
  rw [List.takeWhile_cons]
  cases k with
  | zero =>
   constructor
   ·intro e;rw [if_neg (by simpa using e)];exact Nat.le_refl _
   ·intro e;rw [if_pos (by simpa using e)];simp
  | succ k =>
   have hk:k < t.length:=by simpa using h
   obtain ⟨i1,i2⟩:=ih k hk
   constructor
   ·intro e
    split
    ·have:=i1 e;simp only [List.length_cons];omega
    ·simp
   ·intro e
    split
    ·have:=i2 e;simp only [List.length_cons];omega
    ·simp
theorem gap_some {s:List UInt8}(h:gapN s < s.length):gapL s=some (s.take (gapN s),s.drop (gapN s+1)):=by
 unfold gapL gapN at *
 rw [if_pos h,takeWhile_take]
theorem gap_none {s:List UInt8}(h:¬ gapN s < s.length):gapL s=none:=by
 unfold gapL gapN at *
 rw [if_neg h]
theorem split_len:∀ (n:Nat) (L c:List UInt8),L.length≤n→∀ x∈splitA c L,x.length≤c.length+L.length:=by
 intro n
 induction n with
 | zero =>
  intro L c h x hx
  obtain rfl:L=[]:=List.length_eq_zero_iff.1 (by omega)
  rw [splitA] at hx
  rw [List.mem_singleton.1 hx];omega
 | succ n ih =>
  intro L c h x hx
  match L,h,hx with
  | [],_,hx=>rw [splitA] at hx;rw [List.mem_singleton.1 hx];omega
  | [a],_,hx=>rw [splitA] at hx;rw [List.mem_singleton.1 hx];simp
  | a :: b :: t,h,hx =>
   simp only [List.length_cons] at h
   rw [splitA] at hx
   split at hx
   ·rcases List.mem_cons.1 hx with rfl | hx
    ·omega
    ·have:=ih t [] (by omega) x hx;simp only [List.length_nil,List.length_cons] at this ⊢;omega
   ·have:=ih (b :: t) (c ++ [a]) (by simp only [List.length_cons];omega) x hx
    simp only [List.length_append,List.length_cons,List.length_nil] at this ⊢;omega
theorem Brow.get {w:World}{B:Nat}{ao:Option Addr}{n cap:Nat}{l:List ByteArray}(h:Brow w B (.slice ao n cap) l){k:Nat}(hk:k < l.length):∃ g,ao=some ⟨g,0,none⟩∧n=l.length∧w.cell? ⟨g,k,none⟩=some (.string l[k]):=by
 unfold Brow at h
 obtain ⟨g,cap',arr,e,hB',hb,h1,h2,h3⟩:=own_blk h (by omega)
 cases e
 refine ⟨g,rfl,rfl,?_⟩
 rw [blk_cell hb,h3 k (by omega)]
 rw [List.getElem?_map,List.getElem?_eq_getElem hk];rfl
theorem own_up {w:World}{B B' z n:Nat}{t:TypeId}{v:Value}{xs:List Value}(h:w.ownsRow B t z v n xs)(hB:B'≤B):w.ownsRow B' t z v n xs:=by
 obtain ⟨h1,h2⟩:=h
 refine ⟨h1,h2.imp id ?_⟩
 rintro ⟨g,cap,cur,rfl,hg,h3⟩
 exact ⟨g,cap,cur,rfl,Nat.le_trans hB hg,h3⟩
theorem own_keep {w w':World}{B z n:Nat}{t:TypeId}{v:Value}{xs:List Value}(h:w.ownsRow B t z v n xs)(hb:Below w.heap.size w w'):w'.ownsRow B t z v n xs:=by
 obtain ⟨h1,h2⟩:=h
 refine ⟨h1,h2.imp id ?_⟩
 rintro ⟨g,cap,cur,rfl,hg,hc,h3⟩
 have hlt:g < w.heap.size:=by
  rcases Nat.lt_or_ge g w.heap.size with h | h
  ·exact h
  ·rw [Array.getElem?_eq_none (by omega)] at hc;cases hc
 exact ⟨g,cap,cur,rfl,hg,by rw [hb.block g hlt];exact hc,h3⟩
theorem parts_nil (o:List Pt):partsL [] o=(o,0):=rfl
theorem parts_cons (s:List UInt8)(t:List (List UInt8))(o:List Pt):partsL (s :: t) o=if (partL s).1≠0 then ([],(partL s).1) else if o.any (fun p=>decide (p.1=(partL s).2.1)) then ([],6) else if o.length=8 then ([],2) else partsL t (o ++ [((partL s).2.1,(partL s).2.2)]):=rfl
set_option maxRecDepth 100000 in
set_option maxHeartbeats 8000000 in
theorem rportsT_of (s:ByteArray)(l:List Pt)(e0:Int)(w:World)(hs:s.size≤20000)(hr:Hid (portsL s.data.toList=(l,e0))) :
    Calls Tryz.prog 81 #[.string s] w fun e w'=>∃ v,e=.returned (.tuple #[v,.int .i64 e0])∧PosT w' v l∧Below w.heap.size w w':=by
 have hn:=hr.out
 unfold portsL at hn
 have HB:=Lh (al1 w (.cells #[] 129))
 have HO:Hid (Prow (w.alloc (.cells #[] 129)) w.heap.size (.slice (some ⟨w.heap.size,0,none⟩) 0 0) []):=Lh (World.ownsRow_made (base:=w.heap.size) (e:=129) (size:=2) w #[] 0 (Nat.le_refl _) (by decide) rfl)
 clear hr
 by_cases h0:s.data.toList=[]
 ·rw [if_pos h0] at hn
  cases hn
  have b0:(s.toList == ([]:List UInt8))=true:=str_yes h0
  go_enter Tryz.func81,Tryz.ntmps81
  go_wp2
  go_ret2
  exact ⟨_,rfl,HO.out.posT,HB.out⟩
 rw [if_neg h0] at hn
 have b0:(s.toList == ([]:List UInt8))=false:=str_no h0
 have HN:=Lh hn
 clear h0 hn
 go_enter Tryz.func81,Tryz.ntmps81
 go_wp2_with fail
 generalize w.alloc (.cells #[] 129)=w0 at HO HB ⊢
 refine (rsplit_of s w0 hs).mono ?_
 rintro e w1 ⟨po,pc,P,rfl,hP,hPs,hb1⟩
 have HB1:=Lh (below_keep hb1 HB.out)
 have HP:Hid (Brow w1 w.heap.size (.slice po P.length pc) P):=Lh (own_up hP HB.out.size)
 have HO1:Hid (Prow w1 w.heap.size (.slice (some ⟨w.heap.size,0,none⟩) 0 0) []):=Lh (own_keep HO.out hb1)
 have HF0:Hid (partsL ((P.drop 0).map toL) []=(l,e0)):=Lh (by rw [List.drop_zero,hPs];exact HN.out)
 have HPl:Hid (P.length≤maxLen):=Lh (by obtain ⟨ao,cap,e,h1,h2⟩:=own_form hP;omega)
 have HPs:Hid (∀ t∈P,t.size≤20000):=Lh (fun t ht=>by
  have h1:toL t∈splitL s.data.toList:=by rw [← hPs];exact List.mem_map_of_mem ht
  have h2:=split_len _ _ _ (Nat.le_refl _) _ h1
  have h3:(toL t).length=t.size:=by unfold toL;simp
  have h4:s.data.toList.length=s.size:=by simp
  simp only [List.length_nil] at h2
  omega)
 have hplm:P.length≤9223372036854775807:=by have:=HPl.out;unfold maxLen at this;omega
 clear hP hPs hb1 HO HB HN
 go_wp2_with fail
 go_loopw [4,6] (fun ov iv wr=>∃ (k:Nat) (D:List Pt) (q:Option Addr) (c:Nat),ov=.slice q D.length c∧iv=.int .i64 k∧k≤P.length∧D.length≤8∧partsL ((P.drop k).map toL) D=(l,e0)∧Prow wr w.heap.size (.slice q D.length c) D∧Brow wr w.heap.size (.slice po P.length pc) P∧Below w.heap.size w wr) (fun _ iv _=>P.length - (intOf iv).toNat)
 case atStart=>exact ⟨0,[],_,0,rfl,rfl,Nat.zero_le _,Nat.zero_le _,HF0.out,HO1.out,HP.out,HB1.out⟩
 case round =>
  obtain ⟨k,D,q,c,rfl,rfl,hk,hD,hfe,hown,hpr,hbel⟩:=hrel
  rename World=>wr
  have HOw:=Lh hown
  have HPw:=Lh hpr
  have HBw:=Lh hbel
  have hgb:w.heap.size≤wr.heap.size:=hbel.size
  clear HO1 HP HB1 HF0 hown hpr hbel
  by_cases hlt:k < P.length
  case neg =>
   obtain rfl:k=P.length:=by omega
   rw [List.drop_length] at hfe
   cases hfe
   go_wp2
   go_ret2
   exact ⟨_,rfl,HOw.out.posT,HBw.out⟩
  obtain ⟨g,e,-,hcell⟩:=HPw.out.get hlt
  cases e
  obtain ⟨t,ht⟩:∃ t,P[k]=t:=⟨_,rfl⟩
  have hts:=HPs.out P[k] (List.getElem_mem hlt)
  rw [List.drop_eq_getElem_cons hlt,List.map_cons,ht,parts_cons] at hfe
  rw [ht] at hcell hts
  have htl:(toL t).length=t.size:=by unfold toL;simp
  have i0:(0:Int)≤(k:Int):=by omega
  have i1:(k:Int) < (P.length:Int):=by omega
  obtain ⟨G,hG⟩:∃ G,gapN (toL t)=G:=⟨_,rfl⟩
  have hGl:G≤t.size:=by rw [← hG,← htl];exact gap_le _
  have HGA:Hid (∀ j (h:j < t.size),(t[j]=32→G≤j)∧(t[j]≠32→G≠j)):=Lh (fun j h=>by have:=gap_at (toL t) j (by rw [htl];exact h);rw [hG] at this;exact this)
  have HFE:=Lh hfe
  have HG:=Lh hG
  have HTL:=Lh htl
  clear ht hfe hG htl
  go_wp2_with fail
  go_loop [8,9] (fun gv kv=>∃ (j:Nat),kv=.int .i64 j∧j≤t.size∧gv=.int .i64 (if G < j then (G:Int) else -1)) (fun _ kv=>t.size - (intOf kv).toNat)
  case atStart=>exact ⟨0,rfl,Nat.zero_le _,by rw [if_neg (by omega)]⟩
  case round =>
   obtain ⟨j,rfl,hj,rfl⟩:=hrel
   by_cases hjt:j < t.size
   ·obtain ⟨g1,g2⟩:=HGA.out j hjt
    obtain ⟨b1,hb1⟩:∃ b,((t[j].toNat:Int) == 32)=b:=⟨_,rfl⟩
    have hb1':(b1=true→G≤j)∧(b1=false→G≠j):=by
     refine ⟨fun e=>g1 ?_,fun e=>g2 ?_⟩
     ·rw [e,beq_iff_eq] at hb1;exact UInt8.toNat_inj.1 (by simpa using (Int.ofNat.inj hb1))
     ·rw [e,beq_eq_false_iff_ne] at hb1;intro e2;rw [e2] at hb1;exact hb1 rfl
    clear g1 g2
    by_cases hGj:G < j
    ·rw [if_pos hGj]
     have bl:decide ((G:Int) < 0)=false:=by simp
     cases b1
     ·go_wp2
      go_round
      case rel=>exact ⟨j+1,by go_num,by omega,by rw [if_pos (by omega)]⟩
      case measure=>simp [intOf];omega
     ·go_wp2
      go_round
      case rel=>exact ⟨j+1,by go_num,by omega,by rw [if_pos (by omega)]⟩
      case measure=>simp [intOf];omega
    ·rw [if_neg hGj]
     cases b1
     ·have hne:=hb1'.2 rfl
      go_wp2
      go_round
      case rel=>exact ⟨j+1,by go_num,by omega,by rw [if_neg (by omega)]⟩
      case measure=>simp [intOf];omega
     ·have hle:=hb1'.1 rfl
      obtain rfl:G=j:=by omega
      go_wp2
      go_round
      case rel=>exact ⟨G+1,by go_num,by omega,by rw [if_pos (by omega)]⟩
      case measure=>simp [intOf];omega
   ·obtain rfl:j=t.size:=by omega
    clear HGA hjt hj
    by_cases hGt:G < t.size
    case neg =>
     rw [if_neg hGt]
     have hp:partL (toL t)=(4,[],0):=by unfold partL;rw [gap_none (by rw [HG.out,HTL.out];exact hGt)]
     have hfe:=HFE.out
     rw [hp,if_pos (by decide)] at hfe
     cases hfe
     clear hp
     go_wp2
     go_ret2
     exact ⟨_,rfl,PosT.nil _,HBw.out⟩
    rw [if_pos hGt]
    have hX:(t.extract 0 G).data.toList=(toL t).take G:=by rw [ext_L];rfl
    have hY:(t.extract (G+1) t.size).data.toList=(toL t).drop (G+1):=by
     have h4:=HTL.out
     rw [ext_L,List.take_of_length_le (by show ((toL t).drop (G+1)).length≤_;rw [List.length_drop];omega)];rfl
    have hp:partL (toL t)=if sideL (t.extract (G+1) t.size).data.toList < 0 then (4,[],0) else if isNm (t.extract 0 G).data.toList=false then (5,[],0) else (0,(t.extract 0 G).data.toList,sideL (t.extract (G+1) t.size).data.toList):=by
     unfold partL;rw [gap_some (by rw [HG.out,HTL.out];exact hGt),HG.out,hX,hY]
    obtain ⟨sd,hsd⟩:∃ sd,sideL (t.extract (G+1) t.size).data.toList=sd:=⟨_,rfl⟩
    have HSd:Hid (idxA (t.extract (G+1) t.size).data.toList sides 0=sd):=Lh hsd
    rw [hsd] at hp
    have hXs:(t.extract 0 G).size≤maxLen:=by
     have h4:(t.extract 0 G).data.toList.length≤t.size:=by rw [hX,List.length_take];have:=HTL.out;omega
     have h5:(t.extract 0 G).data.toList.length=(t.extract 0 G).size:=by simp
     unfold maxLen;omega
    have HXs:=Lh hXs
    clear hX hY hsd hXs HG HTL
    have gp:(G:Int)+1≤(t.size:Int):=by omega
    go_wp2_with fail
    refine (rside_of _ sd wr HSd).mono ?_
    rintro e w2 ⟨rfl,hb2⟩
    have HO2:Hid (Prow w2 w.heap.size (.slice q D.length c) D):=Lh (own_keep HOw.out hb2)
    have HP2:Hid (Brow w2 w.heap.size (.slice (some ⟨g,0,none⟩) P.length pc) P):=Lh (own_keep HPw.out hb2)
    have HB2:=Lh (below_keep hb2 HBw.out)
    clear hb2 HOw HPw HBw hcell
    by_cases hs0:sd < 0
    ·rw [if_pos hs0] at hp
     have hfe:=HFE.out
     rw [hp,if_pos (by decide)] at hfe
     cases hfe
     clear hp
     go_wp2
     go_ret2
     exact ⟨_,rfl,PosT.nil _,HB2.out⟩
    rw [if_neg hs0] at hp
    obtain ⟨nm,hnm⟩:∃ b,isNm (t.extract 0 G).data.toList=b:=⟨_,rfl⟩
    have HNm:=Lh hnm
    rw [hnm] at hp
    have HPp:=Lh hp
    clear hnm hp
    go_wp2_with fail
    refine (rnm_of _ nm w2 HXs.out HNm).mono ?_
    rintro e w3 ⟨rfl,rfl⟩
    cases nm
    ·have hp:=HPp.out
     rw [if_pos rfl] at hp
     have hfe:=HFE.out
     rw [hp,if_pos (by decide)] at hfe
     cases hfe
     clear hp
     go_wp2
     go_ret2
     exact ⟨_,rfl,PosT.nil _,HB2.out⟩
    have hp:=HPp.out
    rw [if_neg (by decide)] at hp
    have hfe:=HFE.out
    rw [hp,if_neg (fun e=>e rfl)] at hfe
    simp only at hfe
    obtain ⟨X,hX⟩:∃ X,t.extract 0 G=X:=⟨_,rfl⟩
    rw [hX] at hfe
    obtain ⟨dup,hdup⟩:∃ b,D.any (fun p=>decide (p.1=X.data.toList))=b:=⟨_,rfl⟩
    have HDu:Hid ((D.drop 0).any (fun p=>decide (p.1=X.data.toList))=dup):=Lh (by rw [List.drop_zero];exact hdup)
    rw [hdup] at hfe
    have HF2:=Lh hfe
    have HX2:=Lh hX
    clear hp hfe hdup HFE HPp HNm
    go_wp2_with fail
    clear hX
    go_loop [11] (fun jv=>∃ j:Nat,jv=.int .i64 j∧j≤D.length∧(D.drop j).any (fun p=>decide (p.1=X.data.toList))=dup) (fun jv=>D.length - (intOf jv).toNat)
    case atStart=>exact ⟨0,rfl,Nat.zero_le _,HDu.out⟩
    case round =>
     obtain ⟨j,rfl,hj,hfd⟩:=hrel
     clear HDu
     by_cases hjt:j < D.length
     ·obtain ⟨A,rfl,q0,-⟩:=HO2.out.pos.get hjt
      rw [List.drop_eq_getElem_cons hjt,List.any_cons] at hfd
      obtain ⟨u,hu⟩:∃ u,D[j]=u:=⟨_,rfl⟩
      rw [hu] at q0 hfd
      obtain ⟨Z,hZ⟩:∃ Z,bb u.1=Z:=⟨_,rfl⟩
      rw [hZ] at q0
      have hZ2:Z.data.toList=u.1:=by rw [← hZ]
      have j0:(0:Int)≤(j:Int):=by omega
      have j1:(j:Int) < (D.length:Int):=by omega
      by_cases hux:u.1=X.data.toList
      ·have b1:(Z.toList == X.toList)=true:=by rw [ByteArray.toList_eq,ByteArray.toList_eq,hZ2,beq_iff_eq];exact hux
       have hdt:dup=true:=by rw [← hfd];simp [hux]
       have hf2:=HF2.out
       rw [hdt,if_pos rfl] at hf2
       cases hf2
       clear hfd hu hZ hZ2 hux hdt
       go_wp2
       go_ret2
       exact ⟨_,rfl,PosT.nil _,HB2.out⟩
      ·have b1:(Z.toList == X.toList)=false:=by rw [ByteArray.toList_eq,ByteArray.toList_eq,hZ2,beq_eq_false_iff_ne];exact hux
       have HFd:Hid ((D.drop (j+1)).any (fun p=>decide (p.1=X.data.toList))=dup):=Lh (by rw [← hfd];simp [hux])
       clear hfd hu hZ hZ2 hux
       go_wp2
       go_round
       case rel=>exact ⟨j+1,by go_num,by omega,HFd.out⟩
       case measure=>simp [intOf];omega
     ·obtain rfl:j=D.length:=by omega
      rw [List.drop_length] at hfd
      have hdt:dup=false:=by rw [← hfd];rfl
      have hf2:=HF2.out
      rw [hdt,if_neg (by decide)] at hf2
      clear hfd hdt
      by_cases h8:D.length=8
      ·rw [if_pos h8] at hf2
       cases hf2
       have b8:((D.length:Int) == 8)=true:=by rw [h8];rfl
       go_wp2
       go_ret2
       exact ⟨_,rfl,PosT.nil _,HB2.out⟩
      ·rw [if_neg h8] at hf2
       have b8:((D.length:Int) == 8)=false:=by rw [beq_eq_false_iff_ne];omega
       have HF3:=Lh hf2
       clear hf2 HF2
       go_wp2_with fail
       refine (rside_of _ sd w2 HSd).mono ?_
       rintro e w4 ⟨rfl,hb4⟩
       have HO4:Hid (Prow w4 w.heap.size (.slice q D.length c) D):=Lh (own_keep HO2.out hb4)
       have HP4:Hid (Brow w4 w.heap.size (.slice (some ⟨g,0,none⟩) P.length pc) P):=Lh (own_keep HP2.out hb4)
       have HB4:=Lh (below_keep hb4 HB2.out)
       have hd4:D.length≤1000000:=by omega
       have hg4:w.heap.size≤w4.heap.size:=HB4.out.size
       clear hb4 HO2 HP2 HB2
       go_wp2_with (at_builtin;refine app_po rfl (.tmp 75) (.tmp 83) rfl w.heap.size _ D X sd _ rfl rfl rfl HO4 hd4 hg4 ?_;intro oz cz wz own7 grow7;have HOz:=Lh own7;have HGz:=Lh grow7;clear own7 grow7)
       have HPz:Hid (Brow wz w.heap.size (.slice (some ⟨g,0,none⟩) P.length pc) P):=Lh (World.ownsRow.kept HP4.out HGz.out (own_far HP4.out HO4.out (by decide)))
       have HLz:Hid (Below w.heap.size w wz):=Lh (below_grown HB4.out HGz.out (fun p hp=>(World.ownsRow.lt HO4.out p hp).1) hg4)
       have hlz:(D ++ [(X.data.toList,sd)]).length=D.length+1:=by simp
       go_roundw
       case rel=>exact ⟨k+1,D ++ [(X.data.toList,sd)],oz,cz,by rw [hlz],by go_num,by omega,by rw [hlz];omega,HF3.out,by rw [hlz];exact HOz.out,HPz.out,HLz.out⟩
       case measure=>simp [intOf];omega
theorem rports_of (s:ByteArray)(l:List Pt)(e0:Int)(w:World)(hs:s.size≤20000)(hr:Hid (portsL s.data.toList=(l,e0))) :
    Calls Tryz.prog 81 #[.string s] w fun e w'=>∃ v,e=.returned (.tuple #[v,.int .i64 e0])∧Pos w' v l∧Below w.heap.size w w' :=
 (rportsT_of s l e0 w hs hr).mono fun _ _ ⟨v,h1,h2,h3⟩=>⟨v,h1,h2.pos,h3⟩
theorem known_form (k:Int)(c:List UInt8):(knownL k c).form=0∨(knownL k c).form=1∨(knownL k c).form=2∨(knownL k c).form=3∨(knownL k c).form=4∨(knownL k c).form=5:=by
 have h:=known_ways k c
 simp only at h
 omega
theorem bb_size (x:List UInt8):(bb x).size=x.length:=by simp [ByteArray.size]
theorem all_step (x:List UInt8)(i:Nat)(h:i < x.length):(x.take (i+1)).all isPl=((x.take i).all isPl && isPl x[i]):=by
 rw [List.take_succ_eq_append_getElem h,List.all_append];simp
set_option maxRecDepth 100000 in
set_option maxHeartbeats 4000000 in
theorem rcheck_0 (k:Int)(a1 a2:List UInt8)(lo hi no:Int)(w:World)(hg:Hid (goodK k=true))(HX:Hid (knownL k (bb a1).data.toList=⟨0,lo,hi,no⟩)) :
    Calls Tryz.prog 37 #[.int .i64 k,.agg #[.string (bb a1),.string (bb a2)]] w fun e w'=>e=.returned (.int .i64 5)∧Below w.heap.size w w':=by
 have HB0:=Lh (al1 w (.cells #[.string (bb a1),.string (bb a2)] 82))
 have HK0:=Lh (blk_new w #[.string (bb a1),.string (bb a2)] 82)
 have hk:=hg.out
 unfold goodK at hk
 obtain ⟨b1,hb1⟩:∃ b,(k != 1)=b:=⟨_,rfl⟩
 obtain ⟨b2,hb2⟩:∃ b,(k != 2)=b:=⟨_,rfl⟩
 have h4:b1=true→b2=true→(k != 4)=false:=by
  intro e1 e2
  rw [e1,bne_iff_ne] at hb1
  rw [e2,bne_iff_ne] at hb2
  by_cases e4:k=4
  ·rw [e4];rfl
  ·simp [hb1,hb2,e4] at hk
 have hk4:∃ b4,(k != 4)=b4∧(b1=true→b2=true→b4=false):=⟨_,rfl,h4⟩
 obtain ⟨b4,hb4,h4⟩:=hk4
 have hp:((b1 && b2) && b4)=false:=by cases b1 <;> cases b2 <;> simp_all
 clear hk hg
 cases b1
 case' true=>cases b2
 case' true.true=>have b4f:=h4 rfl rfl;rw [b4f] at hb4
 all_goals
  clear h4 hp
  go_enter Tryz.func37,Tryz.ntmps37
  go_wp2_with fail
  refine (rknown_at k (bb a1) 0 lo hi no _ HX).mono ?_
  rintro e w1 ⟨rfl,hb1⟩
  have HB1:=Lh (below_keep hb1 HB0.out)
  have hk1:blk w1 w.heap.size 82 #[.string (bb a1),.string (bb a2)]:=blk_below HK0.out hb1
  have hal:=al1 w1 (.cells #[.int .i64 0,.int .i64 lo,.int .i64 hi,.int .i64 no] 142)
  have HK2:=Lh (blk_below hk1 hal)
  have HB2:=Lh (below_keep hal HB1.out)
  have HR2:Hid (ruB (w1.alloc (.cells #[.int .i64 0,.int .i64 lo,.int .i64 hi,.int .i64 no] 142)) w1.heap.size 0 lo hi no):=Lh (blk_new w1 _ _)
  obtain ⟨c0,c1,c2,c3,-,-,-,-⟩:=HR2.out.cells
  have f1:(w1.alloc (.cells #[.int .i64 0,.int .i64 lo,.int .i64 hi,.int .i64 no] 142)).cell? ⟨w.heap.size,1,none⟩=some (.string (bb a2)):=by rw [blk_cell HK2.out];rfl
  clear hb1 hk1 hal
  go_wp2
  go_ret
  exact ⟨rfl,HB2.out⟩
set_option maxRecDepth 100000 in
set_option maxHeartbeats 4000000 in
theorem rcheck_1l (k:Int)(a1 a2:List UInt8)(lo hi no:Int)(hl:32 < a2.length)(hm:a2.length≤20000)(w:World)(hg:Hid (goodK k=true))(HX:Hid (knownL k (bb a1).data.toList=⟨1,lo,hi,no⟩)) :
    Calls Tryz.prog 37 #[.int .i64 k,.agg #[.string (bb a1),.string (bb a2)]] w fun e w'=>e=.returned (.int .i64 2)∧Below w.heap.size w w':=by
 have HB0:=Lh (al1 w (.cells #[.string (bb a1),.string (bb a2)] 82))
 have HK0:=Lh (blk_new w #[.string (bb a1),.string (bb a2)] 82)
 have hk:=hg.out
 unfold goodK at hk
 obtain ⟨b1,hb1⟩:∃ b,(k != 1)=b:=⟨_,rfl⟩
 obtain ⟨b2,hb2⟩:∃ b,(k != 2)=b:=⟨_,rfl⟩
 have h4:b1=true→b2=true→(k != 4)=false:=by
  intro e1 e2
  rw [e1,bne_iff_ne] at hb1
  rw [e2,bne_iff_ne] at hb2
  by_cases e4:k=4
  ·rw [e4];rfl
  ·simp [hb1,hb2,e4] at hk
 have hk4:∃ b4,(k != 4)=b4∧(b1=true→b2=true→b4=false):=⟨_,rfl,h4⟩
 obtain ⟨b4,hb4,h4⟩:=hk4
 have hp:((b1 && b2) && b4)=false:=by cases b1 <;> cases b2 <;> simp_all
 clear hk hg
 cases b1
 case' true=>cases b2
 case' true.true=>have b4f:=h4 rfl rfl;rw [b4f] at hb4
 all_goals
  clear h4 hp
  go_enter Tryz.func37,Tryz.ntmps37
  go_wp2_with fail
  refine (rknown_at k (bb a1) 1 lo hi no _ HX).mono ?_
  rintro e w1 ⟨rfl,hb1⟩
  have HB1:=Lh (below_keep hb1 HB0.out)
  have hk1:blk w1 w.heap.size 82 #[.string (bb a1),.string (bb a2)]:=blk_below HK0.out hb1
  have hal:=al1 w1 (.cells #[.int .i64 1,.int .i64 lo,.int .i64 hi,.int .i64 no] 142)
  have HK2:=Lh (blk_below hk1 hal)
  have HB2:=Lh (below_keep hal HB1.out)
  have HR2:Hid (ruB (w1.alloc (.cells #[.int .i64 1,.int .i64 lo,.int .i64 hi,.int .i64 no] 142)) w1.heap.size 1 lo hi no):=Lh (blk_new w1 _ _)
  obtain ⟨c0,c1,c2,c3,-,-,-,-⟩:=HR2.out.cells
  have f1:(w1.alloc (.cells #[.int .i64 1,.int .i64 lo,.int .i64 hi,.int .i64 no] 142)).cell? ⟨w.heap.size,1,none⟩=some (.string (bb a2)):=by rw [blk_cell HK2.out];rfl
  clear hb1 hk1 hal
  have bs:decide ((32:Int) < ((bb a2).size:Int))=true:=by rw [bb_size];simp;omega
  go_wp2
  go_ret
  exact ⟨rfl,HB2.out⟩
set_option maxRecDepth 100000 in
set_option maxHeartbeats 4000000 in
theorem rcheck_1 (k:Int)(a1 a2:List UInt8)(lo hi no:Int)(hl:a2.length≤32)(r:Bool)(hr:Hid (a2.all isPl=r))(w:World)(hg:Hid (goodK k=true))(HX:Hid (knownL k (bb a1).data.toList=⟨1,lo,hi,no⟩)) :
    Calls Tryz.prog 37 #[.int .i64 k,.agg #[.string (bb a1),.string (bb a2)]] w fun e w'=>e=.returned (.int .i64 (if r then 0 else 7))∧Below w.heap.size w w':=by
 have HB0:=Lh (al1 w (.cells #[.string (bb a1),.string (bb a2)] 82))
 have HK0:=Lh (blk_new w #[.string (bb a1),.string (bb a2)] 82)
 have hk:=hg.out
 unfold goodK at hk
 obtain ⟨b1,hb1⟩:∃ b,(k != 1)=b:=⟨_,rfl⟩
 obtain ⟨b2,hb2⟩:∃ b,(k != 2)=b:=⟨_,rfl⟩
 have h4:b1=true→b2=true→(k != 4)=false:=by
  intro e1 e2
  rw [e1,bne_iff_ne] at hb1
  rw [e2,bne_iff_ne] at hb2
  by_cases e4:k=4
  ·rw [e4];rfl
  ·simp [hb1,hb2,e4] at hk
 have hk4:∃ b4,(k != 4)=b4∧(b1=true→b2=true→b4=false):=⟨_,rfl,h4⟩
 obtain ⟨b4,hb4,h4⟩:=hk4
 have hp:((b1 && b2) && b4)=false:=by cases b1 <;> cases b2 <;> simp_all
 clear hk hg
 cases b1
 case' true=>cases b2
 case' true.true=>have b4f:=h4 rfl rfl;rw [b4f] at hb4
 all_goals
  clear h4 hp
  go_enter Tryz.func37,Tryz.ntmps37
  go_wp2_with fail
  refine (rknown_at k (bb a1) 1 lo hi no _ HX).mono ?_
  rintro e w1 ⟨rfl,hb1⟩
  have HB1:=Lh (below_keep hb1 HB0.out)
  have hk1:blk w1 w.heap.size 82 #[.string (bb a1),.string (bb a2)]:=blk_below HK0.out hb1
  have hal:=al1 w1 (.cells #[.int .i64 1,.int .i64 lo,.int .i64 hi,.int .i64 no] 142)
  have HK2:=Lh (blk_below hk1 hal)
  have HB2:=Lh (below_keep hal HB1.out)
  have HR2:Hid (ruB (w1.alloc (.cells #[.int .i64 1,.int .i64 lo,.int .i64 hi,.int .i64 no] 142)) w1.heap.size 1 lo hi no):=Lh (blk_new w1 _ _)
  obtain ⟨c0,c1,c2,c3,-,-,-,-⟩:=HR2.out.cells
  have f1:(w1.alloc (.cells #[.int .i64 1,.int .i64 lo,.int .i64 hi,.int .i64 no] 142)).cell? ⟨w.heap.size,1,none⟩=some (.string (bb a2)):=by rw [blk_cell HK2.out];rfl
  clear hb1 hk1 hal
  have bs:decide ((32:Int) < ((bb a2).size:Int))=false:=by rw [bb_size];simp;omega
  have hsz:(bb a2).size=a2.length:=bb_size a2
  go_wp2_with fail
  go_loop [6,7] (fun ov iv=>∃ i:Nat,iv=.int .i64 i∧i≤a2.length∧ov=.bool ((a2.take i).all isPl)) (fun _ iv=>a2.length - (intOf iv).toNat)
  case atStart=>exact ⟨0,rfl,Nat.zero_le _,by simp⟩
  case round =>
   obtain ⟨i,rfl,hi,rfl⟩:=hrel
   by_cases hlt:i < a2.length
   ·have hs:=all_step a2 i hlt
    obtain ⟨al,hal⟩:∃ b,(a2.take i).all isPl=b:=⟨_,rfl⟩
    obtain ⟨u1,hu1⟩:∃ b,decide ((32:Int)≤((bb a2)[i]'(by omega)).toNat)=b:=⟨_,rfl⟩
    obtain ⟨u2,hu2⟩:∃ b,decide ((((bb a2)[i]'(by omega)).toNat:Int)≤126)=b:=⟨_,rfl⟩
    have hpl:isPl a2[i]=(u1 && u2):=by
     have e:(bb a2)[i]'(by omega)=a2[i]:=by simp [bb,ByteArray.getElem_eq_getElem_data]
     rw [e] at hu1 hu2
     unfold isPl
     rw [← hu1,← hu2]
     by_cases q1:32≤a2[i].toNat <;> by_cases q2:a2[i].toNat≤126 <;> simp [q1,q2] <;> omega
    rw [hal,hpl] at hs
    rw [hal]
    have HS:=Lh hs
    clear hs hal hpl
    have hii:i < (bb a2).size:=by omega
    cases al <;> cases u1 <;> cases u2
    all_goals
     go_wp2
     go_round
     case rel=>exact ⟨i+1,by go_num,by omega,by rw [HS.out];simp⟩
     case measure=>simp [intOf];omega
   ·obtain rfl:i=a2.length:=by omega
    have hrr:=hr.out
    rw [List.take_length,hrr]
    cases r
    ·go_wp2
     go_ret
     exact ⟨rfl,HB2.out⟩
    ·go_wp2
     go_ret
     exact ⟨rfl,HB2.out⟩
set_option maxRecDepth 100000 in
set_option maxHeartbeats 4000000 in
theorem rcheck_2 (k:Int)(a1 a2:List UInt8)(lo hi no:Int)(hm:a2.length≤20000)(n:Int)(r:Bool)(hr:Hid (valR ⟨2,lo,hi,no⟩ a2=(n,r)))(w:World)(hg:Hid (goodK k=true))(HX:Hid (knownL k (bb a1).data.toList=⟨2,lo,hi,no⟩)) :
    Calls Tryz.prog 37 #[.int .i64 k,.agg #[.string (bb a1),.string (bb a2)]] w fun e w'=>e=.returned (.int .i64 (if r then 0 else 7))∧Below w.heap.size w w':=by
 have HB0:=Lh (al1 w (.cells #[.string (bb a1),.string (bb a2)] 82))
 have HK0:=Lh (blk_new w #[.string (bb a1),.string (bb a2)] 82)
 have hk:=hg.out
 unfold goodK at hk
 obtain ⟨b1,hb1⟩:∃ b,(k != 1)=b:=⟨_,rfl⟩
 obtain ⟨b2,hb2⟩:∃ b,(k != 2)=b:=⟨_,rfl⟩
 have h4:b1=true→b2=true→(k != 4)=false:=by
  intro e1 e2
  rw [e1,bne_iff_ne] at hb1
  rw [e2,bne_iff_ne] at hb2
  by_cases e4:k=4
  ·rw [e4];rfl
  ·simp [hb1,hb2,e4] at hk
 have hk4:∃ b4,(k != 4)=b4∧(b1=true→b2=true→b4=false):=⟨_,rfl,h4⟩
 obtain ⟨b4,hb4,h4⟩:=hk4
 have hp:((b1 && b2) && b4)=false:=by cases b1 <;> cases b2 <;> simp_all
 clear hk hg
 cases b1
 case' true=>cases b2
 case' true.true=>have b4f:=h4 rfl rfl;rw [b4f] at hb4
 all_goals
  clear h4 hp
  go_enter Tryz.func37,Tryz.ntmps37
  go_wp2_with fail
  refine (rknown_at k (bb a1) 2 lo hi no _ HX).mono ?_
  rintro e w1 ⟨rfl,hb1⟩
  have HB1:=Lh (below_keep hb1 HB0.out)
  have hk1:blk w1 w.heap.size 82 #[.string (bb a1),.string (bb a2)]:=blk_below HK0.out hb1
  have hal:=al1 w1 (.cells #[.int .i64 2,.int .i64 lo,.int .i64 hi,.int .i64 no] 142)
  have HK2:=Lh (blk_below hk1 hal)
  have HB2:=Lh (below_keep hal HB1.out)
  have HR2:Hid (ruB (w1.alloc (.cells #[.int .i64 2,.int .i64 lo,.int .i64 hi,.int .i64 no] 142)) w1.heap.size 2 lo hi no):=Lh (blk_new w1 _ _)
  obtain ⟨c0,c1,c2,c3,-,-,-,-⟩:=HR2.out.cells
  have f1:(w1.alloc (.cells #[.int .i64 2,.int .i64 lo,.int .i64 hi,.int .i64 no] 142)).cell? ⟨w.heap.size,1,none⟩=some (.string (bb a2)):=by rw [blk_cell HK2.out];rfl
  clear hb1 hk1 hal
  go_wp2_with fail
  generalize w1.alloc (.cells #[.int .i64 2,.int .i64 lo,.int .i64 hi,.int .i64 no] 142)=w2 at HK2 HB2 HR2 c0 c1 c2 c3 f1 ⊢
  generalize w1.heap.size=G at HR2 c0 c1 c2 c3 ⊢
  refine (rvalue_of 2 lo hi no (bb a2) n r w2 (by rw [bb_size];exact hm) hr).mono ?_
  rintro e w4 ⟨rfl,hb4⟩
  have HB4:=Lh (below_keep hb4 HB2.out)
  have HK4:=Lh (blk_below HK2.out hb4)
  have HR4:Hid (ruB w4 G 2 lo hi no):=Lh (blk_below HR2.out hb4)
  clear hb4 c0 c1 c2 c3 f1 HB2 HK2 HR2
  obtain ⟨c0,c1,c2,c3,-,-,-,-⟩:=HR4.out.cells
  have f1:w4.cell? ⟨w.heap.size,1,none⟩=some (.string (bb a2)):=by rw [blk_cell HK4.out];rfl
  cases r
  ·go_wp2
   go_ret
   exact ⟨rfl,HB4.out⟩
  ·go_wp2
   go_ret
   exact ⟨rfl,HB4.out⟩
set_option maxRecDepth 100000 in
set_option maxHeartbeats 4000000 in
theorem rcheck_3 (k:Int)(a1 a2:List UInt8)(lo hi no:Int)(hm:a2.length≤20000)(n:Int)(r:Bool)(hr:Hid (valR ⟨3,lo,hi,no⟩ a2=(n,r)))(w:World)(hg:Hid (goodK k=true))(HX:Hid (knownL k (bb a1).data.toList=⟨3,lo,hi,no⟩)) :
    Calls Tryz.prog 37 #[.int .i64 k,.agg #[.string (bb a1),.string (bb a2)]] w fun e w'=>e=.returned (.int .i64 (if r then 0 else 7))∧Below w.heap.size w w':=by
 have HB0:=Lh (al1 w (.cells #[.string (bb a1),.string (bb a2)] 82))
 have HK0:=Lh (blk_new w #[.string (bb a1),.string (bb a2)] 82)
 have hk:=hg.out
 unfold goodK at hk
 obtain ⟨b1,hb1⟩:∃ b,(k != 1)=b:=⟨_,rfl⟩
 obtain ⟨b2,hb2⟩:∃ b,(k != 2)=b:=⟨_,rfl⟩
 have h4:b1=true→b2=true→(k != 4)=false:=by
  intro e1 e2
  rw [e1,bne_iff_ne] at hb1
  rw [e2,bne_iff_ne] at hb2
  by_cases e4:k=4
  ·rw [e4];rfl
  ·simp [hb1,hb2,e4] at hk
 have hk4:∃ b4,(k != 4)=b4∧(b1=true→b2=true→b4=false):=⟨_,rfl,h4⟩
 obtain ⟨b4,hb4,h4⟩:=hk4
 have hp:((b1 && b2) && b4)=false:=by cases b1 <;> cases b2 <;> simp_all
 clear hk hg
 cases b1
 case' true=>cases b2
 case' true.true=>have b4f:=h4 rfl rfl;rw [b4f] at hb4
 all_goals
  clear h4 hp
  go_enter Tryz.func37,Tryz.ntmps37
  go_wp2_with fail
  refine (rknown_at k (bb a1) 3 lo hi no _ HX).mono ?_
  rintro e w1 ⟨rfl,hb1⟩
  have HB1:=Lh (below_keep hb1 HB0.out)
  have hk1:blk w1 w.heap.size 82 #[.string (bb a1),.string (bb a2)]:=blk_below HK0.out hb1
  have hal:=al1 w1 (.cells #[.int .i64 3,.int .i64 lo,.int .i64 hi,.int .i64 no] 142)
  have HK2:=Lh (blk_below hk1 hal)
  have HB2:=Lh (below_keep hal HB1.out)
  have HR2:Hid (ruB (w1.alloc (.cells #[.int .i64 3,.int .i64 lo,.int .i64 hi,.int .i64 no] 142)) w1.heap.size 3 lo hi no):=Lh (blk_new w1 _ _)
  obtain ⟨c0,c1,c2,c3,-,-,-,-⟩:=HR2.out.cells
  have f1:(w1.alloc (.cells #[.int .i64 3,.int .i64 lo,.int .i64 hi,.int .i64 no] 142)).cell? ⟨w.heap.size,1,none⟩=some (.string (bb a2)):=by rw [blk_cell HK2.out];rfl
  clear hb1 hk1 hal
  go_wp2_with fail
  generalize w1.alloc (.cells #[.int .i64 3,.int .i64 lo,.int .i64 hi,.int .i64 no] 142)=w2 at HK2 HB2 HR2 c0 c1 c2 c3 f1 ⊢
  generalize w1.heap.size=G at HR2 c0 c1 c2 c3 ⊢
  refine (rvalue_of 3 lo hi no (bb a2) n r w2 (by rw [bb_size];exact hm) hr).mono ?_
  rintro e w4 ⟨rfl,hb4⟩
  have HB4:=Lh (below_keep hb4 HB2.out)
  have HK4:=Lh (blk_below HK2.out hb4)
  have HR4:Hid (ruB w4 G 3 lo hi no):=Lh (blk_below HR2.out hb4)
  clear hb4 c0 c1 c2 c3 f1 HB2 HK2 HR2
  obtain ⟨c0,c1,c2,c3,-,-,-,-⟩:=HR4.out.cells
  have f1:w4.cell? ⟨w.heap.size,1,none⟩=some (.string (bb a2)):=by rw [blk_cell HK4.out];rfl
  cases r
  ·go_wp2
   go_ret
   exact ⟨rfl,HB4.out⟩
  ·go_wp2
   go_ret
   exact ⟨rfl,HB4.out⟩
set_option maxRecDepth 100000 in
set_option maxHeartbeats 4000000 in
theorem rcheck_4 (k:Int)(a1 a2:List UInt8)(lo hi no:Int)(hm:a2.length≤20000)(l:List Pt)(e0:Int)(hr:Hid (portsL a2=(l,e0)))(q:Bool)(hq:Hid ((decide (e0=0) && decide (a2.length≤32))=q))(w:World)(hg:Hid (goodK k=true))(HX:Hid (knownL k (bb a1).data.toList=⟨4,lo,hi,no⟩)) :
    Calls Tryz.prog 37 #[.int .i64 k,.agg #[.string (bb a1),.string (bb a2)]] w fun e w'=>e=.returned (.int .i64 (if q then 0 else 7))∧Below w.heap.size w w':=by
 have HB0:=Lh (al1 w (.cells #[.string (bb a1),.string (bb a2)] 82))
 have HK0:=Lh (blk_new w #[.string (bb a1),.string (bb a2)] 82)
 have hk:=hg.out
 unfold goodK at hk
 obtain ⟨b1,hb1⟩:∃ b,(k != 1)=b:=⟨_,rfl⟩
 obtain ⟨b2,hb2⟩:∃ b,(k != 2)=b:=⟨_,rfl⟩
 have h4:b1=true→b2=true→(k != 4)=false:=by
  intro e1 e2
  rw [e1,bne_iff_ne] at hb1
  rw [e2,bne_iff_ne] at hb2
  by_cases e4:k=4
  ·rw [e4];rfl
  ·simp [hb1,hb2,e4] at hk
 have hk4:∃ b4,(k != 4)=b4∧(b1=true→b2=true→b4=false):=⟨_,rfl,h4⟩
 obtain ⟨b4,hb4,h4⟩:=hk4
 have hp:((b1 && b2) && b4)=false:=by cases b1 <;> cases b2 <;> simp_all
 clear hk hg
 cases b1
 case' true=>cases b2
 case' true.true=>have b4f:=h4 rfl rfl;rw [b4f] at hb4
 all_goals
  clear h4 hp
  go_enter Tryz.func37,Tryz.ntmps37
  go_wp2_with fail
  refine (rknown_at k (bb a1) 4 lo hi no _ HX).mono ?_
  rintro e w1 ⟨rfl,hb1⟩
  have HB1:=Lh (below_keep hb1 HB0.out)
  have hk1:blk w1 w.heap.size 82 #[.string (bb a1),.string (bb a2)]:=blk_below HK0.out hb1
  have hal:=al1 w1 (.cells #[.int .i64 4,.int .i64 lo,.int .i64 hi,.int .i64 no] 142)
  have HK2:=Lh (blk_below hk1 hal)
  have HB2:=Lh (below_keep hal HB1.out)
  have HR2:Hid (ruB (w1.alloc (.cells #[.int .i64 4,.int .i64 lo,.int .i64 hi,.int .i64 no] 142)) w1.heap.size 4 lo hi no):=Lh (blk_new w1 _ _)
  obtain ⟨c0,c1,c2,c3,-,-,-,-⟩:=HR2.out.cells
  have f1:(w1.alloc (.cells #[.int .i64 4,.int .i64 lo,.int .i64 hi,.int .i64 no] 142)).cell? ⟨w.heap.size,1,none⟩=some (.string (bb a2)):=by rw [blk_cell HK2.out];rfl
  clear hb1 hk1 hal
  obtain ⟨q1,hq1⟩:∃ b,(e0 == 0)=b:=⟨_,rfl⟩
  obtain ⟨q2,hq2⟩:∃ b,decide ((a2.length:Int)≤32)=b:=⟨_,rfl⟩
  have e1:decide (e0=0)=q1:=by rw [← hq1];by_cases e:e0=0 <;> simp [e]
  have e2:decide (a2.length≤32)=q2:=by rw [← hq2];by_cases e:a2.length≤32 <;> simp [e] <;> omega
  have HQ:Hid ((q1 && q2)=q):=Lh (by rw [← e1,← e2];exact hq.out)
  clear e1 e2 hq
  go_wp2_with fail
  generalize w1.alloc (.cells #[.int .i64 4,.int .i64 lo,.int .i64 hi,.int .i64 no] 142)=w2 at HK2 HB2 HR2 c0 c1 c2 c3 f1 ⊢
  generalize w1.heap.size=G at HR2 c0 c1 c2 c3 ⊢
  refine (rports_of (bb a2) l e0 w2 (by rw [bb_size];exact hm) hr).mono ?_
  rintro e w4 ⟨v4,rfl,-,hb4⟩
  have HB4:=Lh (below_keep hb4 HB2.out)
  have HK4:=Lh (blk_below HK2.out hb4)
  have HR4:Hid (ruB w4 G 4 lo hi no):=Lh (blk_below HR2.out hb4)
  clear hb4 c0 c1 c2 c3 f1 HB2 HK2 HR2
  obtain ⟨c0,c1,c2,c3,-,-,-,-⟩:=HR4.out.cells
  have f1:w4.cell? ⟨w.heap.size,1,none⟩=some (.string (bb a2)):=by rw [blk_cell HK4.out];rfl
  cases q1
  ·have hz:q=false:=by rw [← HQ.out];rfl
   subst hz
   go_wp2
   go_ret
   exact ⟨rfl,HB4.out⟩
  ·have hz:q=q2:=by rw [← HQ.out];rfl
   subst hz
   cases q
   ·go_wp2
    go_ret
    exact ⟨rfl,HB4.out⟩
   ·go_wp2
    go_ret
    exact ⟨rfl,HB4.out⟩
set_option maxRecDepth 100000 in
set_option maxHeartbeats 4000000 in
theorem rcheck_5 (k:Int)(a1 a2:List UInt8)(lo hi no:Int)(n:Int)(hr:Hid (idxA (bb a2).data.toList modes 0=n))(q:Bool)(hq:Hid (decide (0≤n)=q))(w:World)(hg:Hid (goodK k=true))(HX:Hid (knownL k (bb a1).data.toList=⟨5,lo,hi,no⟩)) :
    Calls Tryz.prog 37 #[.int .i64 k,.agg #[.string (bb a1),.string (bb a2)]] w fun e w'=>e=.returned (.int .i64 (if q then 0 else 7))∧Below w.heap.size w w':=by
 have HB0:=Lh (al1 w (.cells #[.string (bb a1),.string (bb a2)] 82))
 have HK0:=Lh (blk_new w #[.string (bb a1),.string (bb a2)] 82)
 have hk:=hg.out
 unfold goodK at hk
 obtain ⟨b1,hb1⟩:∃ b,(k != 1)=b:=⟨_,rfl⟩
 obtain ⟨b2,hb2⟩:∃ b,(k != 2)=b:=⟨_,rfl⟩
 have h4:b1=true→b2=true→(k != 4)=false:=by
  intro e1 e2
  rw [e1,bne_iff_ne] at hb1
  rw [e2,bne_iff_ne] at hb2
  by_cases e4:k=4
  ·rw [e4];rfl
  ·simp [hb1,hb2,e4] at hk
 have hk4:∃ b4,(k != 4)=b4∧(b1=true→b2=true→b4=false):=⟨_,rfl,h4⟩
 obtain ⟨b4,hb4,h4⟩:=hk4
 have hp:((b1 && b2) && b4)=false:=by cases b1 <;> cases b2 <;> simp_all
 clear hk hg
 cases b1
 case' true=>cases b2
 case' true.true=>have b4f:=h4 rfl rfl;rw [b4f] at hb4
 all_goals
  clear h4 hp
  go_enter Tryz.func37,Tryz.ntmps37
  go_wp2_with fail
  refine (rknown_at k (bb a1) 5 lo hi no _ HX).mono ?_
  rintro e w1 ⟨rfl,hb1⟩
  have HB1:=Lh (below_keep hb1 HB0.out)
  have hk1:blk w1 w.heap.size 82 #[.string (bb a1),.string (bb a2)]:=blk_below HK0.out hb1
  have hal:=al1 w1 (.cells #[.int .i64 5,.int .i64 lo,.int .i64 hi,.int .i64 no] 142)
  have HK2:=Lh (blk_below hk1 hal)
  have HB2:=Lh (below_keep hal HB1.out)
  have HR2:Hid (ruB (w1.alloc (.cells #[.int .i64 5,.int .i64 lo,.int .i64 hi,.int .i64 no] 142)) w1.heap.size 5 lo hi no):=Lh (blk_new w1 _ _)
  obtain ⟨c0,c1,c2,c3,-,-,-,-⟩:=HR2.out.cells
  have f1:(w1.alloc (.cells #[.int .i64 5,.int .i64 lo,.int .i64 hi,.int .i64 no] 142)).cell? ⟨w.heap.size,1,none⟩=some (.string (bb a2)):=by rw [blk_cell HK2.out];rfl
  clear hb1 hk1 hal
  have hq1:=hq.out
  clear hq
  go_wp2_with fail
  generalize w1.alloc (.cells #[.int .i64 5,.int .i64 lo,.int .i64 hi,.int .i64 no] 142)=w2 at HK2 HB2 HR2 c0 c1 c2 c3 f1 ⊢
  generalize w1.heap.size=G at HR2 c0 c1 c2 c3 ⊢
  refine (rmode_of (bb a2) n w2 hr).mono ?_
  rintro e w4 ⟨rfl,hb4⟩
  have HB4:=Lh (below_keep hb4 HB2.out)
  have HK4:=Lh (blk_below HK2.out hb4)
  have HR4:Hid (ruB w4 G 5 lo hi no):=Lh (blk_below HR2.out hb4)
  clear hb4 c0 c1 c2 c3 f1 HB2 HK2 HR2
  obtain ⟨c0,c1,c2,c3,-,-,-,-⟩:=HR4.out.cells
  have f1:w4.cell? ⟨w.heap.size,1,none⟩=some (.string (bb a2)):=by rw [blk_cell HK4.out];rfl
  cases q
  ·go_wp2
   go_ret
   exact ⟨rfl,HB4.out⟩
  ·go_wp2
   go_ret
   exact ⟨rfl,HB4.out⟩
set_option maxRecDepth 100000 in
theorem rcheck_bad (k:Int)(a1 a2:List UInt8)(w:World)(hg:Hid (goodK k=false)) :
    Calls Tryz.prog 37 #[.int .i64 k,.agg #[.string (bb a1),.string (bb a2)]] w fun e w'=>e=.returned (.int .i64 1)∧Below w.heap.size w w':=by
 have HB0:=Lh (al1 w (.cells #[.string (bb a1),.string (bb a2)] 82))
 have HK0:=Lh (blk_new w #[.string (bb a1),.string (bb a2)] 82)
 have hk:=hg.out
 unfold goodK at hk
 simp only [Bool.or_eq_false_iff,decide_eq_false_iff_not] at hk
 have b1:(k != 1)=true:=by rw [bne_iff_ne];exact hk.1.1
 have b2:(k != 2)=true:=by rw [bne_iff_ne];exact hk.1.2
 have b4:(k != 4)=true:=by rw [bne_iff_ne];exact hk.2
 clear hk hg
 go_enter Tryz.func37,Tryz.ntmps37
 go_wp2
 go_ret
 exact ⟨rfl,HB0.out⟩
end Go.Proofs.YtcdoicgbjoikkaaGreatDoor.att
