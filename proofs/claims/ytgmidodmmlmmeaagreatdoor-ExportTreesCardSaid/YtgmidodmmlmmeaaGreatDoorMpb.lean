/-
  The text of a valid tree: tokens, bytes and lines (P8.3), as lists of bytes. No function of the program is named here; no condition.
  Layer 8, plain: how long texts are; attributes and references as joined lists. No condition.
  What value, list, refs and after of the reference of layer 8 return. Conditions: short values; attributes and references as valid statements have them.
  What Grow of a fresh builder and strings.Join do. Conditions: at most 40 strings, a separator of 1 to 10 bytes, a result of at most 100000 bytes.
-/
import Derived.Test.YtgmidodmmlmmeaaGreatDoorMpa
import Derived.Lib.Join
import Derived.Test.YtgmidodmmlmmeaaGreatDoorMtb
import Derived.Lib.QuietBelow
namespace Go.Proofs.YtgmidodmmlmmeaaGreatDoor.prt
open lex tre
theorem attL_vals {k:Int}:∀ {l done:List Pr},attL k done l=0→∀ a∈l,a.2.length≤32∧a.2.all isPl=true:=by
 intro l
 induction l with
 | nil=>intro done _ a ha;simp at ha
 | cons x t ih =>
  intro done h a ha
  unfold attL at h
  split at h
  ·exact absurd h (by decide)
  ·split at h
   ·exact absurd h (by decide)
   ·split at h
    ·exact absurd h (by decide)
    ·rename_i h3
     split at h
     ·exact absurd h (by decide)
     ·rename_i h4
      rcases List.mem_cons.1 ha with rfl | ha
      ·exact ⟨by omega,by simpa using h4⟩
      ·exact ih h a ha
theorem staE_att {s:St}{lv:Int}(h:staE s lv=0):attL s.kind [] s.attrs=0:=by
 unfold staE at h
 by_cases h1:fldE s≠0
 ·rw [if_pos h1] at h;exact absurd h h1
 rw [if_neg h1] at h
 by_cases h2:s.kind=5∧6≤lv
 ·rw [if_pos h2] at h;exact absurd h (by decide)
 rw [if_neg h2] at h
 by_cases h3:s.kind≠2∧s.kind≠3∧isNm s.name=false
 ·rw [if_pos h3] at h;exact absurd h (by decide)
 rw [if_neg h3] at h
 by_cases h4:s.refs.all refB=false
 ·rw [if_pos h4] at h;exact absurd h (by decide)
 rw [if_neg h4] at h
 unfold attE at h
 by_cases f5:16 < s.attrs.length
 ·rw [if_pos f5] at h;exact absurd h (by decide)
 rwa [if_neg f5] at h
theorem vS.vals {s:St}(h:vS s):∀ a∈s.attrs,a.2.length≤32∧a.2.all isPl=true:=by
 obtain ⟨lv,h⟩:=h
 exact attL_vals (staE_att (h (s,lv) (by rw [preS_eq];simp)))
theorem vS.att {s:St}(h:vS s)(hk:s.kind≠4):attOk s.attrs:=by
 have h2:=h.vals
 obtain ⟨lv,h⟩:=h
 exact fun a ha=>⟨attL_keys hk (staE_att (h (s,lv) (by rw [preS_eq];simp))) a ha,h2 a ha⟩
section
variable {pr:List UInt8→Int × Int}
end
end Go.Proofs.YtgmidodmmlmmeaaGreatDoor.prt
namespace Go.Proofs.YtgmidodmmlmmeaaGreatDoor.prt
open Go.RowKit lex tre
theorem nm_le {l:List UInt8}(h:isNm l=true):l.length≤16:=by
 unfold isNm at h
 simp only [Bool.and_eq_true,decide_eq_true_eq] at h
 exact h.1.2
theorem quo_len (v:List UInt8):(quoL v).length≤2*v.length+2:=by
 unfold quoL
 have:=esc_len v
 simp only [List.length_cons,List.length_append,List.length_nil]
 omega
theorem val_len {v:List UInt8}(h:v.length≤32):(valS prL v).length≤66:=by
 unfold valS
 have:=quo_len v
 split
 ·omega
 ·split <;> omega
theorem attB_len {a:Pr}(h:isNm a.1=true∧a.2.length≤32∧a.2.all isPl=true):(attB prL a).length≤83:=by
 have h1:=nm_le h.1
 have h2:=val_len h.2.1
 unfold attB
 rw [List.length_append,List.length_cons];omega
theorem attT_len:∀ {l:List Pr},attOk l→(attT prL l).length≤1+85*l.length:=by
 intro l
 induction l with
 | nil=>intro _;simp [attT]
 | cons a t ih =>
  intro h
  have h1:=attB_len (h a (by simp))
  have h2:=ih (fun x hx=>h x (List.mem_cons_of_mem _ hx))
  simp only [attT,List.length_cons,List.length_append];omega
theorem attS_len {l:List Pr}(h:attOk l):(attS prL l).length≤2+85*l.length:=by
 cases l with
 | nil=>simp [attS]
 | cons a t =>
  have h1:=attB_len (h a (by simp))
  have h2:=attT_len (fun x hx=>h x (List.mem_cons_of_mem _ hx):attOk t)
  simp only [attS,List.length_cons,List.length_append];omega
theorem aft_len {l:List Pr}(h:attOk l):(aft prL l).length≤3+85*l.length:=by
 have:=attS_len h
 unfold aft
 split
 ·simp
 ·rw [List.length_cons];omega
theorem prtP_len {p:List UInt8}(h:p=[]∨isNm p=true):(prtP p).length≤17:=by
 unfold prtP
 rcases h with rfl | h
 ·simp
 ·have:=nm_le h
  split
  ·simp
  ·rw [List.length_cons];omega
theorem refT_len (d:Bool):∀ {l:List Pr},refOk l→(refT d l).length≤37*l.length:=by
 intro l
 induction l with
 | nil=>intro _;simp [refT]
 | cons a t ih =>
  intro h
  have h1:=nm_le (h a (by simp)).1
  have h2:=prtP_len (h a (by simp)).2
  have h3:=ih (fun x hx=>h x (List.mem_cons_of_mem _ hx))
  simp only [refT,List.length_cons,List.length_append];omega
theorem refS_len (d:Bool){l:List Pr}(h:refOk l):(refS d l).length≤37*l.length:=by
 cases l with
 | nil=>simp [refS]
 | cons a t =>
  have h1:=nm_le (h a (by simp)).1
  have h2:=prtP_len (h a (by simp)).2
  have h3:=refT_len d (fun x hx=>h x (List.mem_cons_of_mem _ hx):refOk t)
  simp only [refS,List.length_cons,List.length_append];omega
theorem join_snoc (xs:List (List UInt8))(y sep:List UInt8):Lib.join (xs ++ [y]) sep=if xs.isEmpty then y else Lib.join xs sep ++ (sep ++ y):=by
 cases xs with
 | nil=>rw [List.nil_append,Lib.join_one];rfl
 | cons x r =>
  rw [List.cons_append,Lib.join_cons,Lib.join_cons]
  simp [Lib.joinTail,List.append_assoc]
theorem attT_join (pr:List UInt8→Int × Int)(l:List Pr):attT pr l=Lib.joinTail [44,32] (l.map (attB pr)) ++ [93]:=by
 induction l with
 | nil=>rfl
 | cons a t ih=>simp only [attT,ih];simp [Lib.joinTail]
def attJ (l:List Pr):List UInt8:=Lib.join (l.map (attB prL)) [44,32]
theorem attS_join {l:List Pr}(h:l≠[]):attS prL l=91 :: (attJ l ++ [93]):=by
 cases l with
 | nil=>exact absurd rfl h
 | cons a t=>simp only [attS,attT_join,attJ,List.map_cons,Lib.join_cons,List.append_assoc]
theorem attJ_snoc (l:List Pr)(a:Pr):attJ (l ++ [a])=if l.isEmpty then attB prL a else attJ l ++ ([44,32] ++ attB prL a):=by
 unfold attJ
 rw [List.map_append,List.map_singleton,join_snoc]
 cases l <;> rfl
def arrS (d:Bool):List UInt8:=[32,45,if d then 62 else 45,32]
def refX (r:Pr):List UInt8:=r.1 ++ prtP r.2
theorem refT_join (d:Bool)(l:List Pr):refT d l=Lib.joinTail (arrS d) (l.map refX):=by
 induction l with
 | nil=>rfl
 | cons a t ih=>simp only [refT,ih];simp [Lib.joinTail,arrS,refX]
theorem refS_join (d:Bool)(l:List Pr):refS d l=Lib.join (l.map refX) (arrS d):=by
 cases l with
 | nil=>rfl
 | cons a t=>simp only [refS,refT_join,List.map_cons,Lib.join_cons,refX,List.append_assoc]
theorem refS_snoc (d:Bool)(l:List Pr)(a:Pr):refS d (l ++ [a])=if l.isEmpty then refX a else refS d l ++ (arrS d ++ refX a):=by
 rw [refS_join,refS_join,List.map_append,List.map_singleton,join_snoc]
 cases l <;> rfl
theorem attJ_len {l:List Pr}(h:attOk l):(attJ l).length≤85*l.length:=by
 cases l with
 | nil=>simp [attJ,Lib.join_nil]
 | cons a t =>
  have h1:=attS_len h
  rw [attS_join (by simp)] at h1
  simp only [List.length_cons,List.length_append,List.length_nil] at h1 ⊢;omega
theorem ok_take {l:List Pr}(h:attOk l)(k:Nat):attOk (l.take k):=fun x hx=>h x (List.mem_of_mem_take hx)
theorem rok_take {l:List Pr}(h:refOk l)(k:Nat):refOk (l.take k):=fun x hx=>h x (List.mem_of_mem_take hx)
end Go.Proofs.YtgmidodmmlmmeaaGreatDoor.prt
namespace Go.Proofs.YtgmidodmmlmmeaaGreatDoor.prt
open Go.RowKit Go.Sort lex tre
theorem ret_str {a b:ByteArray}(h:a=b):Ending.returned (.string a)=.returned (.string b):=by rw [h]
theorem ba_eq {a b:ByteArray}(h:a.data.toList=b.data.toList):a=b:=ba_ext h
set_option maxHeartbeats 2000000 in
theorem rvalue_of (s Q:ByteArray)(w:World)(hs:s.size≤32)(hp:Hid (s.data.toList.all isPl=true))(hq:Hid (valS prL s.data.toList=Q.data.toList)) :
    Calls Tryz.prog 211 #[.string s] w fun e w'=>e=.returned (.string Q)∧w=w':=by
 have hm:s.size≤maxLen:=by unfold maxLen;omega
 have hr:=hq.out
 unfold valS at hr
 obtain ⟨n,hn⟩:∃ b,isNm s.data.toList=b:=⟨_,rfl⟩
 have HN:=Lh hn
 rw [hn] at hr
 clear hn hq
 cases n
 ·rw [if_neg Bool.false_ne_true] at hr
  obtain ⟨pn,pe,hpe⟩:∃ a b,prL s.data.toList=(a,b):=⟨_,_,rfl⟩
  have HP:Hid (parseV s.data.toList=.tuple #[.int .i64 pn,.int .i64 pe]):=Lh (by rw [parseV_pr,hpe])
  rw [hpe] at hr
  simp only at hr
  clear hpe
  by_cases h0:pe=0
  ·rw [if_pos h0] at hr
   subst h0
   have HE:Hid (s=Q):=Lh (ba_eq hr)
   clear hr hp
   go_enter Tryz.func211,Tryz.ntmps211
   go_wp2_with (first | (go_at_call 77;refine (rname_of _ _ _ hm HN).mono ?_;rintro e w' ⟨rfl,rfl⟩) | (go_at_call 226;refine (refParse_of _ _ _ (by omega) HP).mono ?_;rintro e w' ⟨rfl,rfl⟩))
   go_ret
   exact ⟨ret_str HE.out,rfl⟩
  ·rw [if_neg h0] at hr
   have b0:(pe == 0)=false:=by rw [beq_eq_false_iff_ne];exact h0
   have HQ:Hid (quoE s.data.toList=(quoL s.data.toList,0)):=Lh (by unfold quoE;rw [size_list,if_neg (by omega),if_pos hp.out])
   have HE:Hid (ba (quoL s.data.toList)=Q):=Lh (ba_eq (by rw [← hr]))
   clear hr h0 hp
   go_enter Tryz.func211,Tryz.ntmps211
   go_wp2_with (first | (go_at_call 77;refine (rname_of _ _ _ hm HN).mono ?_;rintro e w' ⟨rfl,rfl⟩) | (go_at_call 226;refine (refParse_of _ _ _ (by omega) HP).mono ?_;rintro e w' ⟨rfl,rfl⟩) | (go_at_call 255;refine (rquote_of _ _ _ _ hm HQ).mono ?_;rintro e w' ⟨rfl,rfl⟩))
   go_ret
   exact ⟨ret_str HE.out,rfl⟩
 ·rw [if_pos rfl] at hr
  have HE:Hid (s=Q):=Lh (ba_eq hr)
  clear hr hp
  go_enter Tryz.func211,Tryz.ntmps211
  go_wp2_with (go_at_call 77;refine (rname_of _ _ _ hm HN).mono ?_;rintro e w' ⟨rfl,rfl⟩)
  go_ret
  exact ⟨ret_str HE.out,rfl⟩
theorem take_all {l:List Pr}:l.take l.length=l:=List.take_length
set_option maxRecDepth 100000 in
set_option maxHeartbeats 8000000 in
theorem rlist_of (l:List Pr)(v:Value)(Q:ByteArray)(w:World)(h:Hid (Prs w v l))(hl:l.length≤40)(ho:Hid (attOk l))(hq:Hid (attS prL l=Q.data.toList)) :
    Calls Tryz.prog 210 #[v] w fun e w'=>e=.returned (.string Q)∧Below w.heap.size w w':=by
 have hmx:Tryz.prog.follows .mixedOrders=true:=by kernel_rfl
 obtain ⟨ao,cap,rfl,-,-,-⟩:=id h.out
 rcases Nat.eq_zero_or_pos l.length with h0 | h0
 ·obtain rfl:l=[]:=List.length_eq_zero_iff.1 h0
  have HE:Hid ((⟨#[]⟩:ByteArray)=Q):=Lh (ba_eq (by rw [← hq.out];rfl))
  clear h hl ho hq h0
  go_enter Tryz.func210,Tryz.ntmps210
  go_wp2
  go_ret
  exact ⟨ret_str HE.out,Below.refl _ _⟩
 have HQ:Hid (91 :: (attJ l ++ [93])=Q.data.toList):=Lh (by rw [← attS_join (by intro e;rw [e] at h0;simp at h0)];exact hq.out)
 have b0:((l.length:Int) == 0)=false:=by rw [beq_eq_false_iff_ne];omega
 clear hq h0
 go_enter Tryz.func210,Tryz.ntmps210
 go_wp2_with fail
 go_loopw [3,4] (fun s i wr=>∃ (b:ByteArray) (k:Nat),k≤l.length∧s=.string b∧i=.int .i64 k∧b.data.toList=91 :: attJ (l.take k)∧b.size≤4000∧Below w.heap.size w wr) (fun _ i _=>l.length - (intOf i).toNat)
 case atStart=>exact ⟨_,0,Nat.zero_le _,rfl,rfl,rfl,by decide,Below.refl _ _⟩
 case round =>
  obtain ⟨b,k,hk,rfl,rfl,hb,hbs,hB⟩:=hrel
  rename World=>wr
  have HBL:=Lh hb
  have HBS:=Lh hbs
  clear hb b0
  by_cases hlt:k < l.length
  ·obtain ⟨A,rfl,p0,p1,z2,z3⟩:=(h.out.keep hB).get hlt
   have hat:=ho.out _ (List.getElem_mem hlt)
   have HJ:=Lh (attJ_snoc (l.take k) l[k])
   have HJL:=Lh (attJ_len (ok_take ho.out (k+1)))
   have HTK:=Lh (take_pr hlt)
   obtain ⟨x,hx⟩:∃ x,l[k]=x:=⟨_,rfl⟩
   rw [hx] at p0 p1 z2 z3 hat HJ HTK
   clear hx
   have s16:=nm_le hat.1
   obtain ⟨X,hX⟩:∃ Y,bb x.1=Y:=⟨_,rfl⟩
   obtain ⟨Y,hY⟩:∃ Y,bb x.2=Y:=⟨_,rfl⟩
   obtain ⟨V,hV⟩:∃ V,bb (valS prL x.2)=V:=⟨_,rfl⟩
   have d1:X.data.toList=x.1:=by rw [← hX]
   have d2:Y.data.toList=x.2:=by rw [← hY]
   have d3:V.data.toList=valS prL x.2:=by rw [← hV]
   have s1:X.size≤16:=by rw [← b_size,d1];exact s16
   have s2:Y.size≤32:=by rw [← b_size,d2];exact hat.2.1
   have s3:V.size≤66:=by rw [← b_size,d3];exact val_len hat.2.1
   rw [hX] at p0
   rw [hY] at p1
   have HP:Hid (Y.data.toList.all isPl=true):=Lh (by rw [d2];exact hat.2.2)
   have HV:Hid (valS prL Y.data.toList=V.data.toList):=Lh (by rw [d2,d3])
   have HA:Hid (attB prL x=X.data.toList ++ (61 :: V.data.toList)):=Lh (by rw [d1,d3];rfl)
   have t0:=fun d os=>cell_regrown p0 d os
   have t1:=fun d os=>cell_regrown p1 d os
   have cV:=fun d os=>Calls.regrown_of (w:=wr) (d:=d) (os:=os) ((rvalue_of Y V (grow (redrawn wr d) os) s2 HP HV).mono fun _ _ h=>⟨h.1,by rw [← h.2];exact Below.refl _ _⟩)
   have z0:(0:Int)≤(k:Int):=by omega
   have z1:(k:Int) < (l.length:Int):=by omega
   clear hat s16 hX hY hV d1 d2 d3 z2 z3 p0 p1
   by_cases hk0:k=0
   ·have HN:Hid (attJ (l.take (k+1))=attB prL x):=Lh (by rw [HTK.out,HJ.out,hk0];rfl)
    have HK:Hid (b.data.toList=[91]):=Lh (by rw [HBL.out,hk0];rfl)
    have e1:decide ((0:Int) < (k:Int))=false:=by simp [hk0]
    have e2:decide (0 < k)=false:=by simp [hk0]
    clear hk0 HJ HTK HBL
    go_wp2_with fail
    refine wp_region_quiet_below hmx (by kernel_rfl) ?_
    repeat (go_big_quiet_step (with_reducible exact cV _ _))
    refine wpQuiet_nil ?_
    intro _ hw'
    obtain ⟨⟨dq,osq⟩,hw''⟩:=hw'
    subst hw''
    have hBz:=below_keep (below_regrown wr dq osq) hB
    have hfin:(b ++ X ++ ⟨#[61]⟩ ++ V).data.toList=91 :: attJ (l.take (k+1)):=by
     rw [HN.out,HA.out];simp [HK.out]
    have hsz:(b ++ X ++ ⟨#[61]⟩ ++ V).size≤4000:=by
     have hz:=HJL.out
     rw [← b_size,hfin,List.length_cons]
     rw [List.length_take] at hz
     omega
    go_wp2
    go_roundw
    case rel=>exact ⟨_,k+1,by omega,rfl,by go_num,hfin,hsz,hBz⟩
    case measure=>simp [intOf];omega
   ·have HN:Hid (attJ (l.take (k+1))=attJ (l.take k) ++ ([44,32] ++ attB prL x)):=Lh (by
      rw [HTK.out,HJ.out,if_neg]
      intro e
      have:=List.isEmpty_iff.1 e
      rw [List.take_eq_nil_iff] at this
      rcases this with e | e
      ·exact hk0 e
      ·rw [e] at hlt;simp at hlt)
    have e1:decide ((0:Int) < (k:Int))=true:=by simp;omega
    have e2:decide (0 < k)=true:=by simp;omega
    clear hk0 HJ HTK
    have hbq:(b ++ ⟨#[44,32]⟩).size≤4002:=by rw [ByteArray.size_append];show b.size+2≤_;omega
    go_wp2_with fail
    refine wp_region_quiet_below hmx (by kernel_rfl) ?_
    repeat (go_big_quiet_step (with_reducible exact cV _ _))
    refine wpQuiet_nil ?_
    intro _ hw'
    obtain ⟨⟨dq,osq⟩,hw''⟩:=hw'
    subst hw''
    have hBz:=below_keep (below_regrown wr dq osq) hB
    have hfin:(b ++ ⟨#[44,32]⟩ ++ X ++ ⟨#[61]⟩ ++ V).data.toList=91 :: attJ (l.take (k+1)):=by
     rw [HN.out,HA.out];simp [HBL.out]
    have hsz:(b ++ ⟨#[44,32]⟩ ++ X ++ ⟨#[61]⟩ ++ V).size≤4000:=by
     have hz:=HJL.out
     rw [← b_size,hfin,List.length_cons]
     rw [List.length_take] at hz
     omega
    go_wp2
    go_roundw
    case rel=>exact ⟨_,k+1,by omega,rfl,by go_num,hfin,hsz,hBz⟩
    case measure=>simp [intOf];omega
  ·obtain rfl:k=l.length:=by omega
   have HE:Hid (b ++ ⟨#[93]⟩=Q):=Lh (ba_eq (by rw [← HQ.out,ba_add,HBL.out,take_all];simp))
   go_wp2
   go_ret
   exact ⟨ret_str HE.out,hB⟩
theorem prt_str {p:ByteArray}:(p.toList.isEmpty=true→prtP p.data.toList=[])∧(p.toList.isEmpty=false→prtP p.data.toList=58 :: p.data.toList):=by
 rw [ByteArray.toList_eq]
 constructor
 ·intro h;unfold prtP;rw [if_pos h]
 ·intro h;unfold prtP;rw [if_neg (by rw [h];decide)]
set_option maxRecDepth 100000 in
set_option maxHeartbeats 8000000 in
theorem rrefs_of (l:List Pr)(d:Bool)(v:Value)(Q:ByteArray)(w:World)(h:Hid (Prs w v l))(hl:l.length≤40)(ho:Hid (refOk l))(hq:Hid (refS d l=Q.data.toList)) :
    Calls Tryz.prog 209 #[v,.bool d] w fun e w'=>e=.returned (.string Q)∧Below w.heap.size w w':=by
 obtain ⟨ao,cap,rfl,-,-,-⟩:=id h.out
 go_enter Tryz.func209,Tryz.ntmps209
 go_wp2_with fail
 go_loopw [5,6] (fun s i wr=>∃ (b:ByteArray) (k:Nat),k≤l.length∧s=.string b∧i=.int .i64 k∧b.data.toList=refS d (l.take k)∧b.size≤2000∧Below w.heap.size w wr) (fun _ i _=>l.length - (intOf i).toNat)
 case atStart=>exact ⟨_,0,Nat.zero_le _,rfl,rfl,rfl,by decide,Below.refl _ _⟩
 case round =>
  obtain ⟨b,k,hk,rfl,rfl,hb,hbs,hB⟩:=hrel
  rename World=>wr
  have HBL:=Lh hb
  clear hb
  by_cases hlt:k < l.length
  ·obtain ⟨A,rfl,p0,p1,z2,z3⟩:=(h.out.keep hB).get hlt
   have hat:=ho.out _ (List.getElem_mem hlt)
   have HJ:=Lh (refS_snoc d (l.take k) l[k])
   have HJL:=Lh (refS_len d (rok_take ho.out (k+1)))
   have HTK:=Lh (take_pr hlt)
   obtain ⟨x,hx⟩:∃ x,l[k]=x:=⟨_,rfl⟩
   rw [hx] at p0 p1 z2 z3 hat HJ HTK
   clear hx
   have s16:=nm_le hat.1
   obtain ⟨X,hX⟩:∃ Y,bb x.1=Y:=⟨_,rfl⟩
   obtain ⟨Y,hY⟩:∃ Y,bb x.2=Y:=⟨_,rfl⟩
   have d1:X.data.toList=x.1:=by rw [← hX]
   have d2:Y.data.toList=x.2:=by rw [← hY]
   have s1:X.size≤16:=by rw [← b_size,d1];exact s16
   have s2:Y.size≤16:=by
    rw [← b_size,d2]
    rcases hat.2 with e | e
    ·rw [e];simp
    ·exact nm_le e
   rw [hX] at p0
   rw [hY] at p1
   have HA:Hid (refX x=X.data.toList ++ prtP Y.data.toList):=Lh (by rw [d1,d2];rfl)
   have z0:(0:Int)≤(k:Int):=by omega
   have z1:(k:Int) < (l.length:Int):=by omega
   clear hat s16 hX hY d1 d2 z2 z3
   obtain ⟨pe,hpe⟩:∃ e,Y.toList.isEmpty=e:=⟨_,rfl⟩
   have HPE:=Lh hpe
   by_cases hk0:k=0
   ·have HN:Hid (refS d (l.take (k+1))=refX x):=Lh (by rw [HTK.out,HJ.out,hk0];rfl)
    have HK:Hid (b.data.toList=[]):=Lh (by rw [HBL.out,hk0];rfl)
    have e1:decide ((0:Int) < (k:Int))=false:=by simp [hk0]
    have e2:decide (0 < k)=false:=by simp [hk0]
    clear hk0 HJ HTK HBL
    cases pe
    ·have hfin:(b ++ X ++ ⟨#[58]⟩ ++ Y).data.toList=refS d (l.take (k+1)):=by
       rw [HN.out,HA.out,prt_str.2 HPE.out];simp [HK.out]
     have hsz:(b ++ X ++ ⟨#[58]⟩ ++ Y).size≤2000:=by
      have hz:=HJL.out
      rw [← b_size,hfin]
      rw [List.length_take] at hz
      omega
     have HF:=Lh hfin
     have HZ:=Lh hsz
     clear hfin hsz
     go_wp2_with fail
     go_roundw
     case rel=>exact ⟨_,k+1,by omega,rfl,by go_num,HF.out,HZ.out,hB⟩
     case measure=>simp [intOf];omega
    ·have hfin:(b ++ X).data.toList=refS d (l.take (k+1)):=by
       rw [HN.out,HA.out,prt_str.1 HPE.out];simp [HK.out]
     have hsz:(b ++ X).size≤2000:=by
      have hz:=HJL.out
      rw [← b_size,hfin]
      rw [List.length_take] at hz
      omega
     have HF:=Lh hfin
     have HZ:=Lh hsz
     clear hfin hsz
     go_wp2_with fail
     go_roundw
     case rel=>exact ⟨_,k+1,by omega,rfl,by go_num,HF.out,HZ.out,hB⟩
     case measure=>simp [intOf];omega
   ·have HN:Hid (refS d (l.take (k+1))=refS d (l.take k) ++ (arrS d ++ refX x)):=Lh (by
      rw [HTK.out,HJ.out,if_neg]
      intro e
      have:=List.isEmpty_iff.1 e
      rw [List.take_eq_nil_iff] at this
      rcases this with e | e
      ·exact hk0 e
      ·rw [e] at hlt;simp at hlt)
    have e1:decide ((0:Int) < (k:Int))=true:=by simp;omega
    have e2:decide (0 < k)=true:=by simp;omega
    clear hk0 HJ HTK
    cases pe
    ·have hfin:(b ++ ⟨(arrS d).toArray⟩ ++ X ++ ⟨#[58]⟩ ++ Y).data.toList=refS d (l.take (k+1)):=by
       rw [HN.out,HA.out,prt_str.2 HPE.out];simp [HBL.out]
     have hsz:(b ++ ⟨(arrS d).toArray⟩ ++ X ++ ⟨#[58]⟩ ++ Y).size≤2000:=by
      have hz:=HJL.out
      rw [← b_size,hfin]
      rw [List.length_take] at hz
      omega
     have HF:=Lh hfin
     have HZ:=Lh hsz
     clear hfin hsz
     cases d
     all_goals
      go_wp2_with fail
      go_roundw
      case rel=>exact ⟨_,k+1,by omega,rfl,by go_num,HF.out,HZ.out,hB⟩
      case measure=>simp [intOf];omega
    ·have hfin:(b ++ ⟨(arrS d).toArray⟩ ++ X).data.toList=refS d (l.take (k+1)):=by
       rw [HN.out,HA.out,prt_str.1 HPE.out];simp [HBL.out]
     have hsz:(b ++ ⟨(arrS d).toArray⟩ ++ X).size≤2000:=by
      have hz:=HJL.out
      rw [← b_size,hfin]
      rw [List.length_take] at hz
      omega
     have HF:=Lh hfin
     have HZ:=Lh hsz
     clear hfin hsz
     cases d
     all_goals
      go_wp2_with fail
      go_roundw
      case rel=>exact ⟨_,k+1,by omega,rfl,by go_num,HF.out,HZ.out,hB⟩
      case measure=>simp [intOf];omega
  ·obtain rfl:k=l.length:=by omega
   have HE:Hid (b=Q):=Lh (ba_eq (by rw [← hq.out,HBL.out,take_all]))
   go_wp2
   go_ret
   exact ⟨ret_str HE.out,hB⟩
set_option maxHeartbeats 2000000 in
theorem rafter_of (l:List Pr)(v:Value)(Q:ByteArray)(w:World)(h:Hid (Prs w v l))(hl:l.length≤40)(ho:Hid (attOk l))(hq:Hid (aft prL l=Q.data.toList)) :
    Calls Tryz.prog 208 #[v] w fun e w'=>e=.returned (.string Q)∧Below w.heap.size w w':=by
 obtain ⟨ao,cap,rfl,-,-,-⟩:=id h.out
 have hr:=hq.out
 unfold aft at hr
 rcases Nat.eq_zero_or_pos l.length with h0 | h0
 ·obtain rfl:l=[]:=List.length_eq_zero_iff.1 h0
  have HE:Hid ((⟨#[]⟩:ByteArray)=Q):=Lh (ba_eq (by rw [← hr];rfl))
  clear h hl ho hq h0 hr
  go_enter Tryz.func208,Tryz.ntmps208
  go_wp2
  go_ret
  exact ⟨ret_str HE.out,Below.refl _ _⟩
 ·rw [if_neg (by cases l <;> simp at h0 ⊢)] at hr
  obtain ⟨L,hL⟩:∃ L,bb (attS prL l)=L:=⟨_,rfl⟩
  have HL:Hid (attS prL l=L.data.toList):=Lh (by rw [← hL])
  have hls:L.size≤4000:=by rw [← b_size,← HL.out];have:=attS_len ho.out;omega
  have HE:Hid ((⟨#[32]⟩:ByteArray) ++ L=Q):=Lh (ba_eq (by rw [← hr,ba_add,HL.out];rfl))
  have b0:((l.length:Int) == 0)=false:=by rw [beq_eq_false_iff_ne];omega
  clear hL hq h0 hr
  go_enter Tryz.func208,Tryz.ntmps208
  go_wp2_with (go_at_call 210;refine (rlist_of l _ L _ h hl ho HL).mono ?_;rintro e w1 ⟨rfl,hb1⟩)
  go_ret
  exact ⟨ret_str HE.out,hb1⟩
section
variable {T:TypeId} {r:List Value}
theorem bd_room {w:World}{b:Nat}{cs:Array Value}{p:Value}(hT:T≠5)(hb:w.heap[b]?=some (.cells (p :: .slice none 0 0 :: r).toArray T (0,0)))(hm:cs.size≤maxLen) :
    BdP T r ((w.setCell ⟨b,1,none⟩ (.slice (some ⟨w.heap.size,0,none⟩) 0 cs.size)).alloc (.cells cs 5)) b p []:=by
 have hlt:b < w.heap.size:=(Array.getElem?_eq_some_iff.1 hb).1
 obtain ⟨h1,_⟩:=bd_set hT hb (Byt.nil w b) 1 (.slice (some ⟨w.heap.size,0,none⟩) 0 cs.size)
 have hz:(w.setCell ⟨b,1,none⟩ (.slice (some ⟨w.heap.size,0,none⟩) 0 cs.size)).heap.size=w.heap.size:=by simp [World.setCell]
 have hn:=heap_alloc_new (w.setCell ⟨b,1,none⟩ (.slice (some ⟨w.heap.size,0,none⟩) 0 cs.size)) (.cells cs 5)
 rw [hz] at hn
 exact ⟨_,by rw [Lib.alloc_old _ _ b (by omega),h1];simp,⟨rfl,Or.inr ⟨w.heap.size,cs.size,cs,rfl,Nat.le_of_lt hlt,hn,Nat.zero_le _,hm,by simp,by simp [Lib.byteCells]⟩⟩⟩
set_option maxRecDepth 100000 in
set_option maxHeartbeats 4000000 in
theorem grow_of (hT:T≠5)(b n:Nat)(w:World)(p:Value)(hb:w.heap[b]?=some (.cells (p :: .slice none 0 0 :: r).toArray T (0,0)))(hn:n≤1000000) :
    Calls Tryz.prog 290 #[.pointer (some ⟨b,0,none⟩),.int .i64 n] w fun e w'=>e=.returned (.tuple #[])∧BdP T r w' b p []∧Fr b w w':=by
 obtain ⟨cs,hrun,hle,hmax⟩:=Lib.run_makeNoZero (P:=Tryz.prog) w.drew #[3] 147 5 Tryz.underlying147 n (by omega)
 have hlt:b < w.heap.size:=(Array.getElem?_eq_some_iff.1 hb).1
 have hw:IntKind.i64.wrap (IntKind.i64.wrap 0+(n:Int))=n:=by
  rw [IntKind.wrap_i64,IntKind.wrap_i64]
  omega
 have hcall:(callFunc 312 #[.int .i64 (IntKind.i64.wrap (IntKind.i64.wrap 0+(n:Int)))]).run Tryz.prog w.drew=.ok (.value (.slice (some ⟨w.drew.heap.size,0,none⟩) n cs.size)) (w.drew.drew.drew.alloc (.cells cs 5)):=by
  rw [hw,run_callFunc_extern Tryz.func312 (by kernel_rfl) (by kernel_rfl) (by kernel_rfl) (e:=Extern.BytealgMakeNoZero.makeNoZero #[3] #[147]) (by kernel_rfl),hrun]
  rfl
 have c1:w.drew.cell? ⟨b,1,none⟩=some (.slice none 0 0):=by
  have h:w.drew.heap[b]?=_:=hb
  rw [Lib.cell_of_heap h];rfl
 have hb2:(w.alloc (.cells cs 5)).heap[b]?=_:=(Lib.alloc_old w _ b hlt).trans hb
 have c2:(w.alloc (.cells cs 5)).cell? ⟨b,1,none⟩=some (.slice none 0 0):=by rw [Lib.cell_of_heap hb2];rfl
 have f2:(w.alloc (.cells cs 5)).frozen? ⟨b,1,none⟩=false:=Lib.frozen_of_heap hb2 1
 have hcopy:∀ W:World,(Builtin.copy_ #[147,147] 3 #[.slice (some ⟨w.heap.size,0,none⟩) 0 cs.size,.slice none 0 0]).run Tryz.prog W=.ok (goInt 0) W :=
  fun W=>run_copy_none W 147 147 3 5 _ _ 0 cs.size 0 0 Tryz.underlying147 (by kernel_rfl) rfl
 have hfin:=Lh (bd_room hT hb (hmax (by unfold maxLen;omega)))
 have hfr:Hid (Fr b w ((w.setCell ⟨b,1,none⟩ (.slice (some ⟨w.heap.size,0,none⟩) 0 cs.size)).alloc (.cells cs 5))):=Lh (((Fr.refl b w).set _ _).alloc (by simp [World.setCell];omega) _)
 clear hw hb2 hb
 go_enter Tryz.func290,Tryz.ntmps290
 go_wp2_with fail
 go_region_held3 (fun w'=>w'.cell? ⟨b,1,none⟩=some (.slice none 0 0)) (first | assumption | exact c1 | exact c2) (fail)
 all_goals (go_wp2;go_end0;exact ⟨rfl,hfin.out,hfr.out.drew.drew.drew⟩)
set_option maxRecDepth 100000 in
set_option maxHeartbeats 4000000 in
theorem growth_of (hT:BT T r.length)(b n:Nat)(w:World)(hb:Hid (w.heap[b]?=some (.cells (.pointer none :: .slice none 0 0 :: r).toArray T (0,0))))(hn:n≤1000000) :
    Calls Tryz.prog 273 #[.pointer (some ⟨b,0,none⟩),.int .i64 n] w fun e w'=>e=.returned (.tuple #[])∧Bd T r w' b []∧Fr b w w':=by
 have hmx:Tryz.prog.follows .mixedOrders=true:=by kernel_rfl
 have hcf:=cc_fresh hT b w (by rw [Lib.cell_of_heap hb.out];rfl) (by simp [World.shape?,hb.out]) (Lib.frozen_of_heap hb.out 0)
 have hb1:(w.setCell ⟨b,0,none⟩ (.pointer (some ⟨b,0,none⟩))).heap[b]?=some (.cells (.pointer (some ⟨b,0,none⟩) :: .slice none 0 0 :: r).toArray T (0,0)):=by
  simp [World.setCell,Array.getElem?_modify,hb.out]
 have hf1:Fr b w (w.setCell ⟨b,0,none⟩ (.pointer (some ⟨b,0,none⟩))):=(Fr.refl b w).set _ _
 obtain ⟨w1,hw1⟩:∃ w1,w.setCell ⟨b,0,none⟩ (.pointer (some ⟨b,0,none⟩))=w1:=⟨_,rfl⟩
 rw [hw1] at hcf hb1 hf1
 clear hw1
 have HCF:=Lh hcf
 clear hcf
 go_enter Tryz.func273,Tryz.ntmps273
 go_wp2_with (go_at_call 250;refine (HCF.out).mono ?_)
 rintro e w2 ⟨rfl,rfl⟩
 have c1:w2.cell? ⟨b,1,none⟩=some (.slice none 0 0):=by rw [Lib.cell_of_heap hb1];rfl
 have t1:=fun d os=>cell_regrown c1 d os
 have HB:=Lh hb1
 clear c1 hb1
 go_wp2_with fail
 refine wp_region_quiet_below hmx (by kernel_rfl) ?_
 repeat (go_big_quiet_step (fail))
 refine wpQuiet_nil ?_
 intro _ hw'
 obtain ⟨⟨dq,osq⟩,hw''⟩:=hw'
 subst hw''
 have hbq:=below_regrown w2 dq osq
 have hlt:b < w2.heap.size:=(Array.getElem?_eq_some_iff.1 HB.out).1
 generalize grow (redrawn w2 dq) osq=w3 at hbq ⊢
 have hb3:w3.heap[b]?=_:=(hbq.block b hlt).trans HB.out
 have hf3:=hf1.trans (Fr.of hbq (by omega))
 have HG:=Lh (grow_of hT.ne b n w3 _ hb3 hn)
 have hg0:Bd T r w3 b []:=Or.inr ⟨_,hb3,Byt.nil _ _⟩
 have HG0:=Lh hg0
 clear hb3 hg0 t1
 by_cases h0:(0:Int) < n
 ·go_wp2_with (go_at_call 290;refine (HG.out).mono ?_;rintro e w4 ⟨rfl,h4,hf4⟩)
  go_end0
  exact ⟨rfl,Or.inr h4,hf3.trans hf4⟩
 ·go_wp2
  go_end0
  exact ⟨rfl,HG0.out,hf3⟩
end
theorem lens_le (xs:List (List UInt8))(k:Nat):Lib.lens (xs.take k)≤Lib.lens xs:=Lib.lens_take_le _ _
set_option maxRecDepth 100000 in
set_option maxHeartbeats 8000000 in
theorem sjoin_many (bk o c:Nat)(xs:List ByteArray)(sep Q:ByteArray)(w:World)(hcells:Hid (∀ (j:Nat) x,xs[j]?=some x→w.cell? ⟨bk,o+j,none⟩=some (.string x)))(hbk:bk < w.heap.size)
    (h2:2≤xs.length) (hN:xs.length≤40) (hcap:xs.length≤c) (hs0:1≤sep.size) (hs1:sep.size≤10) (hQ:Q.size≤100000) (hq:Hid (Lib.join (xs.map (·.data.toList)) sep.data.toList=Q.data.toList)) :
    Calls Tryz.prog 242 #[.slice (some ⟨bk,o,none⟩) xs.length c,.string sep] w fun e w'=>e=.returned (.string Q)∧Below w.heap.size w w':=by
 obtain ⟨x0,r,hxs⟩:∃ x0 r,xs=x0 :: r:=by
  cases xs with
  | nil=>simp at h2
  | cons a t=>exact ⟨a,t,rfl⟩
 have hJ:sep.size*(xs.length - 1)+Lib.lens (xs.map (·.data.toList))=Q.size:=by
  have:=Lib.join_length x0.data.toList (r.map (·.data.toList)) sep.data.toList
  rw [← b_size Q,← hq.out,hxs]
  simp only [List.map_cons]
  rw [this,List.length_map,b_size,List.length_cons,Nat.add_sub_cancel]
 generalize hM:sep.size*(xs.length - 1)=M at hJ
 have hcast:((xs.length:Int) - 1)=((xs.length - 1:Nat):Int):=by omega
 have hdv:¬ (9223372036854775807 / ((xs.length:Int) - 1)≤(sep.size:Int)):=by
  have h3:((xs.length:Int) - 1)≤39:=by omega
  have h4:0 < ((xs.length:Int) - 1):=by omega
  have h5:(11:Int)≤9223372036854775807 / ((xs.length:Int) - 1):=by
   rw [Int.le_ediv_iff_mul_le h4];omega
  omega
 have hprod:wrap64 ((sep.size:Int)*((xs.length:Int) - 1))=(M:Int):=by
  have e:(sep.size:Int)*((xs.length - 1:Nat):Int)=((sep.size*(xs.length - 1):Nat):Int):=IntWalk.up_mul rfl rfl
  rw [hcast,e,hM]
  exact IntWalk.wrap64_in _ ⟨by omega,by omega⟩
 have hne0:((xs.length:Int) == 0)=false:=beq_eq_false_iff_ne.2 (by omega)
 have hne1:((xs.length:Int) == 1)=false:=beq_eq_false_iff_ne.2 (by omega)
 have hsp:(0:Int) < (sep.size:Int):=by omega
 have HXS:=Lh hxs
 have HJ:=Lh hJ
 have hMb:M≤100000:=by omega
 clear hxs hJ hcast hM
 go_enter Tryz.func242,Tryz.ntmps242
 go_wp2_with fail
 go_loop [5,41] (fun n i=>∃ k:Nat,k≤xs.length∧i=.int .i64 k∧n=.int .i64 ((M+Lib.lens ((xs.map (·.data.toList)).take k):Nat):Int)) (fun _ i=>xs.length - (intOf i).toNat)
 case atStart=>exact ⟨0,Nat.zero_le _,rfl,by simp [Lib.lens]⟩
 case round =>
  obtain ⟨k,hk,rfl,rfl⟩:=hrel
  by_cases hkn:k < xs.length
  ·obtain ⟨x,hx⟩:∃ x,xs[k]?=some x:=⟨xs[k],List.getElem?_eq_getElem hkn⟩
   have hc:=hcells.out k x hx
   have hstep:=Lib.lens_take_succ (xs.map (·.data.toList)) k x.data.toList (by simp [hx])
   have hbound:=lens_le (xs.map (·.data.toList)) (k+1)
   have hJ2:=HJ.out
   rw [b_size] at hstep
   generalize hA1:Lib.lens ((xs.map (·.data.toList)).take (k+1))=A1 at hstep hbound
   generalize Lib.lens ((xs.map (·.data.toList)).take k)=A0 at hstep
   have HA1:=Lh hA1
   have hA0b:A0≤100000:=by omega
   have hA1b:A0+x.size≤100000:=by omega
   have hA1e:=Lh hstep
   clear hA1 hbound hJ2 hstep
   go_wp2
   go_round
   case rel=>exact ⟨k+1,by omega,by go_num,by rw [HA1.out,hA1e.out];refine congrArg _ ?_;omega⟩
   case measure=>simp [intOf];omega
  ·obtain rfl:k=xs.length:=by omega
   have hall:(xs.map (·.data.toList)).take xs.length=xs.map (·.data.toList):=List.take_of_length_le (by simp)
   rw [hall]
   have hMT:((M+Lib.lens (xs.map (·.data.toList)):Nat):Int)=(Q.size:Int):=by rw [HJ.out]
   rw [hMT]
   clear hall hMT
   go_wp2_with fail
   refine (growth_of bt_builder w.heap.size Q.size _ (Lh (heap_alloc_new w _)) (by omega)).mono ?_
   rintro e w1 ⟨rfl,h1,hf1⟩
   have hb1:Below w.heap.size w w1:=((Below.refl w.heap.size w).alloc (Nat.le_refl _) _).trans hf1.1
   have hx0:xs[0]?=some x0:=by rw [HXS.out];rfl
   have hc0:w1.cell? ⟨bk,o,none⟩=some (.string x0):=by
    rw [hb1.cell (p:=⟨bk,o,none⟩) hbk]
    exact hcells.out 0 x0 hx0
   have H1:=Lh h1
   have HB1:=Lh hb1
   have hwhole:Q.data.toList=x0.data.toList ++ Lib.joinTail sep.data.toList (r.map (·.data.toList)):=by
    rw [← hq.out,HXS.out,List.map_cons,Lib.join_cons]
   have hCle:∀ k,(x0.data.toList ++ Lib.joinTail sep.data.toList ((r.map (·.data.toList)).take k)).length≤100000:=fun k=>by
    have h1:=congrArg List.length hwhole
    rw [b_size,List.length_append] at h1
    have h2:=Lib.joinTail_take_le sep.data.toList (r.map (·.data.toList)) k
    rw [List.length_append]
    omega
   have HCLE:=Lh hCle
   have HWH:=Lh hwhole
   have hx0s:x0.size≤100000:=by have:=hCle 0;rw [List.length_append,b_size] at this;omega
   clear h1 hf1 hb1 hx0 hCle hwhole
   go_wp2_with fail
   refine (wstr_of bt_builder w.heap.size [] x0 w1 H1 (by simp;omega)).mono ?_
   rintro e w2 ⟨rfl,h2',hf2⟩
   have H2:Hid (Bd 149 [] w2 w.heap.size (x0.data.toList ++ Lib.joinTail sep.data.toList ((r.map (·.data.toList)).take 0))):=Lh (by simpa [Lib.joinTail] using h2')
   have HB2:=Lh (HB1.out.trans hf2.1)
   have hrl:r.length=xs.length - 1:=by rw [HXS.out];simp
   clear h2' hf2 HB1 H1 hc0
   go_wp2_with fail
   go_loopw [65] (fun i wr=>∃ k:Nat,k≤r.length∧i=.int .i64 k∧Hid (Bd 149 [] wr w.heap.size (x0.data.toList ++ Lib.joinTail sep.data.toList ((r.map (·.data.toList)).take k)))∧Hid (Below w.heap.size w wr)) (fun i _=>r.length - (intOf i).toNat)
   case atStart=>exact ⟨0,Nat.zero_le _,rfl,H2,HB2⟩
   case round =>
    obtain ⟨k,hk',rfl,HB,HW⟩:=hrel
    rename World=>wr
    by_cases hkr:k < r.length
    ·obtain ⟨y,hy⟩:∃ y,r[k]?=some y:=⟨r[k],List.getElem?_eq_getElem hkr⟩
     have hxy:xs[k+1]?=some y:=by rw [HXS.out];simpa using hy
     have hcy:wr.cell? ⟨bk,o+1+k,none⟩=some (.string y):=by
      rw [HW.out.cell (p:=⟨bk,o+1+k,none⟩) hbk,show o+1+k=o+(k+1) by omega]
      exact hcells.out (k+1) y hxy
     have hts:=Lib.joinTail_take_succ sep.data.toList (r.map (·.data.toList)) k y.data.toList (by simp [hy])
     have hl1:=HCLE.out (k+1)
     rw [hts] at hl1
     simp only [List.length_append,b_size] at hl1
     have HN:Hid (x0.data.toList ++ Lib.joinTail sep.data.toList ((r.map (·.data.toList)).take k) ++ sep.data.toList ++ y.data.toList=x0.data.toList ++ Lib.joinTail sep.data.toList ((r.map (·.data.toList)).take (k+1))):=Lh (by rw [hts];simp)
     have hl0:(x0.data.toList ++ Lib.joinTail sep.data.toList ((r.map (·.data.toList)).take k)).length=x0.size+(Lib.joinTail sep.data.toList ((r.map (·.data.toList)).take k)).length:=by rw [List.length_append,b_size]
     generalize x0.data.toList ++ Lib.joinTail sep.data.toList ((r.map (·.data.toList)).take k)=acc at HB HN hl0
     generalize (Lib.joinTail sep.data.toList ((r.map (·.data.toList)).take k)).length=J at hl0 hl1
     have hl2:acc.length+sep.size+y.size≤100000:=by omega
     clear hxy hy hts hl1 hl0
     go_wp2_with fail
     refine (wstr_of bt_builder w.heap.size acc sep wr HB (by omega)).mono ?_
     rintro e w3 ⟨rfl,h3,hf3⟩
     have H3:=Lh h3
     have HB3:=Lh (HW.out.trans hf3.1)
     clear h3 hf3
     go_wp2_with fail
     refine (wstr_of bt_builder w.heap.size (acc ++ sep.data.toList) y w3 H3 (by rw [List.length_append,b_size];omega)).mono ?_
     rintro e w4 ⟨rfl,h4,hf4⟩
     rw [HN.out] at h4
     have H4:=Lh h4
     have HB4:=Lh (HB3.out.trans hf4.1)
     clear h4 hf4
     go_wp2
     go_roundw
     case rel=>exact ⟨k+1,by omega,by go_num,H4,HB4⟩
     case measure=>simp [intOf];omega
    ·obtain rfl:k=r.length:=by omega
     have hfull:(r.map (·.data.toList)).take r.length=r.map (·.data.toList):=List.take_of_length_le (by simp)
     have hB:=HB.out
     rw [hfull,← HWH.out] at hB
     have HBQ:=Lh hB
     have hQ1:0 < Q.size:=by
      have h5:xs.length - 1≠0:=by omega
      have h6:=Lib.join_length x0.data.toList (r.map (·.data.toList)) sep.data.toList
      have h7:=congrArg List.length HWH.out
      rw [← Lib.join_cons,h6,List.length_map,b_size,b_size,hrl] at h7
      have h8:1≤sep.size*(xs.length - 1):=Nat.mul_pos hs0 (by omega)
      omega
     have hQn:Q.data.toList≠[]:=by intro e;rw [← b_size,e] at hQ1;simp at hQ1
     clear hB hfull HB hQ1
     go_wp2_with fail
     refine (wtext_of w.heap.size Q.data.toList wr HBQ hQn).mono ?_
     rintro e w5 ⟨rfl,hb5⟩
     have HB5:=Lh (HW.out.trans hb5)
     clear hb5
     go_wp2
     go_ret
     exact ⟨ret_str (ba_eq (by simp)),HB5.out⟩
end Go.Proofs.YtgmidodmmlmmeaaGreatDoor.prt
