/-
  What Preorder and Valid of the reference of layer 7 return, for trees of up to 10^12 statements. Conditions: a tree in memory; a small level.
  What hasForm of the landed tree returns: whether a statement uses only the fields of its kind. Condition: the statement lies in memory.
  What Equal of the reference of layer 7 returns. Condition: trees in memory.
-/
import Derived.Test.YtgmidodmmlmmeaaGreatDoorMtc
namespace Go.Proofs.YtgmidodmmlmmeaaGreatDoor.tre
open Go.RowKit lex
def PreHuge (l:List St):Prop:=∀ (w0 w:World) (v:Value) (lv:Int),Below w0.heap.size w0 w→Sts w0 v l→cnt l≤1000000000000→0≤lv→lv+cnt l≤2000000000000 →
 Calls Tryz.prog 57 #[v,.int .i64 lv] w (PreOut w0 l lv w)
set_option maxRecDepth 100000 in
set_option maxHeartbeats 8000000 in
theorem huge_step (l:List St)(ih:∀ s∈l,PreHuge s.body):PreHuge l:=by
 intro w0 w v lv hw hs hcn h0 h1
 obtain ⟨i0,hi,hz0,hz1,hz2⟩:=info_flat6
 have hs':=hs
 obtain ⟨ao,cap,rfl,hc,hm,_⟩:=hs'
 have HS:=Lh hs
 have IH:=Lh ih
 unfold maxLen at hm
 have hlm:l.length≤9223372036854775807:=by omega
 clear hs ih hc hm
 go_enter Tryz.func57,Tryz.ntmps57
 go_wp2_with fail
 go_loopw [5,6] (fun out iv wr=>∃ (g oc:Nat) (F:List FV) (k:Nat),out=.slice (some ⟨g,0,none⟩) F.length oc∧iv=.int .i64 k∧k≤l.length∧wr.ownsRow w.heap.size 119 6 (.slice (some ⟨g,0,none⟩) F.length oc) F.length (flatF F) ∧
  F.map (fun f=>(f.s,f.lv))=preL (l.take k) lv∧(∀ f∈F,fvOk w0 f)∧Below w.heap.size w wr) (fun _ iv _=>l.length - (intOf iv).toNat)
 case atStart =>
  exact ⟨w.heap.size,0,[],0,rfl,rfl,Nat.zero_le _,World.ownsRow_lit (e:=119) (size:=6) w #[] 0 (Nat.le_refl _) (by decide) rfl,rfl,fun f hf=>(by cases hf),al1 ..⟩
 case round =>
  obtain ⟨g,oc,F,k,rfl,rfl,hk,hown,hF,hfv,hB⟩:=hrel
  rename World=>wr
  have HO:=Lh hown
  have HF:=Lh hF
  have HFV:=Lh hfv
  have hsz:=hB.size
  clear hown hF hfv
  have hFl:F.length=cnt (l.take k):=by have:=congrArg List.length HF.out;rw [List.length_map] at this;rw [this];exact pre_len.2 _ _ _
  by_cases hlt:k < l.length
  ·obtain ⟨hct,htk⟩:=cnt_take hlt
   have hB0:Below w0.heap.size w0 wr:=hw.trans (hB.mono hw.size)
   obtain ⟨A,rfl,hst0⟩:=HS.out.get hlt
   have hst:=(st_keep hB0).1 _ _ hst0
   obtain ⟨c0,c1,hnl,⟨rv,c2,hrv⟩,⟨av,c3,hav⟩,bv,c4,hbv⟩:=(stAt_eq _ _ _).1 hst
   obtain ⟨_,_,_,⟨rv',c2',hrv0⟩,⟨av',c3',hav0⟩,bv',c4',hbv0⟩:=(stAt_eq _ _ _).1 hst0
   obtain rfl:rv'=rv:=Option.some.inj ((cell_later' hB0 c2').symm.trans c2)
   obtain rfl:av'=av:=Option.some.inj ((cell_later' hB0 c3').symm.trans c3)
   obtain rfl:bv'=bv:=Option.some.inj ((cell_later' hB0 c4').symm.trans c4)
   have HNF:Hid (fvOk w0 ⟨l[k],lv,rv',av',bv'⟩):=Lh ⟨hnl,hrv0,hav0,hbv0⟩
   have HBV0:=Lh hbv0
   have hone:=cellsF_one HNF.out
   have HONE:=Lh hone
   have hPre:=IH.out l[k] (List.getElem_mem hlt)
   have HPRE:=Lh hPre
   have HPL:Hid (preL (l.take (k+1)) lv=preL (l.take k) lv ++ ((l[k],lv) :: preL l[k].body (if l[k].kind=5 then lv+1 else lv))):=Lh (by
    rw [htk,preL_app,preL_cons,preL_nil,List.append_nil,preS_eq])
   have k0:=((stAt_eq _ _ _).1 hst0).1
   have k4:=c4'
   clear hrv hav hbv hrv0 hav0 hbv0 hst hst0 c2' c3' c4' hone hPre htk
   have z0:(0:Int)≤(k:Int):=by omega
   have z1:(k:Int) < (l.length:Int):=by omega
   obtain ⟨s,hse⟩:∃ s,l[k]=s:=⟨_,rfl⟩
   rw [hse] at c0 c1 HNF HBV0 HONE HPRE HPL hct hnl k0
   clear hse
   have hFb:F.length+1+cnt s.body≤1000000000000:=by omega
   have hlvb:lv+1+cnt s.body≤2000000000000:=by omega
   have hB1:=below_keep (al1 wr (.cells #[.int .i64 s.kind,.string (bb s.name),rv',av',bv',.int .i64 lv] 119)) hB
   have HK0:=Lh k0
   have HK4:=Lh k4
   clear k0 k4 hFl hct
   obtain ⟨lw,hlw⟩:∃ q:Int,(if s.kind=5 then lv+1 else lv)=q:=⟨_,rfl⟩
   rw [hlw] at HPL
   have hl0:0≤lw:=by rw [← hlw];split <;> omega
   have hl1:lw+cnt s.body≤2000000000000:=by rw [← hlw];split <;> omega
   have hway:((s.kind == 5)=true∧lw=lv+1)∨((s.kind == 5)=false∧lv=lw):=by
    by_cases h5:s.kind=5
    ·rw [if_pos h5] at hlw;exact Or.inl ⟨by rw [beq_iff_eq];exact h5,hlw.symm⟩
    ·rw [if_neg h5] at hlw;exact Or.inr ⟨by rw [beq_eq_false_iff_ne];exact h5,hlw⟩
   clear hlw
   rcases hway with ⟨b5,rfl⟩ | ⟨b5,rfl⟩
   all_goals
    go_wp2_with (first
     | (at_builtin;refine wpList_append_own _ rfl (.tmp 15) (.tmp 22) 115 rfl w.heap.size 119 i0 (.agg #[.int .i64 0,.string ⟨#[]⟩,.slice none 0 0,.slice none 0 0,.slice none 0 0,.int .i64 0]) 6 104 Tryz.underlying115 hi hz0 hz1 hz2 rfl (by decide) _ _ _ rfl (World.ownsRow.alloc HO.out _) ⟨wr.heap.size,0,none⟩ 1 1 [.int .i64 s.kind,.string (bb s.name),rv',av',bv',.int .i64 lv] rfl rfl (cell6_new _ _ _ _ _ _ _ _) (fun u hu=>HONE.out u hu) (by unfold maxLen;omega) (by omega) (by simp;omega) ?_;intro v3 w3 hown3 hgrow3 hnil3;have hB3:=(hB.alloc hsz (.cells #[.int .i64 s.kind,.string (bb s.name),rv',av',bv',.int .i64 lv] 119)).grown hgrow3 (by simp;omega) (fun q hq=>(World.ownsRow.lt HO.out q hq).1);have hs3:=hB3.size;have hBw:=hw.trans (hB3.mono hw.size);have d0:=cell_later' hBw HK0.out;have d4:=cell_later' hBw HK4.out;have HO3:=Lh hown3;clear hown3 hgrow3 hnil3)
     | (go_at_call 57;refine (HPRE.out w0 w3 bv' _ hBw HBV0.out (by omega) hl0 hl1).mono ?_;rintro e w4 ⟨g4,oc4,G,rfl,hown4,hG,hGv,hb4⟩;have HO4:=Lh (own_keep HO3.out hb4);have HG:=Lh hG;have HGV:=Lh hGv;have HOG:=Lh hown4;have hB4:=below_keep hb4 hB3;have hs4:=hB4.size;have hGl:G.length=cnt s.body:=(by have:=congrArg List.length hG;rw [List.length_map] at this;rw [this];exact pre_len.2 _ _ _);have hGb:F.length+1+G.length≤1000000000000:=(by omega);clear hown4 hG hGv hb4 hGl)
     | (at_builtin;refine wpList_append_own _ rfl (.tmp 33) (.tmp 40) 115 rfl w.heap.size 119 i0 (.agg #[.int .i64 0,.string ⟨#[]⟩,.slice none 0 0,.slice none 0 0,.slice none 0 0,.int .i64 0]) 6 104 Tryz.underlying115 hi hz0 hz1 hz2 rfl (by decide) _ _ _ rfl HO4.out ⟨g4,0,none⟩ G.length oc4 (flatF G) rfl (flatF_length G) (World.ownsRow.cells HOG.out (g:=g4) rfl) (flatF_one' HGV.out) (by unfold maxLen;omega) (by omega) hs4 ?_;intro v5 w5 hown5 hgrow5 hnil5;have hB5:=hB4.grown hgrow5 hs4 (fun q hq=>(World.ownsRow.lt HO4.out q hq).1);have HO5:=Lh hown5;clear hown5 hgrow5 hnil5))
    have hcat:flatF F ++ [.int .i64 s.kind,.string (bb s.name),rv',av',bv',.int .i64 lv] ++ flatF G=flatF (F ++ [(⟨s,lv,rv',av',bv'⟩:FV)] ++ G):=by rw [flatF_app,flatF_app,flatF_one];rfl
    have hlen:(F ++ [(⟨s,lv,rv',av',bv'⟩:FV)] ++ G).length=F.length+1+G.length:=by simp;omega
    have hO5:=HO5.out
    rw [hcat,← hlen] at hO5
    obtain ⟨g5,oc5,rfl⟩:∃ g5 oc5,v5=.slice (some ⟨g5,0,none⟩) (F ++ [(⟨s,lv,rv',av',bv'⟩:FV)] ++ G).length oc5:=by
     rcases hO5.2 with ⟨_,h0⟩ | ⟨g5,oc5,_,rfl,_⟩
     ·rw [hlen] at h0;omega
     ·exact ⟨g5,oc5,rfl⟩
    have HO6:=Lh hO5
    clear HO5 hO5 hcat hlen
    go_roundw
    case rel=>exact ⟨g5,oc5,F ++ [(⟨s,lv,rv',av',bv'⟩:FV)] ++ G,k+1,rfl,by go_num,by omega,HO6.out,by rw [List.map_append,List.map_append,HF.out,HG.out,HPL.out,List.append_assoc];rfl,fun f hf=>by
     rcases List.mem_append.1 hf with hf | hf
     ·rcases List.mem_append.1 hf with hf | hf
      ·exact HFV.out f hf
      ·rw [List.mem_singleton.1 hf];exact HNF.out
     ·exact HGV.out f hf,hB5⟩
    case measure=>simp [intOf];omega
  ·obtain rfl:k=l.length:=by omega
   have HL:Hid (l.take l.length=l):=Lh (List.take_length)
   go_wp2
   go_ret
   exact ⟨g,oc,F,rfl,HO.out,by rw [HF.out,HL.out],HFV.out,hB⟩
theorem pre_huge (l:List St):PreHuge l:=lst_ind huge_step l
set_option maxRecDepth 100000 in
set_option maxHeartbeats 8000000 in
theorem rvalid_huge (v:Value)(T:Tr)(R:Int)(w:World)(hT:Hid (TrV w v T))(hc:cnt T.body≤1000000000000)(hR:Hid (validT T=R)) :
    Calls Tryz.prog 20 #[v] w fun e w'=>e=.returned (.int .i64 R)∧Below w.heap.size w w':=by
 obtain ⟨bv,rfl,hnl,hs⟩:=hT.out
 have hr:=hR.out
 unfold validT at hr
 obtain ⟨X,hX⟩:∃ X,bb T.name=X:=⟨_,rfl⟩
 have hXd:X.data.toList=T.name:=by rw [← hX]
 have HZ:=Lh (show X.size≤maxLen by rw [← b_size,hXd];exact hnl)
 obtain ⟨nm,hnm⟩:∃ q,isNm T.name=q:=⟨_,rfl⟩
 have HNM:Hid (isNm X.data.toList=nm):=Lh (by rw [hXd];exact hnm)
 rw [hX]
 rw [hnm] at hr
 have hB:=al1 w (.cells #[.string X,.bool T.dir,bv] 33)
 have h3:=at3_new w X T.dir bv 33
 have HS1:=Lh (hs.keep hB)
 have hsz1:w.heap.size < (w.alloc (.cells #[.string X,.bool T.dir,bv] 33)).heap.size:=by simp
 clear hT hR hX hXd hnm hs hnl
 cases nm
 ·rw [if_pos rfl] at hr
  subst hr
  obtain ⟨c0,c1,c2⟩:=h3
  go_enter Tryz.func20,Tryz.ntmps20
  go_wp2_with (go_at_call 56;refine (rnm_of _ _ _ HZ.out HNM).mono ?_;rintro e w' ⟨rfl,rfl⟩)
  go_ret
  exact ⟨rfl,hB⟩
 rw [if_neg (by decide)] at hr
 have HR:=Lh hr
 clear hr
 obtain ⟨c0,c1,c2⟩:=id h3
 go_enter Tryz.func20,Tryz.ntmps20
 go_wp2_with fail
 refine (rnm_of _ _ _ HZ.out HNM).mono ?_
 rintro e w' ⟨rfl,rfl⟩
 go_wp2_with fail
 refine (pre_huge T.body _ _ bv 0 (Below.refl _ _) HS1.out hc (by decide) (by omega)).mono ?_
 rintro e w2 ⟨g,oc,F,rfl,hown,hF,hfv,hb2⟩
 have hFl:=fin_len hF
 have hB2:=below_keep hb2 hB
 have HO:=Lh hown
 have HF:=Lh hF
 have HFV:Hid (∀ f∈F,fvOk w2 f):=Lh (fun f hf=>(hfv f hf).keep hb2)
 clear c0 c1 c2 h3 hown hF hfv hb2 hsz1
 by_cases g5:512 < F.length
 ·have HN:Hid (R=2):=Lh (by have:=HR.out;rw [if_pos (by omega)] at this;exact this.symm)
  obtain rfl:=HN.out
  have l5:(512:Int) < (F.length:Int):=by omega
  clear g5 hFl
  go_wp2
  go_ret
  exact ⟨rfl,hB2⟩
 have HR2:Hid (firstE (preL T.body 0)=R):=Lh (by have:=HR.out;rw [if_neg (by omega)] at this;exact this)
 have l5:¬ (512:Int) < (F.length:Int):=by omega
 have hF512:F.length≤512:=by omega
 clear g5 hFl HR
 go_wp2_with fail
 go_loopw [4] (fun iv wr=>∃ k:Nat,k≤F.length∧iv=.int .i64 k∧firstE ((preL T.body 0).drop k)=R∧Below w2.heap.size w2 wr) (fun iv _=>F.length - (intOf iv).toNat)
 case atStart=>exact ⟨0,Nat.zero_le _,rfl,HR2.out,Below.refl _ _⟩
 case round =>
  obtain ⟨k,hk,rfl,hfe,hBr⟩:=hrel
  rename World=>wr
  have HFE:=Lh hfe
  clear hfe HR2
  by_cases hlt:k < F.length
  ·obtain ⟨p0,p1,p2,p3,p4,p5⟩:=flat_at (own_keep HO.out hBr) hlt
   obtain ⟨r0,r1,r2,r3,r4,r5⟩:=flat_at2 (own_keep HO.out hBr) hlt
   obtain ⟨hk2,hgk⟩:=fin_get HF.out hlt
   have hst:=HFE.out
   rw [firstE_drop hk2,hgk] at hst
   have hfk:=(HFV.out _ (List.getElem_mem hlt)).keep hBr
   obtain ⟨f,hfe⟩:∃ f,F[k]=f:=⟨_,rfl⟩
   rw [hfe] at p0 p1 p2 p3 p4 p5 r0 r1 r2 r3 r4 r5 hst hfk
   obtain ⟨s,lv,rv,av,bv'⟩:=f
   have HFK:=Lh hfk
   obtain ⟨E,hE⟩:∃ E,staE s lv=E:=⟨_,rfl⟩
   simp only at p0 p1 p2 p3 p4 p5 r0 r1 r2 r3 r4 r5 hst
   rw [hE] at hst
   have HE:=Lh hE
   have i0:(0:Int)≤(k:Int):=by omega
   have i1:(k:Int) < (F.length:Int):=by omega
   clear hE hfk hfe hgk HFE
   by_cases he:E=0
   ·rw [if_neg (by simp [he])] at hst
    have HN:=Lh hst
    subst he
    clear hst
    go_wp2_with (go_at_call 58;refine (rsta_of s lv rv av bv' 0 _ HFK HE).mono ?_;rintro e w3 ⟨rfl,hb3⟩)
    go_roundw
    case rel=>exact ⟨k+1,by omega,by go_num,HN.out,below_keep hb3 hBr⟩
    case measure=>simp [intOf];omega
   ·rw [if_pos he] at hst
    subst hst
    have b1:(E != 0)=true:=by simp [he]
    clear he
    go_wp2_with (go_at_call 58;refine (rsta_of s lv rv av bv' E _ HFK HE).mono ?_;rintro e w3 ⟨rfl,hb3⟩)
    go_ret
    exact ⟨rfl,below_keep hb3 (below_keep hBr hB2)⟩
  ·obtain rfl:k=F.length:=by omega
   have HN:Hid (R=0):=Lh (by
    have:=HFE.out
    rw [← HF.out,List.drop_of_length_le (by rw [List.length_map];exact Nat.le_refl _)] at this
    exact this.symm)
   obtain rfl:=HN.out
   go_wp2
   go_ret
   exact ⟨rfl,below_keep hBr hB2⟩
set_option maxRecDepth 100000 in
set_option maxHeartbeats 8000000 in
theorem form_of (s:St)(A:Addr)(R:Bool)(w:World)(h:Hid (stAt w s A))(hR:Hid (decide (fldE s=0)=R)) :
    Calls Tryz.prog 138 #[.pointer (some A)] w fun e w'=>e=.returned (.bool R)∧w=w':=by
 obtain ⟨c0,c1,_,⟨rv,c2,hrv⟩,⟨av,c3,hav⟩,bv,c4,hbv⟩:=(stAt_eq _ _ _).1 h.out
 obtain ⟨k,n,r,a,b⟩:=s
 clear h
 simp only [St.kind,St.name,St.refs,St.attrs,St.body] at c0 c1 hrv hav hbv
 obtain ⟨E,hE⟩:∃ E,fldE (.mk k n r a b)=E:=⟨_,rfl⟩
 have hRE:Hid (decide (E=0)=R):=Lh (by rw [← hE];exact hR.out)
 have hR2:(if k < 1∨5 < k then (1:Int) else if (k=2∧n≠[])∨(k≠2∧0 < r.length)∨(k=5∧0 < a.length)∨(k≠5∧0 < b.length) then 1 else if (k=3∧n≠wNode∧n≠wEdge)∨(k=2∧r.length < 2) then 1 else if k=4∧(a.length≠1∨(a.head?.map (·.1))≠some []) then 1 else 0)=E:=hE
 clear hR hE
 obtain ⟨ro,rc,rfl,_,_,_⟩:=hrv
 obtain ⟨bo,bc,rfl,_,_,_⟩:=hbv
 obtain ⟨so,sc,rfl,_,_,hcell⟩:=hav
 have HC:=Lh hcell
 clear hcell
 obtain ⟨rn,hrn⟩:∃ q,r.length=q:=⟨_,rfl⟩
 obtain ⟨bn,hbn⟩:∃ q,b.length=q:=⟨_,rfl⟩
 rw [hrn] at c2 hR2
 rw [hbn] at c4 hR2
 clear hrn hbn
 obtain ⟨X,hX⟩:∃ X,bb n=X:=⟨_,rfl⟩
 have hXn:X.toList=n:=by rw [← hX,ByteArray.toList_eq]
 have e0:X.toList.isEmpty=decide (n=[]):=by rw [hXn];cases n <;> rfl
 have e0':(X.toList == [])=decide (n=[]):=by rw [hXn];cases n <;> rfl
 have e1:(X.toList == [110,111,100,101])=decide (n=wNode):=by rw [hXn,Bool.eq_iff_iff,beq_iff_eq,decide_eq_true_eq];rfl
 have e2:(X.toList == [101,100,103,101])=decide (n=wEdge):=by rw [hXn,Bool.eq_iff_iff,beq_iff_eq,decide_eq_true_eq];rfl
 rw [hX] at c1
 clear hX hXn
 have q1:decide ((2:Int)≤(rn:Int))=decide (2≤rn):=by rw [Bool.eq_iff_iff,decide_eq_true_eq,decide_eq_true_eq];omega
 have HR:=Lh hR2
 clear hR2
 by_cases hk:k=1∨k=2∨k=3∨k=4∨k=5
 ·rcases hk with rfl | rfl | rfl | rfl | rfl
  ·
   by_cases t_rn:rn=0
   ·subst t_rn
    by_cases t_bn:bn=0
    ·subst t_bn
     obtain rfl:true=R:=by rw [← hRE.out,← HR.out];simp []
     clear HR HC hRE
     go_enter Tryz.func138,Tryz.ntmps138
     go_wp2
     go_ret
     exact ⟨rfl,rfl⟩
    ·have v_bn:((bn:Int) == 0)=false:=by simp [t_bn]
     have u_bn:(bn == 0)=false:=by simp [t_bn]
     have p_bn:0 < bn:=by omega
     obtain rfl:false=R:=by rw [← hRE.out,← HR.out];simp [p_bn]
     clear HR HC hRE
     go_enter Tryz.func138,Tryz.ntmps138
     go_wp2
     go_ret
     exact ⟨rfl,rfl⟩
   ·have v_rn:((rn:Int) == 0)=false:=by simp [t_rn]
    have u_rn:(rn == 0)=false:=by simp [t_rn]
    have p_rn:0 < rn:=by omega
    obtain rfl:false=R:=by rw [← hRE.out,← HR.out];simp [p_rn]
    clear HR HC hRE
    go_enter Tryz.func138,Tryz.ntmps138
    go_wp2
    go_ret
    exact ⟨rfl,rfl⟩
  ·
   by_cases t_e:n=[]
   ·rw [decide_eq_true t_e] at e0 e0'
    by_cases t_g:2≤rn
    ·rw [decide_eq_true t_g] at q1
     have n_g:¬ rn < 2:=by omega
     have i_g:(2:Int)≤(rn:Int):=by omega
     by_cases t_bn:bn=0
     ·subst t_bn
      obtain rfl:true=R:=by rw [← hRE.out,← HR.out];simp [t_e,n_g]
      clear HR HC hRE
      go_enter Tryz.func138,Tryz.ntmps138
      go_wp2
      go_ret
      exact ⟨rfl,rfl⟩
     ·have v_bn:((bn:Int) == 0)=false:=by simp [t_bn]
      have u_bn:(bn == 0)=false:=by simp [t_bn]
      have p_bn:0 < bn:=by omega
      obtain rfl:false=R:=by rw [← hRE.out,← HR.out];simp [t_e,p_bn]
      clear HR HC hRE
      go_enter Tryz.func138,Tryz.ntmps138
      go_wp2
      go_ret
      exact ⟨rfl,rfl⟩
    ·rw [decide_eq_false t_g] at q1
     have n_g:rn < 2:=by omega
     obtain rfl:false=R:=by rw [← hRE.out,← HR.out];simp [t_e,n_g]
     clear HR HC hRE
     go_enter Tryz.func138,Tryz.ntmps138
     go_wp2
     go_ret
     exact ⟨rfl,rfl⟩
   ·rw [decide_eq_false t_e] at e0 e0'
    obtain rfl:false=R:=by rw [← hRE.out,← HR.out];simp [t_e]
    clear HR HC hRE
    go_enter Tryz.func138,Tryz.ntmps138
    go_wp2
    go_ret
    exact ⟨rfl,rfl⟩
  ·
   by_cases t_n:n=wNode
   ·rw [decide_eq_true t_n] at e1
    by_cases t_rn:rn=0
    ·subst t_rn
     by_cases t_bn:bn=0
     ·subst t_bn
      obtain rfl:true=R:=by rw [← hRE.out,← HR.out];simp [t_n]
      clear HR HC hRE
      go_enter Tryz.func138,Tryz.ntmps138
      go_wp2
      go_ret
      exact ⟨rfl,rfl⟩
     ·have v_bn:((bn:Int) == 0)=false:=by simp [t_bn]
      have u_bn:(bn == 0)=false:=by simp [t_bn]
      have p_bn:0 < bn:=by omega
      obtain rfl:false=R:=by rw [← hRE.out,← HR.out];simp [t_n,p_bn]
      clear HR HC hRE
      go_enter Tryz.func138,Tryz.ntmps138
      go_wp2
      go_ret
      exact ⟨rfl,rfl⟩
    ·have v_rn:((rn:Int) == 0)=false:=by simp [t_rn]
     have u_rn:(rn == 0)=false:=by simp [t_rn]
     have p_rn:0 < rn:=by omega
     obtain rfl:false=R:=by rw [← hRE.out,← HR.out];simp [t_n,p_rn]
     clear HR HC hRE
     go_enter Tryz.func138,Tryz.ntmps138
     go_wp2
     go_ret
     exact ⟨rfl,rfl⟩
   ·rw [decide_eq_false t_n] at e1
    by_cases t_d:n=wEdge
    ·rw [decide_eq_true t_d] at e2
     by_cases t_rn:rn=0
     ·subst t_rn
      by_cases t_bn:bn=0
      ·subst t_bn
       obtain rfl:true=R:=by rw [← hRE.out,← HR.out];simp [t_d,wNode,wEdge]
       clear HR HC hRE
       go_enter Tryz.func138,Tryz.ntmps138
       go_wp2
       go_ret
       exact ⟨rfl,rfl⟩
      ·have v_bn:((bn:Int) == 0)=false:=by simp [t_bn]
       have u_bn:(bn == 0)=false:=by simp [t_bn]
       have p_bn:0 < bn:=by omega
       obtain rfl:false=R:=by rw [← hRE.out,← HR.out];simp [t_d,wEdge,p_bn]
       clear HR HC hRE
       go_enter Tryz.func138,Tryz.ntmps138
       go_wp2
       go_ret
       exact ⟨rfl,rfl⟩
     ·have v_rn:((rn:Int) == 0)=false:=by simp [t_rn]
      have u_rn:(rn == 0)=false:=by simp [t_rn]
      have p_rn:0 < rn:=by omega
      obtain rfl:false=R:=by rw [← hRE.out,← HR.out];simp [t_d,wEdge,p_rn]
      clear HR HC hRE
      go_enter Tryz.func138,Tryz.ntmps138
      go_wp2
      go_ret
      exact ⟨rfl,rfl⟩
    ·rw [decide_eq_false t_d] at e2
     obtain rfl:false=R:=by rw [← hRE.out,← HR.out];simp [t_n,t_d]
     clear HR HC hRE
     go_enter Tryz.func138,Tryz.ntmps138
     go_wp2
     go_ret
     exact ⟨rfl,rfl⟩
  ·
   by_cases t_rn:rn=0
   ·subst t_rn
    rcases a with _ | ⟨x,_ | ⟨y,t⟩⟩
    ·
     obtain rfl:false=R:=by rw [← hRE.out,← HR.out];simp []
     clear HR HC hRE
     go_enter Tryz.func138,Tryz.ntmps138
     go_wp2
     go_ret
     exact ⟨rfl,rfl⟩
    ·
     obtain ⟨B,rfl,hB⟩:=HC.out (by simp)
     obtain ⟨p0,_⟩:=hB 0 (by simp)
     rw [show B.add (0*2)=B by rw [Nat.zero_mul];unfold Addr.add;rw [if_pos rfl]] at p0
     simp only [List.getElem_cons_zero] at p0
     obtain ⟨Y,hY⟩:∃ Y,bb x.1=Y:=⟨_,rfl⟩
     have hYn:Y.toList=x.1:=by rw [← hY,ByteArray.toList_eq]
     have y0:Y.toList.isEmpty=decide (x.1=[]):=by rw [hYn];cases x.1 <;> rfl
     have y1:(Y.toList == [])=decide (x.1=[]):=by rw [hYn];cases x.1 <;> rfl
     rw [hY] at p0
     clear hY hYn hB
     by_cases t_k:x.1=[]
     ·rw [decide_eq_true t_k] at y0 y1
      by_cases t_bn:bn=0
      ·subst t_bn
       obtain rfl:true=R:=by rw [← hRE.out,← HR.out];simp [t_k]
       clear HR HC hRE
       go_enter Tryz.func138,Tryz.ntmps138
       go_wp2
       go_ret
       exact ⟨rfl,rfl⟩
      ·have v_bn:((bn:Int) == 0)=false:=by simp [t_bn]
       have u_bn:(bn == 0)=false:=by simp [t_bn]
       have p_bn:0 < bn:=by omega
       obtain rfl:false=R:=by rw [← hRE.out,← HR.out];simp [p_bn]
       clear HR HC hRE
       go_enter Tryz.func138,Tryz.ntmps138
       go_wp2
       go_ret
       exact ⟨rfl,rfl⟩
     ·rw [decide_eq_false t_k] at y0 y1
      obtain rfl:false=R:=by rw [← hRE.out,← HR.out];simp [t_k]
      clear HR HC hRE
      go_enter Tryz.func138,Tryz.ntmps138
      go_wp2
      go_ret
      exact ⟨rfl,rfl⟩
    ·
     have v_a:(((x :: y :: t).length:Int) == 1)=false:=by rw [beq_eq_false_iff_ne,List.length_cons,List.length_cons];omega
     obtain ⟨an,han⟩:∃ q,(x :: y :: t).length=q:=⟨_,rfl⟩
     have w_a:an≠1:=by rw [← han,List.length_cons,List.length_cons];omega
     have HR2:=HR.out;clear HR
     rw [han] at c3 v_a HR2
     have HR:=Lh HR2;clear HR2 han
     have u_a:(an == 1)=false:=by simp [w_a]
     obtain rfl:false=R:=by rw [← hRE.out,← HR.out];simp [w_a]
     clear HR HC hRE
     go_enter Tryz.func138,Tryz.ntmps138
     go_wp2
     go_ret
     exact ⟨rfl,rfl⟩
   ·have v_rn:((rn:Int) == 0)=false:=by simp [t_rn]
    have u_rn:(rn == 0)=false:=by simp [t_rn]
    have p_rn:0 < rn:=by omega
    obtain rfl:false=R:=by rw [← hRE.out,← HR.out];simp [p_rn]
    clear HR HC hRE
    go_enter Tryz.func138,Tryz.ntmps138
    go_wp2
    go_ret
    exact ⟨rfl,rfl⟩
  ·
   by_cases t_rn:rn=0
   ·subst t_rn
    rcases a with _ | ⟨x,t⟩
    ·
     obtain rfl:true=R:=by rw [← hRE.out,← HR.out];simp []
     clear HR HC hRE
     go_enter Tryz.func138,Tryz.ntmps138
     go_wp2
     go_ret
     exact ⟨rfl,rfl⟩
    ·
     obtain ⟨an,han⟩:∃ q,(x :: t).length=q:=⟨_,rfl⟩
     have w_a:an≠0:=by rw [← han,List.length_cons];omega
     have p_a:0 < an:=by omega
     have HR2:=HR.out;clear HR
     rw [han] at c3 HR2
     have HR:=Lh HR2;clear HR2 han
     have v_a:((an:Int) == 0)=false:=by simp [w_a]
     have u_a:(an == 0)=false:=by simp [w_a]
     obtain rfl:false=R:=by rw [← hRE.out,← HR.out];simp [p_a]
     clear HR HC hRE
     go_enter Tryz.func138,Tryz.ntmps138
     go_wp2
     go_ret
     exact ⟨rfl,rfl⟩
   ·have v_rn:((rn:Int) == 0)=false:=by simp [t_rn]
    have u_rn:(rn == 0)=false:=by simp [t_rn]
    have p_rn:0 < rn:=by omega
    obtain rfl:false=R:=by rw [← hRE.out,← HR.out];simp [p_rn]
    clear HR HC hRE
    go_enter Tryz.func138,Tryz.ntmps138
    go_wp2
    go_ret
    exact ⟨rfl,rfl⟩
 ·have k1:(k == 1)=false:=by rw [beq_eq_false_iff_ne];omega
  have k2:(k == 2)=false:=by rw [beq_eq_false_iff_ne];omega
  have k3:(k == 3)=false:=by rw [beq_eq_false_iff_ne];omega
  have k4:(k == 4)=false:=by rw [beq_eq_false_iff_ne];omega
  have k5:(k == 5)=false:=by rw [beq_eq_false_iff_ne];omega
  obtain rfl:false=R:=by rw [← hRE.out,← HR.out,eq_comm,decide_eq_false_iff_not,if_pos (by omega)];decide
  clear HR HC hk hRE
  go_enter Tryz.func138,Tryz.ntmps138
  go_wp2
  go_ret
  exact ⟨rfl,rfl⟩
theorem eq_ok (l:List St):EqOk l:=lst_ind eq_step l
set_option maxRecDepth 100000 in
set_option maxHeartbeats 8000000 in
theorem requal_of (v v':Value)(S T:Tr)(R:Bool)(w:World)(hS:Hid (TrV w v S))(hT:Hid (TrV w v' T))(hR:Hid (eqT S T=R)) :
    Calls Tryz.prog 12 #[v,v'] w fun e w'=>e=.returned (.bool R)∧Below w.heap.size w w':=by
 obtain ⟨bv,rfl,-,hs⟩:=hS.out
 obtain ⟨bv',rfl,-,ht⟩:=hT.out
 have hr:=hR.out
 unfold eqT at hr
 obtain ⟨X,hX⟩:∃ X,bb S.name=X:=⟨_,rfl⟩
 obtain ⟨Y,hY⟩:∃ Y,bb T.name=Y:=⟨_,rfl⟩
 have hX2:X.toList=S.name:=by rw [← hX,ByteArray.toList_eq]
 have hY2:Y.toList=T.name:=by rw [← hY,ByteArray.toList_eq]
 rw [hX,hY]
 obtain ⟨d,hd⟩:∃ d,S.dir=d:=⟨_,rfl⟩
 obtain ⟨d',hd'⟩:∃ d,T.dir=d:=⟨_,rfl⟩
 rw [hd,hd'] at hr ⊢
 have hB1:=al1 w (.cells #[.string X,.bool d,bv] 33)
 have hB:=hB1.alloc (by simp) (.cells #[.string Y,.bool d',bv'] 33)
 have HS:=Lh (hs.keep hB)
 have HT:=Lh (ht.keep hB)
 obtain ⟨q,hq⟩:∃ q,eqL S.body T.body=q:=⟨_,rfl⟩
 have HQ:=Lh hq
 rw [hq] at hr
 have HR:=Lh hr
 obtain ⟨n,hn⟩:∃ n,decide (S.name=T.name)=n:=⟨_,rfl⟩
 rw [hn] at hr
 have hxy:(X.toList == Y.toList)=n:=by rw [hX2,hY2,← hn,Bool.eq_iff_iff];simp
 have HRN:Hid ((n && (d == d') && q)=R):=Lh hr
 have hc0:=at3_keep (at3_new w X d bv 33) (al1 (w.alloc (.cells #[.string X,.bool d,bv] 33)) (.cells #[.string Y,.bool d',bv'] 33))
 have hc1:=at3_new (w.alloc (.cells #[.string X,.bool d,bv] 33)) Y d' bv' 33
 rw [World.size_alloc] at hc1
 obtain ⟨c0,c1,c2⟩:=hc0
 obtain ⟨e0,e1,e2⟩:=hc1
 clear hS hT hR hs ht hX hY hX2 hY2 hd hd' hq hn hr HR hB1
 cases n
 ·have HN:Hid (R=false):=Lh (by rw [← HRN.out];rfl)
  obtain rfl:=HN.out
  go_enter Tryz.func12,Tryz.ntmps12
  go_wp2
  go_ret
  exact ⟨rfl,hB⟩
 ·cases d <;> cases d'
  case true.false.true =>
   have HN:Hid (R=false):=Lh (by rw [← HRN.out];rfl)
   obtain rfl:=HN.out
   go_enter Tryz.func12,Tryz.ntmps12
   go_wp2
   go_ret
   exact ⟨rfl,hB⟩
  case true.true.false =>
   have HN:Hid (R=false):=Lh (by rw [← HRN.out];rfl)
   obtain rfl:=HN.out
   go_enter Tryz.func12,Tryz.ntmps12
   go_wp2
   go_ret
   exact ⟨rfl,hB⟩
  all_goals
   have HN:Hid (q=R):=Lh (by rw [← HRN.out];rfl)
   obtain rfl:=HN.out
   go_enter Tryz.func12,Tryz.ntmps12
   go_wp2_with (go_at_call 38;refine (eq_ok S.body T.body _ _ _ q HS.out HT.out HQ.out).mono ?_;rintro e w5 ⟨rfl,hb5⟩)
   go_ret
   exact ⟨rfl,below_keep hb5 hB⟩
end Go.Proofs.YtgmidodmmlmmeaaGreatDoor.tre
