/-
  What Options of the landed code of layer 12 returns: the plain options, or the plain error. Conditions: a tree in memory, at most 2000000000000 statements; the library's variable MaxLen holds a number.
  What awake of the statements of layer 12 returns. Condition: the library's variable MaxLen holds a number.
-/
import Derived.Test.YtcdoicgbjoikkaaGreatDoorMni
namespace Go.Proofs.YtcdoicgbjoikkaaGreatDoor.nor
open Go.RowKit lex tre att
theorem getL_no:∀ (l:List Pr) (k:List UInt8),(getL l k).2=false→getL l k=([],false)
 | [],_,_=>rfl
 | a :: t,k,h=>by
  unfold getL at h ⊢
  by_cases h1:(getL t k).2=true
  ·rw [if_pos h1] at h;rw [h1] at h;exact absurd h (by simp)
  ·rw [if_neg h1] at h ⊢
   by_cases h2:a.1=k
   ·rw [if_pos h2] at h;exact absurd h (by simp)
   ·rw [if_neg h2]
theorem fold_get (k:List UInt8):∀ (l acc:List Pr),getL (l.foldl (fun own a=>mergeL own [a]) acc) k=if (getL l k).2 then getL l k else getL acc k
 | [],acc=>by simp [getL]
 | a :: t,acc=>by
  rw [List.foldl_cons,fold_get k t,merge_get]
  show _=if (getL (a :: t) k).2 then getL (a :: t) k else getL acc k
  have e:getL (a :: t) k=if (getL t k).2 then getL t k else if a.1=k then (a.2,true) else ([],false):=rfl
  have e1:getL [a] k=if a.1=k then (a.2,true) else ([],false):=rfl
  rw [e,e1]
  by_cases h1:(getL t k).2=true
  ·simp [h1]
  ·by_cases h2:a.1=k
   ·simp [h1,h2]
   ·simp [h1,h2]
theorem own_get (l:List Pr)(k:List UInt8):getL (l.foldl (fun own a=>mergeL own [a]) []) k=getL l k:=by
 rw [fold_get]
 by_cases h:(getL l k).2=true
 ·rw [if_pos h]
 ·rw [if_neg h,getL_no l k (by simpa using h)];rfl
theorem check_mode (a:Pr)(h:checkL 4 a=0)(hm:a.1=wMode):0≤modeL a.2:=by
 unfold checkL at h
 have hk:knownL 4 a.1=⟨5,0,0,0⟩:=by rw [hm];rfl
 rw [hk] at h
 rw [if_neg (by decide),if_neg (by decide),if_neg (fun q=>absurd q.1 (by decide))] at h
 by_cases q:0≤modeL a.2
 ·exact q
 ·have:okV ⟨5,0,0,0⟩ a.2=decide (0≤modeL a.2):=rfl
  rw [this,decide_eq_false q] at h
  exact absurd h (by decide)
def optsC (L:List Pr):Op':=⟨mdB L,numL 4 L wNodesep,numL 4 L wRanksep,numL 4 L wMargin,numL 4 L wRounds⟩
theorem opts_C (L:List Pr)(h:firC 4 L=0):optsOf (L.foldl (fun own a=>mergeL own [a]) [])=optsC L:=by
 unfold optsOf optsC numL
 simp only [own_get]
 rw [mdB_eq L (fun a ha hm=>check_mode a (firC_ok h a ha) hm)]
theorem mx_keep {w w1:World}(h:Hid (Mx w))(hb:Below w.heap.size w w1):Hid (Mx w1):=Lh (h.out.keep hb)
set_option maxRecDepth 100000 in
set_option maxHeartbeats 2000000 in
theorem opts_of (v:Value)(T:Tr)(o:Op')(E:Int)(w:World)(hM:Hid (Mx w))(hT:Hid (TrV w v T))(hc:cnt T.body≤2000000000000)(hr:Hid (optsT T=(o,E))) :
    Calls Tryz.prog 13 #[v] w fun e w'=>e=.returned (.tuple #[opV o,.int .i64 E])∧Below w.heap.size w w':=by
 have htv:=hT.out
 obtain ⟨bv,rfl,hnl,hs⟩:=hT.out
 obtain ⟨bo,bc,rfl,-,-,-⟩:=id hs
 have hfe:=hr.out
 unfold optsT at hfe
 obtain ⟨X,hX⟩:∃ X,bb T.name=X:=⟨_,rfl⟩
 obtain ⟨W1,hW1⟩:∃ W1,w.alloc (.cells #[.string X,.bool T.dir,.slice bo T.body.length bc] 24)=W1:=⟨_,rfl⟩
 obtain ⟨W2,hW2⟩:∃ W2,W1.alloc (.cells #[.int .i64 0,.int .i64 0,.int .i64 0,.int .i64 0,.int .i64 0] 38)=W2:=⟨_,rfl⟩
 have s1:W1.heap.size=w.heap.size+1:=by rw [← hW1];simp
 have hB:Below w.heap.size w W2:=by rw [← hW2,← hW1];exact al2 ..
 have hA3:at3 W2 w.heap.size X T.dir (.slice bo T.body.length bc):=by rw [← hW2,← hW1];exact at3_keep (at3_new ..) (al1 ..)
 have hO:obx W2 (w.heap.size+1) 0 0 0 0 0:=by rw [← hW2,← s1];exact obx_new ..
 rw [hX] at htv
 have HB:=Lh hB
 have HA:=Lh hA3
 have HO:=Lh hO
 have HTV:=Lh (htv.keep hB)
 have HW1:=Lh hW1
 have HW2:=Lh hW2
 have HS:=Lh hs
 have HMx:=mx_keep hM hB
 rw [hX]
 obtain ⟨V,hV⟩:∃ V,validT T=V:=⟨_,rfl⟩
 have HV:=Lh hV
 rw [hV] at hfe
 have HF:=Lh hfe
 clear hB hA3 hO hW1 hW2 s1 htv hX hV hfe hs hnl hT hr hM
 go_enter Tryz.func13,Tryz.ntmps13
 go_wp2_with fail
 rw [HW1.out,HW2.out]
 obtain ⟨a0,a1,a2⟩:=HA.out
 go_wp2_with fail
 refine (valid_of _ T V _ HTV hc HV).mono ?_
 rintro e w3 ⟨rfl,hb3⟩
 have HB3:=Lh (below_keep hb3 HB.out)
 have HA3:=Lh (at3_keep HA.out hb3)
 have HO3:=Lh (obx_keep HO.out hb3)
 have HMx3:=mx_keep HMx hb3
 clear hb3 a0 a1 a2 HTV HA HO HMx
 by_cases v0:V=0
 case neg =>
  have z0:(V != 0)=true:=by rw [bne_iff_ne];exact v0
  have hfe:=HF.out
  rw [if_pos v0] at hfe
  obtain ⟨rfl,rfl⟩:=Prod.mk.inj hfe
  obtain ⟨o0,o1,o2,o3,o4,f0,f1,f2,f3,f4⟩:=HO3.out
  clear hfe HF v0
  go_wp2
  have r0:(w3.setCell ⟨w.heap.size+1,0,none⟩ (.int .i64 0)).cell? ⟨w.heap.size+1,0,none⟩=some (.int .i64 0):=by go_simp
  have r1:((w3.setCell ⟨w.heap.size+1,0,none⟩ (.int .i64 0)).setCell ⟨w.heap.size+1,1,none⟩ (.int .i64 0)).cell? ⟨w.heap.size+1,1,none⟩=some (.int .i64 0):=by go_simp
  have r2:(((w3.setCell ⟨w.heap.size+1,0,none⟩ (.int .i64 0)).setCell ⟨w.heap.size+1,1,none⟩ (.int .i64 0)).setCell ⟨w.heap.size+1,2,none⟩ (.int .i64 0)).cell? ⟨w.heap.size+1,2,none⟩=some (.int .i64 0):=by go_simp
  have r3:((((w3.setCell ⟨w.heap.size+1,0,none⟩ (.int .i64 0)).setCell ⟨w.heap.size+1,1,none⟩ (.int .i64 0)).setCell ⟨w.heap.size+1,2,none⟩ (.int .i64 0)).setCell ⟨w.heap.size+1,3,none⟩ (.int .i64 0)).cell? ⟨w.heap.size+1,3,none⟩=some (.int .i64 0):=by go_simp
  have r4:(((((w3.setCell ⟨w.heap.size+1,0,none⟩ (.int .i64 0)).setCell ⟨w.heap.size+1,1,none⟩ (.int .i64 0)).setCell ⟨w.heap.size+1,2,none⟩ (.int .i64 0)).setCell ⟨w.heap.size+1,3,none⟩ (.int .i64 0)).setCell ⟨w.heap.size+1,4,none⟩ (.int .i64 0)).cell? ⟨w.heap.size+1,4,none⟩=some (.int .i64 0):=by go_simp
  exact bodyPost_ret (v:=.tuple #[.agg #[.int .i64 0,.int .i64 0,.int .i64 0,.int .i64 0,.int .i64 0],.int .i64 V]) (by simp [results,Tryz.results13,go_sem,r0,r1,r2,r3,r4]) rfl ⟨by rw [show opV ⟨0,0,0,0,0⟩=_ from rfl];rfl,((((HB3.out.setCell (by simp) _).setCell (by simp) _).setCell (by simp) _).setCell (by simp) _).setCell (by simp) _⟩
 have z0:(V != 0)=false:=by rw [v0];rfl
 have hval:=HV.out.trans v0
 have hvi:=(valid_iff T).1 hval
 obtain ⟨L,hL⟩:∃ L,setL (preL T.body 0)=L:=⟨_,rfl⟩
 have hLb:=setL_ok hvi.2.2
 have hLl:=optL_len.2 T.body 0
 rw [hL] at hLb hLl
 have hfe:=HF.out
 rw [if_neg (by simp [v0]),hL] at hfe
 have hLn:L.length≤512:=by have:=hvi.2.1;unfold cnt at this;omega
 have HLB:=Lh hLb
 have HHS:Hid (SetHas T.body):=Lh (fun x hx h4=>(sta_attrs (hvi.2.2 x hx)).2.2.1 h4)
 have hoL:optL T.body=L:=hL
 have HF2:=Lh hfe
 have HCN:Hid (cnt T.body≤100000):=Lh (by have:=hvi.2.1;omega)
 have HBO:Hid (∀ r∈optL T.body,r.1.length≤maxLen∧r.2.length≤maxLen):=Lh (fun r hr=>by rw [hoL] at hr;have:=hLb r hr;unfold maxLen;omega)
 have HOL:=Lh hoL
 obtain ⟨a0,a1,a2⟩:=HA3.out
 clear hval hvi hL hLb hLl hfe HF v0 HV hoL
 go_wp2_with fail
 refine (ScOk.use (l:=T.body) (Lh (sc_ok T.body)) w3 (.slice bo T.body.length bc) (Lh (HS.out.keep HB3.out)) HHS HCN HBO).mono ?_
 rintro e w4 ⟨lv,rfl,hrow,hb4'⟩
 rw [HOL.out] at hrow
 obtain ⟨lo,lc,rfl,-,-⟩:=own_form hrow
 have HB4:=Lh (below_keep hb4' HB3.out)
 have HO4:=Lh (obx_keep HO3.out hb4')
 have HMx4:=mx_keep HMx3 hb4'
 have HBL:Hid (Bnd L):=Lh (fun r hr=>by have:=HLB.out r hr;unfold maxLen;omega)
 have HPL:Hid (Prs w4 (.slice lo L.length lc) L):=Lh (hrow.prs HBL.out)
 obtain ⟨FC,hFC⟩:∃ FC,firC 4 L=FC:=⟨_,rfl⟩
 have hF3:=HF2.out
 rw [hFC] at hF3
 have HF3:=Lh hF3
 have HFC0:=Lh hFC
 have HFC:Hid (firC 4 (L.drop 0)=FC):=Lh hFC
 clear a0 a1 a2 hrow hb4' hFC hF3 HF2 HOL HCN HHS HO3 z0 HBO HMx3
 go_wp2_with fail
 go_loopw [8,20] (fun _ iv wr=>∃ i:Nat,iv=.int .i64 i∧i≤L.length∧firC 4 (L.drop i)=FC∧Below w4.heap.size w4 wr) (fun _ iv _=>L.length - (intOf iv).toNat)
 case atStart=>exact ⟨0,rfl,Nat.zero_le _,HFC.out,Below.refl _ _⟩
 case round =>
  obtain ⟨i,rfl,hi,hfc,hB⟩:=hrel
  rename World=>wr
  have HBw:=Lh (below_keep hB HB4.out)
  have HOw:=Lh (obx_keep HO4.out hB)
  have HPw:=Lh (HPL.out.keep hB)
  have HMw:=mx_keep HMx4 hB
  have HBo:=Lh hB
  clear hB HFC
  by_cases hlt:i < L.length
  ·have hget:=HPw.out.get hlt
   have hbl2:=HLB.out L[i] (List.getElem_mem hlt)
   rw [firC_drop hlt] at hfc
   obtain ⟨a,ha⟩:∃ a,L[i]=a:=⟨_,rfl⟩
   rw [ha] at hget hbl2 hfc
   obtain ⟨A,rfl,hpr⟩:=hget
   unfold prAt at hpr
   obtain ⟨q0,q1,-⟩:=hpr
   obtain ⟨e1,he1⟩:∃ e1,checkL 4 a=e1:=⟨_,rfl⟩
   rw [he1] at hfc
   have HCK:=Lh he1
   have HFI:=Lh hfc
   have i0:(0:Int)≤(i:Int):=by omega
   have i1:(i:Int) < (L.length:Int):=by omega
   have ha1:a.1.length≤1000:=by omega
   have ha2:a.2.length≤1000:=by omega
   have hx:=box2_new wr a 82
   have hal:=al1 wr (.cells #[.string (bb a.1),.string (bb a.2)] 82)
   have HBx:=Lh (below_keep hal HBw.out)
   have HOx:=Lh (obx_keep HOw.out hal)
   have HBox:=Lh (below_keep hal HBo.out)
   have HMx5:=mx_keep HMw hal
   clear hbl2 hfc ha he1 hal
   obtain ⟨x0,x1⟩:=hx
   go_wp2_with fail
   generalize wr.alloc (.cells #[.string (bb a.1),.string (bb a.2)] 82)=wb at *
   clear x0 x1 q0 q1
   refine (check10_of 4 a e1 wb HMx5 ha1 ha2 HCK).mono ?_
   rintro e w5 ⟨rfl,hb5⟩
   have HB5:=Lh (below_keep hb5 HBx.out)
   have HO5:=Lh (obx_keep HOx.out hb5)
   have HBo5:=Lh (below_keep hb5 HBox.out)
   clear hb5
   by_cases h1:e1=0
   case neg =>
    have z1:(e1 != 0)=true:=by rw [bne_iff_ne];exact h1
    have hf:=HFI.out
    rw [if_pos h1] at hf
    have hF:=HF3.out
    rw [← hf,if_pos h1] at hF
    obtain ⟨rfl,rfl⟩:=Prod.mk.inj hF
    obtain ⟨o0,o1,o2,o3,o4,f0,f1,f2,f3,f4⟩:=HO5.out
    clear h1 hf hF HF3
    go_wp2
    have r0:(w5.setCell ⟨w.heap.size+1,0,none⟩ (.int .i64 0)).cell? ⟨w.heap.size+1,0,none⟩=some (.int .i64 0):=by go_simp
    have r1:((w5.setCell ⟨w.heap.size+1,0,none⟩ (.int .i64 0)).setCell ⟨w.heap.size+1,1,none⟩ (.int .i64 0)).cell? ⟨w.heap.size+1,1,none⟩=some (.int .i64 0):=by go_simp
    have r2:(((w5.setCell ⟨w.heap.size+1,0,none⟩ (.int .i64 0)).setCell ⟨w.heap.size+1,1,none⟩ (.int .i64 0)).setCell ⟨w.heap.size+1,2,none⟩ (.int .i64 0)).cell? ⟨w.heap.size+1,2,none⟩=some (.int .i64 0):=by go_simp
    have r3:((((w5.setCell ⟨w.heap.size+1,0,none⟩ (.int .i64 0)).setCell ⟨w.heap.size+1,1,none⟩ (.int .i64 0)).setCell ⟨w.heap.size+1,2,none⟩ (.int .i64 0)).setCell ⟨w.heap.size+1,3,none⟩ (.int .i64 0)).cell? ⟨w.heap.size+1,3,none⟩=some (.int .i64 0):=by go_simp
    have r4:(((((w5.setCell ⟨w.heap.size+1,0,none⟩ (.int .i64 0)).setCell ⟨w.heap.size+1,1,none⟩ (.int .i64 0)).setCell ⟨w.heap.size+1,2,none⟩ (.int .i64 0)).setCell ⟨w.heap.size+1,3,none⟩ (.int .i64 0)).setCell ⟨w.heap.size+1,4,none⟩ (.int .i64 0)).cell? ⟨w.heap.size+1,4,none⟩=some (.int .i64 0):=by go_simp
    exact bodyPost_ret (v:=.tuple #[.agg #[.int .i64 0,.int .i64 0,.int .i64 0,.int .i64 0,.int .i64 0],.int .i64 e1]) (by simp [results,Tryz.results13,go_sem,r0,r1,r2,r3,r4]) rfl ⟨by rw [show opV ⟨0,0,0,0,0⟩=_ from rfl];rfl,((((HB5.out.setCell (by simp) _).setCell (by simp) _).setCell (by simp) _).setCell (by simp) _).setCell (by simp) _⟩
   subst h1
   have hf:=HFI.out
   simp only [ne_eq,not_true_eq_false,if_false] at hf
   have HFN:=Lh hf
   clear hf
   go_wp2
   go_roundw
   case rel=>exact ⟨i+1,by go_num,by omega,HFN.out,HBo5.out⟩
   case measure=>simp [intOf];omega
  ·obtain rfl:i=L.length:=by omega
   rw [List.drop_length] at hfc
   have hfc0:(0:Int)=FC:=hfc
   have hF:=HF3.out
   rw [← hfc0,if_neg (by show ¬ ((0:Int)≠0);decide),opts_C L (HFC0.out.trans hfc0.symm)] at hF
   obtain ⟨n0,h0⟩:∃ n,mdB L=n:=⟨_,rfl⟩
   obtain ⟨n1,h1⟩:∃ n,numL 4 L wNodesep=n:=⟨_,rfl⟩
   obtain ⟨n2,h2⟩:∃ n,numL 4 L wRanksep=n:=⟨_,rfl⟩
   obtain ⟨n3,h3⟩:∃ n,numL 4 L wMargin=n:=⟨_,rfl⟩
   obtain ⟨n4,h4⟩:∃ n,numL 4 L wRounds=n:=⟨_,rfl⟩
   have H0:=Lh h0
   have H1:Hid (numL 4 L (ByteArray.mk #[110,111,100,101,115,101,112]).data.toList=n1):=Lh h1
   have H2:Hid (numL 4 L (ByteArray.mk #[114,97,110,107,115,101,112]).data.toList=n2):=Lh h2
   have H3:Hid (numL 4 L (ByteArray.mk #[109,97,114,103,105,110]).data.toList=n3):=Lh h3
   have H4:Hid (numL 4 L (ByteArray.mk #[114,111,117,110,100,115]).data.toList=n4):=Lh h4
   have hop:optsC L=⟨n0,n1,n2,n3,n4⟩:=by unfold optsC;rw [h0,h1,h2,h3,h4]
   rw [hop] at hF
   obtain ⟨rfl,rfl⟩:=Prod.mk.inj hF
   have hL1:L.length≤1000:=by omega
   clear hfc hfc0 hF h0 h1 h2 h3 h4 hop HF3 HFC0
   go_wp2_with fail
   refine (mode_of _ L n0 wr HPw hL1 H0).mono ?_
   rintro e wx0 ⟨rfl,hbx⟩
   have HBx0:=Lh (below_keep hbx HBw.out)
   have HOx0:=Lh (obx_keep HOw.out hbx)
   have HWx0:=Lh (HPw.out.keep hbx)
   clear hbx
   go_wp2_with fail
   refine (num10_of 4 _ L _ n1 wx0 HWx0 hL1 (by decide) H1).mono ?_
   rintro e wx1 ⟨rfl,hbx⟩
   have HBx1:=Lh (below_keep hbx HBx0.out)
   have HOx1:=Lh (obx_keep HOx0.out hbx)
   have HWx1:=Lh (HWx0.out.keep hbx)
   clear hbx
   go_wp2_with fail
   refine (num10_of 4 _ L _ n2 wx1 HWx1 hL1 (by decide) H2).mono ?_
   rintro e wx2 ⟨rfl,hbx⟩
   have HBx2:=Lh (below_keep hbx HBx1.out)
   have HOx2:=Lh (obx_keep HOx1.out hbx)
   have HWx2:=Lh (HWx1.out.keep hbx)
   clear hbx
   go_wp2_with fail
   refine (num10_of 4 _ L _ n3 wx2 HWx2 hL1 (by decide) H3).mono ?_
   rintro e wx3 ⟨rfl,hbx⟩
   have HBx3:=Lh (below_keep hbx HBx2.out)
   have HOx3:=Lh (obx_keep HOx2.out hbx)
   have HWx3:=Lh (HWx2.out.keep hbx)
   clear hbx
   go_wp2_with fail
   refine (num10_of 4 _ L _ n4 wx3 HWx3 hL1 (by decide) H4).mono ?_
   rintro e wx4 ⟨rfl,hbx⟩
   have HBx4:=Lh (below_keep hbx HBx3.out)
   have HOx4:=Lh (obx_keep HOx3.out hbx)
   have HWx4:=Lh (HWx3.out.keep hbx)
   clear hbx
   obtain ⟨o0,o1,o2,o3,o4,f0,f1,f2,f3,f4⟩:=HOx4.out
   go_wp2
   have r0:(wx4.setCell ⟨w.heap.size+1,0,none⟩ (.int .i64 n0)).cell? ⟨w.heap.size+1,0,none⟩=some (.int .i64 n0):=by go_simp
   have r1:((wx4.setCell ⟨w.heap.size+1,0,none⟩ (.int .i64 n0)).setCell ⟨w.heap.size+1,1,none⟩ (.int .i64 n1)).cell? ⟨w.heap.size+1,1,none⟩=some (.int .i64 n1):=by go_simp
   have r2:(((wx4.setCell ⟨w.heap.size+1,0,none⟩ (.int .i64 n0)).setCell ⟨w.heap.size+1,1,none⟩ (.int .i64 n1)).setCell ⟨w.heap.size+1,2,none⟩ (.int .i64 n2)).cell? ⟨w.heap.size+1,2,none⟩=some (.int .i64 n2):=by go_simp
   have r3:((((wx4.setCell ⟨w.heap.size+1,0,none⟩ (.int .i64 n0)).setCell ⟨w.heap.size+1,1,none⟩ (.int .i64 n1)).setCell ⟨w.heap.size+1,2,none⟩ (.int .i64 n2)).setCell ⟨w.heap.size+1,3,none⟩ (.int .i64 n3)).cell? ⟨w.heap.size+1,3,none⟩=some (.int .i64 n3):=by go_simp
   have r4:(((((wx4.setCell ⟨w.heap.size+1,0,none⟩ (.int .i64 n0)).setCell ⟨w.heap.size+1,1,none⟩ (.int .i64 n1)).setCell ⟨w.heap.size+1,2,none⟩ (.int .i64 n2)).setCell ⟨w.heap.size+1,3,none⟩ (.int .i64 n3)).setCell ⟨w.heap.size+1,4,none⟩ (.int .i64 n4)).cell? ⟨w.heap.size+1,4,none⟩=some (.int .i64 n4):=by go_simp
   exact bodyPost_ret (v:=.tuple #[.agg #[.int .i64 n0,.int .i64 n1,.int .i64 n2,.int .i64 n3,.int .i64 n4],.int .i64 0]) (by simp [results,Tryz.results13,go_sem,r0,r1,r2,r3,r4]) rfl ⟨by rw [show opV ⟨n0,n1,n2,n3,n4⟩=_ from rfl];rfl,((((HBx4.out.setCell (by simp) _).setCell (by simp) _).setCell (by simp) _).setCell (by simp) _).setCell (by simp) _⟩
def exT:Tr:=⟨[103],true,[St.mk 2 [] [([97],[]),([98],[])] [] [],St.mk 5 [99] [] [] [St.mk 1 [97] [] [] [],St.mk 1 [100] [] [] []]]⟩
theorem o_fact:optsT exT=(⟨0,10000,20000,5000,8⟩,0):=by decide +kernel
theorem x_facts:(buildC exT).2=0∧(buildC exT).1.ns.length=3∧(buildC exT).1.es.length=1∧(buildC exT).1.ns[0]?.map (·.cl)=some (-1)∧(buildC exT).1.ns[2]?.map (·.cl)=some 0∧(buildC exT).1.ns[2]?.map (·.nm)=some [100]∧(buildC exT).1.es[0]?.map (·.to)=some 1∧cnt exT.body=4:=by
 refine ⟨?_,?_,?_,?_,?_,?_,?_,?_⟩ <;> decide +kernel
theorem sts_two {w:World}{b:Nat}{s1 s2:St}(h0:stAt w s1 ⟨b,0,none⟩)(h1:stAt w s2 ⟨b,5,none⟩):Sts w (.slice (some ⟨b,0,none⟩) 2 2) [s1,s2] :=
 ⟨some ⟨b,0,none⟩,2,rfl,Nat.le_refl _,by decide,fun _=>⟨_,rfl,h0,h1,trivial⟩⟩
theorem okL_ex:okL exT.body:=by
 unfold okL
 decide +kernel
def WX (w:World):World:=(((((w.alloc (.cells #[.string ⟨#[97]⟩,.string ⟨#[]⟩] 58)).alloc (.cells #[.string ⟨#[98]⟩,.string ⟨#[]⟩] 58)).alloc (.cells #[.string ⟨#[97]⟩,.string ⟨#[]⟩,.string ⟨#[98]⟩,.string ⟨#[]⟩] 58)).alloc
 (.cells #[.int .i64 1,.string ⟨#[97]⟩,.slice none 0 0,.slice none 0 0,.slice none 0 0,.int .i64 1,.string ⟨#[100]⟩,.slice none 0 0,.slice none 0 0,.slice none 0 0] 56)).alloc
 (.cells #[.int .i64 2,.string ⟨#[]⟩,.slice (some ⟨w.heap.size+1+1,0,none⟩) 2 2,.slice none 0 0,.slice none 0 0,.int .i64 5,.string ⟨#[99]⟩,.slice none 0 0,.slice none 0 0,.slice (some ⟨w.heap.size+1+1+1,0,none⟩) 2 2] 56)).alloc
 (.cells #[.string ⟨#[103]⟩,.bool true,.slice (some ⟨w.heap.size+1+1+1+1,0,none⟩) 2 2] 24)
theorem wx_facts (w:World):Below w.heap.size w (WX w)∧at3 (WX w) (w.heap.size+1+1+1+1+1) ⟨#[103]⟩ true (.slice (some ⟨w.heap.size+1+1+1+1,0,none⟩) 2 2)∧TrV (WX w) (.agg #[.string ⟨#[103]⟩,.bool true,.slice (some ⟨w.heap.size+1+1+1+1,0,none⟩) 2 2]) exT:=by
 obtain ⟨A0,h0⟩:∃ A,(w.alloc (.cells #[.string ⟨#[97]⟩,.string ⟨#[]⟩] 58)).alloc (.cells #[.string ⟨#[98]⟩,.string ⟨#[]⟩] 58)=A:=⟨_,rfl⟩
 have s0:A0.heap.size=w.heap.size+1+1:=by rw [← h0,World.size_alloc,World.size_alloc]
 have b0:Below w.heap.size w A0:=by rw [← h0];exact al2 ..
 obtain ⟨A1,h1⟩:∃ A,A0.alloc (.cells #[.string ⟨#[97]⟩,.string ⟨#[]⟩,.string ⟨#[98]⟩,.string ⟨#[]⟩] 58)=A:=⟨_,rfl⟩
 have s1:A1.heap.size=w.heap.size+1+1+1:=by rw [← h1,World.size_alloc,s0]
 have k1:Below A0.heap.size A0 A1:=by rw [← h1];exact al1 ..
 have p1:Prs A1 (.slice (some ⟨w.heap.size+1+1,0,none⟩) 2 2) [([97],[]),([98],[])]:=by rw [← h1,← s0];exact prs_lit A0 [([97],[]),([98],[])] (by decide) (by unfold Bnd;decide) 58
 obtain ⟨A2,h2⟩:∃ A,A1.alloc (.cells #[.int .i64 1,.string ⟨#[97]⟩,.slice none 0 0,.slice none 0 0,.slice none 0 0,.int .i64 1,.string ⟨#[100]⟩,.slice none 0 0,.slice none 0 0,.slice none 0 0] 56)=A:=⟨_,rfl⟩
 have s2:A2.heap.size=w.heap.size+1+1+1+1:=by rw [← h2,World.size_alloc,s1]
 have k2:Below A1.heap.size A1 A2:=by rw [← h2];exact al1 ..
 have q2:Sts A2 (.slice (some ⟨w.heap.size+1+1+1,0,none⟩) 2 2) [St.mk 1 [97] [] [] [],St.mk 1 [100] [] [] []]:=by
  have hbk:blk A2 (w.heap.size+1+1+1) 56 #[.int .i64 1,.string ⟨#[97]⟩,.slice none 0 0,.slice none 0 0,.slice none 0 0,.int .i64 1,.string ⟨#[100]⟩,.slice none 0 0,.slice none 0 0,.slice none 0 0]:=by rw [← h2,← s1];exact blk_new ..
  refine sts_two ((stAt_eq _ _ _).2 ⟨?_,?_,by decide,⟨_,?_,Prs.nil _⟩,⟨_,?_,Prs.nil _⟩,_,?_,Sts.nil _⟩) ((stAt_eq _ _ _).2 ⟨?_,?_,by decide,⟨_,?_,Prs.nil _⟩,⟨_,?_,Prs.nil _⟩,_,?_,Sts.nil _⟩) <;> exact (blk_cell hbk).trans rfl
 obtain ⟨A3,h3⟩:∃ A,A2.alloc (.cells #[.int .i64 2,.string ⟨#[]⟩,.slice (some ⟨w.heap.size+1+1,0,none⟩) 2 2,.slice none 0 0,.slice none 0 0,.int .i64 5,.string ⟨#[99]⟩,.slice none 0 0,.slice none 0 0,.slice (some ⟨w.heap.size+1+1+1,0,none⟩) 2 2] 56)=A:=⟨_,rfl⟩
 have s3:A3.heap.size=w.heap.size+1+1+1+1+1:=by rw [← h3,World.size_alloc,s2]
 have k3:Below A2.heap.size A2 A3:=by rw [← h3];exact al1 ..
 have p3:=(p1.keep k2).keep k3
 have r3:=q2.keep k3
 have q3:Sts A3 (.slice (some ⟨w.heap.size+1+1+1+1,0,none⟩) 2 2) exT.body:=by
  have hbk:blk A3 (w.heap.size+1+1+1+1) 56 #[.int .i64 2,.string ⟨#[]⟩,.slice (some ⟨w.heap.size+1+1,0,none⟩) 2 2,.slice none 0 0,.slice none 0 0,.int .i64 5,.string ⟨#[99]⟩,.slice none 0 0,.slice none 0 0,.slice (some ⟨w.heap.size+1+1+1,0,none⟩) 2 2]:=by rw [← h3,← s2];exact blk_new ..
  refine sts_two ((stAt_eq _ _ _).2 ⟨?_,?_,by decide,⟨_,?_,p3⟩,⟨_,?_,Prs.nil _⟩,_,?_,Sts.nil _⟩) ((stAt_eq _ _ _).2 ⟨?_,?_,by decide,⟨_,?_,Prs.nil _⟩,⟨_,?_,Prs.nil _⟩,_,?_,r3⟩) <;> exact (blk_cell hbk).trans rfl
 obtain ⟨A4,h4⟩:∃ A,A3.alloc (.cells #[.string ⟨#[103]⟩,.bool true,.slice (some ⟨w.heap.size+1+1+1+1,0,none⟩) 2 2] 24)=A:=⟨_,rfl⟩
 have k4:Below A3.heap.size A3 A4:=by rw [← h4];exact al1 ..
 have g4:at3 A4 (w.heap.size+1+1+1+1+1) ⟨#[103]⟩ true (.slice (some ⟨w.heap.size+1+1+1+1,0,none⟩) 2 2):=by rw [← h4,← s3];exact at3_new ..
 have hW:WX w=A4:=by unfold WX;rw [h0,h1,h2,h3,h4]
 rw [hW]
 exact ⟨below_keep k4 (below_keep k3 (below_keep k2 (below_keep k1 b0))),g4,_,rfl,by decide,q3.keep k4⟩
set_option maxRecDepth 100000 in
set_option maxHeartbeats 4000000 in
theorem awake_of (w:World)(hM:Hid (Mx w)):Calls Tryz.prog 9 #[] w fun e w'=>e=.returned (.bool true)∧Below w.heap.size w w':=by
 go_enter Tryz.func9,Tryz.ntmps9
 go_wp2_with fail
 have hwx:=wx_facts w
 obtain ⟨W,hW⟩:∃ W,WX w=W:=⟨_,rfl⟩
 rw [hW] at hwx
 unfold WX at hW
 rw [hW]
 obtain ⟨hb0,ha0,ht0⟩:=hwx
 have HB0:=Lh hb0
 have HA0:=Lh ha0
 have HT0:=Lh ht0
 have HM0:=mx_keep hM hb0
 obtain ⟨f0,f1,f2,f3,f4,f5,f6,f7⟩:=x_facts
 obtain ⟨G,hG⟩:∃ G,(buildC exT).1=G:=⟨_,rfl⟩
 rw [hG] at f1 f2 f3 f4 f5 f6
 have HBC:Hid (buildC exT=(G,0)):=Lh (by rw [← hG,← f0])
 have hcn:cnt exT.body≤2000000000000:=by rw [f7];decide
 clear hW hb0 ha0 ht0 hG f0 f7
 refine (build_of _ exT G 0 W HM0 HT0 hcn (Lh okL_ex) HBC).mono ?_
 rintro e w1 ⟨gv,rfl,hgv,hb1⟩
 have HB1:=Lh (below_keep hb1 HB0.out)
 have HA1:=Lh (at3_keep HA0.out hb1)
 have HT1:=Lh (HT0.out.keep hb1)
 have HM1:=mx_keep HM0 hb1
 obtain ⟨nv,ev,cv,rfl,-,hns,hes,hcs⟩:=hgv
 obtain ⟨co,cc,rfl,-,-,-⟩:=hcs
 obtain ⟨cn,hcn2⟩:∃ n,G.cs.length=n:=⟨_,rfl⟩
 simp only [hcn2]
 clear hcn2
 obtain ⟨no,nc,rfl,-,-,-⟩:=id hns
 obtain ⟨eo,ec,rfl,-,-,-⟩:=id hes
 obtain ⟨A,rfl,n0⟩:=hns.get (k:=0) (by omega)
 obtain ⟨A',e',n2⟩:=hns.get (k:=2) (by omega)
 cases e'
 obtain ⟨C,rfl,e0⟩:=hes.get (k:=0) (by omega)
 rw [List.getElem?_eq_getElem (by omega)] at f3 f4 f5 f6
 simp only [Option.map_some,Option.some.injEq] at f3 f4 f5 f6
 obtain ⟨-,-,-,-,c0,-,-⟩:=n0
 obtain ⟨m2,-,-,-,c2,-,-⟩:=n2
 obtain ⟨-,t0,-⟩:=e0
 rw [f3] at c0
 rw [f4] at c2
 rw [f5] at m2
 rw [f6] at t0
 rw [f1,f2]
 clear hb1 hns hes f3 f4 f5 f6 HA0 HT0 HB0 HM0 hM
 have hal:=al1 w1 (.cells #[.string (bb G.nm),.bool G.dir,.slice (some A) 3 nc,.slice (some C) 1 ec,.slice co cn cc] 31)
 have HGA:=Lh (gra.gat_new w1 (bb G.nm) G.dir (.slice (some A) 3 nc) (.slice (some C) 1 ec) (.slice co cn cc) 31)
 have HB2:=Lh (below_keep hal HB1.out)
 have HA2:=Lh (at3_keep HA1.out hal)
 have HT2:=Lh (HT1.out.keep hal)
 have HM2:=mx_keep HM1 hal
 have HC:=Lh (And.intro (cell_keep hal c0) (And.intro (cell_keep hal c2) (And.intro (cell_later' hal m2) (cell_keep hal t0))))
 obtain ⟨a0,a1,a2⟩:=HA2.out
 clear hal c0 c2 m2 t0
 go_wp2_with fail
 generalize w1.alloc (.cells #[.string (bb G.nm),.bool G.dir,.slice (some A) 3 nc,.slice (some C) 1 ec,.slice co cn cc] 31)=w2 at *
 clear a0 a1 a2
 refine (opts_of _ exT ⟨0,10000,20000,5000,8⟩ 0 w2 HM2 HT2 hcn (Lh o_fact)).mono ?_
 rintro e w3 ⟨he,hb3⟩
 have he2:e=.returned (.tuple #[.agg #[.int .i64 0,.int .i64 10000,.int .i64 20000,.int .i64 5000,.int .i64 8],.int .i64 0]):=he
 subst he2
 have hal:=al1 w3 (.cells #[.int .i64 0,.int .i64 10000,.int .i64 20000,.int .i64 5000,.int .i64 8] 38)
 have hq:=below_keep hal hb3
 have HBF:=Lh (below_keep hq HB2.out)
 obtain ⟨g0,g1,g2,g3,g4⟩:=gra.gat_keep HGA.out hq
 obtain ⟨y0,y2,ym,yt⟩:=HC.out
 have c0:(w3.alloc (.cells #[.int .i64 0,.int .i64 10000,.int .i64 20000,.int .i64 5000,.int .i64 8] 38)).cell? ⟨A.block,A.off+4,none⟩=some (.int .i64 (-1)):=cell_keep hq y0
 have c2:(w3.alloc (.cells #[.int .i64 0,.int .i64 10000,.int .i64 20000,.int .i64 5000,.int .i64 8] 38)).cell? ⟨A.block,A.off+12+4,none⟩=some (.int .i64 0):=cell_keep hq y2
 have c3:(w3.alloc (.cells #[.int .i64 0,.int .i64 10000,.int .i64 20000,.int .i64 5000,.int .i64 8] 38)).cell? ⟨A.block,A.off+16,none⟩=some (.int .i64 0):=c2
 have m2:(w3.alloc (.cells #[.int .i64 0,.int .i64 10000,.int .i64 20000,.int .i64 5000,.int .i64 8] 38)).cell? (A.add 12)=some (.string ⟨#[100]⟩):=cell_later' hq ym
 have m3:(w3.alloc (.cells #[.int .i64 0,.int .i64 10000,.int .i64 20000,.int .i64 5000,.int .i64 8] 38)).cell? ⟨A.block,A.off+12,none⟩=some (.string ⟨#[100]⟩):=by
  first | exact m2 | (have h:=m2;simp only [World.cell?,Addr.add] at h ⊢;exact h) | (rw [← m2];rfl)
 have t0:(w3.alloc (.cells #[.int .i64 0,.int .i64 10000,.int .i64 20000,.int .i64 5000,.int .i64 8] 38)).cell? ⟨C.block,C.off+1,none⟩=some (.int .i64 1):=cell_keep hq yt
 clear y0 y2 ym yt
 obtain ⟨o0,o1,o2,o3,o4⟩:=at5_new w3 ⟨0,10000,20000,5000,8⟩ 38
 simp only at o0 o1 o2 o3 o4
 have heq:=eql_op ⟨0,10000,20000,5000,8⟩ ⟨0,10000,20000,5000,8⟩ true (Lh (by decide))
 have hgo:=guard_op
 simp only at heq
 clear he hb3 hal hq HC HGA HB1 HB2 HA1 HA2 HT1 HT2 HM1 HM2
 go_wp2_with fail
 go_wp2
 go_ret
 exact ⟨rfl,HBF.out⟩
end Go.Proofs.YtcdoicgbjoikkaaGreatDoor.nor
