/-
  What hasForm of the landed tree returns: whether a statement uses only the fields of its kind. Condition: the statement lies in memory.
  What Equal of the reference of layer 7 returns. Condition: trees in memory.
  What IsName of the landed lexer returns, for a program that calls nothing else of the lexer. Condition: the text's length.
-/
import Derived.Test.YtcdoicgbjoikkaaGreatDoorMtd
import Derived.Test.YtcdoicgbjoikkaaGreatDoorChecked
import Derived.Test.YtcdoicgbjoikkaaGreatDoorMxa
namespace Go.Proofs.YtcdoicgbjoikkaaGreatDoor.tre
open Go.RowKit lex
set_option maxRecDepth 100000 in
set_option maxHeartbeats 8000000 in
theorem form_of (s:St)(A:Addr)(R:Bool)(w:World)(h:Hid (stAt w s A))(hR:Hid (decide (fldE s=0)=R)) :
    Calls Tryz.prog 93 #[.pointer (some A)] w fun e w'=>e=.returned (.bool R)∧w=w':=by
 obtain ⟨c0,c1,_,⟨rv,c2,hrv⟩,⟨av,c3,hav⟩,bv,c4,hbv⟩:=(stAt_eq _ _ _).1 h.out
 obtain ⟨k,n,r,a,b⟩:=s
 clear h
 simp only [St.kind,St.name,St.refs,St.attrs,St.body] at c0 c1 hrv hav hbv
 obtain ⟨E,hE⟩:∃ E,fldE (.mk k n r a b)=E:=⟨_,rfl⟩
 have hRE:Hid (decide (E=0)=R):=Lh (by rw [← hE];exact hR.out)
 have hR2:(if k < 1∨5 < k then (1:Int) else if (k=2∧n≠[])∨(k≠2∧0 < r.length)∨(k=5∧0 < a.length)∨(k≠5∧0 < b.length) then 1 else if (k=3∧n≠wNode∧n≠wEdge)∨(k=2∧r.length < 2) then 1 else if k=4∧(a.length≠1∨(a.head?.map (·.1))≠some []) then 1 else 0)=E:=hE
 clear hR hE
 obtain ⟨ro,rc,rfl,_,_,_⟩:=hrv
 obtain ⟨bo,bc,rfl,_,_,_⟩:=hbv
 obtain ⟨so,sc,rfl,_,_,hcell⟩:=hav
 have HC:=Lh hcell
 clear hcell
 obtain ⟨rn,hrn⟩:∃ q,r.length=q:=⟨_,rfl⟩
 obtain ⟨bn,hbn⟩:∃ q,b.length=q:=⟨_,rfl⟩
 rw [hrn] at c2 hR2
 rw [hbn] at c4 hR2
 clear hrn hbn
 obtain ⟨X,hX⟩:∃ X,bb n=X:=⟨_,rfl⟩
 have hXn:X.toList=n:=by rw [← hX,ByteArray.toList_eq]
 have e0:X.toList.isEmpty=decide (n=[]):=by rw [hXn];cases n <;> rfl
 have e0':(X.toList == [])=decide (n=[]):=by rw [hXn];cases n <;> rfl
 have e1:(X.toList == [110,111,100,101])=decide (n=wNode):=by rw [hXn,Bool.eq_iff_iff,beq_iff_eq,decide_eq_true_eq];rfl
 have e2:(X.toList == [101,100,103,101])=decide (n=wEdge):=by rw [hXn,Bool.eq_iff_iff,beq_iff_eq,decide_eq_true_eq];rfl
 rw [hX] at c1
 clear hX hXn
 have q1:decide ((2:Int)≤(rn:Int))=decide (2≤rn):=by rw [Bool.eq_iff_iff,decide_eq_true_eq,decide_eq_true_eq];omega
 have HR:=Lh hR2
 clear hR2
 by_cases hk:k=1∨k=2∨k=3∨k=4∨k=5
 ·rcases hk with rfl | rfl | rfl | rfl | rfl
  ·
   by_cases t_rn:rn=0
   ·subst t_rn
    by_cases t_bn:bn=0
    ·subst t_bn
     obtain rfl:true=R:=by rw [← hRE.out,← HR.out];simp []
     clear HR HC hRE
     go_enter Tryz.func93,Tryz.ntmps93
     go_wp2
     go_ret
     exact ⟨rfl,rfl⟩
    ·have v_bn:((bn:Int) == 0)=false:=by simp [t_bn]
     have u_bn:(bn == 0)=false:=by simp [t_bn]
     have p_bn:0 < bn:=by omega
     obtain rfl:false=R:=by rw [← hRE.out,← HR.out];simp [p_bn]
     clear HR HC hRE
     go_enter Tryz.func93,Tryz.ntmps93
     go_wp2
     go_ret
     exact ⟨rfl,rfl⟩
   ·have v_rn:((rn:Int) == 0)=false:=by simp [t_rn]
    have u_rn:(rn == 0)=false:=by simp [t_rn]
    have p_rn:0 < rn:=by omega
    obtain rfl:false=R:=by rw [← hRE.out,← HR.out];simp [p_rn]
    clear HR HC hRE
    go_enter Tryz.func93,Tryz.ntmps93
    go_wp2
    go_ret
    exact ⟨rfl,rfl⟩
  ·
   by_cases t_e:n=[]
   ·rw [decide_eq_true t_e] at e0 e0'
    by_cases t_g:2≤rn
    ·rw [decide_eq_true t_g] at q1
     have n_g:¬ rn < 2:=by omega
     have i_g:(2:Int)≤(rn:Int):=by omega
     by_cases t_bn:bn=0
     ·subst t_bn
      obtain rfl:true=R:=by rw [← hRE.out,← HR.out];simp [t_e,n_g]
      clear HR HC hRE
      go_enter Tryz.func93,Tryz.ntmps93
      go_wp2
      go_ret
      exact ⟨rfl,rfl⟩
     ·have v_bn:((bn:Int) == 0)=false:=by simp [t_bn]
      have u_bn:(bn == 0)=false:=by simp [t_bn]
      have p_bn:0 < bn:=by omega
      obtain rfl:false=R:=by rw [← hRE.out,← HR.out];simp [t_e,p_bn]
      clear HR HC hRE
      go_enter Tryz.func93,Tryz.ntmps93
      go_wp2
      go_ret
      exact ⟨rfl,rfl⟩
    ·rw [decide_eq_false t_g] at q1
     have n_g:rn < 2:=by omega
     obtain rfl:false=R:=by rw [← hRE.out,← HR.out];simp [t_e,n_g]
     clear HR HC hRE
     go_enter Tryz.func93,Tryz.ntmps93
     go_wp2
     go_ret
     exact ⟨rfl,rfl⟩
   ·rw [decide_eq_false t_e] at e0 e0'
    obtain rfl:false=R:=by rw [← hRE.out,← HR.out];simp [t_e]
    clear HR HC hRE
    go_enter Tryz.func93,Tryz.ntmps93
    go_wp2
    go_ret
    exact ⟨rfl,rfl⟩
  ·
   by_cases t_n:n=wNode
   ·rw [decide_eq_true t_n] at e1
    by_cases t_rn:rn=0
    ·subst t_rn
     by_cases t_bn:bn=0
     ·subst t_bn
      obtain rfl:true=R:=by rw [← hRE.out,← HR.out];simp [t_n]
      clear HR HC hRE
      go_enter Tryz.func93,Tryz.ntmps93
      go_wp2
      go_ret
      exact ⟨rfl,rfl⟩
     ·have v_bn:((bn:Int) == 0)=false:=by simp [t_bn]
      have u_bn:(bn == 0)=false:=by simp [t_bn]
      have p_bn:0 < bn:=by omega
      obtain rfl:false=R:=by rw [← hRE.out,← HR.out];simp [t_n,p_bn]
      clear HR HC hRE
      go_enter Tryz.func93,Tryz.ntmps93
      go_wp2
      go_ret
      exact ⟨rfl,rfl⟩
    ·have v_rn:((rn:Int) == 0)=false:=by simp [t_rn]
     have u_rn:(rn == 0)=false:=by simp [t_rn]
     have p_rn:0 < rn:=by omega
     obtain rfl:false=R:=by rw [← hRE.out,← HR.out];simp [t_n,p_rn]
     clear HR HC hRE
     go_enter Tryz.func93,Tryz.ntmps93
     go_wp2
     go_ret
     exact ⟨rfl,rfl⟩
   ·rw [decide_eq_false t_n] at e1
    by_cases t_d:n=wEdge
    ·rw [decide_eq_true t_d] at e2
     by_cases t_rn:rn=0
     ·subst t_rn
      by_cases t_bn:bn=0
      ·subst t_bn
       obtain rfl:true=R:=by rw [← hRE.out,← HR.out];simp [t_d,wNode,wEdge]
       clear HR HC hRE
       go_enter Tryz.func93,Tryz.ntmps93
       go_wp2
       go_ret
       exact ⟨rfl,rfl⟩
      ·have v_bn:((bn:Int) == 0)=false:=by simp [t_bn]
       have u_bn:(bn == 0)=false:=by simp [t_bn]
       have p_bn:0 < bn:=by omega
       obtain rfl:false=R:=by rw [← hRE.out,← HR.out];simp [t_d,wEdge,p_bn]
       clear HR HC hRE
       go_enter Tryz.func93,Tryz.ntmps93
       go_wp2
       go_ret
       exact ⟨rfl,rfl⟩
     ·have v_rn:((rn:Int) == 0)=false:=by simp [t_rn]
      have u_rn:(rn == 0)=false:=by simp [t_rn]
      have p_rn:0 < rn:=by omega
      obtain rfl:false=R:=by rw [← hRE.out,← HR.out];simp [t_d,wEdge,p_rn]
      clear HR HC hRE
      go_enter Tryz.func93,Tryz.ntmps93
      go_wp2
      go_ret
      exact ⟨rfl,rfl⟩
    ·rw [decide_eq_false t_d] at e2
     obtain rfl:false=R:=by rw [← hRE.out,← HR.out];simp [t_n,t_d]
     clear HR HC hRE
     go_enter Tryz.func93,Tryz.ntmps93
     go_wp2
     go_ret
     exact ⟨rfl,rfl⟩
  ·
   by_cases t_rn:rn=0
   ·subst t_rn
    rcases a with _ | ⟨x,_ | ⟨y,t⟩⟩
    ·
     obtain rfl:false=R:=by rw [← hRE.out,← HR.out];simp []
     clear HR HC hRE
     go_enter Tryz.func93,Tryz.ntmps93
     go_wp2
     go_ret
     exact ⟨rfl,rfl⟩
    ·
     obtain ⟨B,rfl,hB⟩:=HC.out (by simp)
     obtain ⟨p0,_⟩:=hB 0 (by simp)
     rw [show B.add (0*2)=B by rw [Nat.zero_mul];unfold Addr.add;rw [if_pos rfl]] at p0
     simp only [List.getElem_cons_zero] at p0
     obtain ⟨Y,hY⟩:∃ Y,bb x.1=Y:=⟨_,rfl⟩
     have hYn:Y.toList=x.1:=by rw [← hY,ByteArray.toList_eq]
     have y0:Y.toList.isEmpty=decide (x.1=[]):=by rw [hYn];cases x.1 <;> rfl
     have y1:(Y.toList == [])=decide (x.1=[]):=by rw [hYn];cases x.1 <;> rfl
     rw [hY] at p0
     clear hY hYn hB
     by_cases t_k:x.1=[]
     ·rw [decide_eq_true t_k] at y0 y1
      by_cases t_bn:bn=0
      ·subst t_bn
       obtain rfl:true=R:=by rw [← hRE.out,← HR.out];simp [t_k]
       clear HR HC hRE
       go_enter Tryz.func93,Tryz.ntmps93
       go_wp2
       go_ret
       exact ⟨rfl,rfl⟩
      ·have v_bn:((bn:Int) == 0)=false:=by simp [t_bn]
       have u_bn:(bn == 0)=false:=by simp [t_bn]
       have p_bn:0 < bn:=by omega
       obtain rfl:false=R:=by rw [← hRE.out,← HR.out];simp [p_bn]
       clear HR HC hRE
       go_enter Tryz.func93,Tryz.ntmps93
       go_wp2
       go_ret
       exact ⟨rfl,rfl⟩
     ·rw [decide_eq_false t_k] at y0 y1
      obtain rfl:false=R:=by rw [← hRE.out,← HR.out];simp [t_k]
      clear HR HC hRE
      go_enter Tryz.func93,Tryz.ntmps93
      go_wp2
      go_ret
      exact ⟨rfl,rfl⟩
    ·
     have v_a:(((x :: y :: t).length:Int) == 1)=false:=by rw [beq_eq_false_iff_ne,List.length_cons,List.length_cons];omega
     obtain ⟨an,han⟩:∃ q,(x :: y :: t).length=q:=⟨_,rfl⟩
     have w_a:an≠1:=by rw [← han,List.length_cons,List.length_cons];omega
     have HR2:=HR.out;clear HR
     rw [han] at c3 v_a HR2
     have HR:=Lh HR2;clear HR2 han
     have u_a:(an == 1)=false:=by simp [w_a]
     obtain rfl:false=R:=by rw [← hRE.out,← HR.out];simp [w_a]
     clear HR HC hRE
     go_enter Tryz.func93,Tryz.ntmps93
     go_wp2
     go_ret
     exact ⟨rfl,rfl⟩
   ·have v_rn:((rn:Int) == 0)=false:=by simp [t_rn]
    have u_rn:(rn == 0)=false:=by simp [t_rn]
    have p_rn:0 < rn:=by omega
    obtain rfl:false=R:=by rw [← hRE.out,← HR.out];simp [p_rn]
    clear HR HC hRE
    go_enter Tryz.func93,Tryz.ntmps93
    go_wp2
    go_ret
    exact ⟨rfl,rfl⟩
  ·
   by_cases t_rn:rn=0
   ·subst t_rn
    rcases a with _ | ⟨x,t⟩
    ·
     obtain rfl:true=R:=by rw [← hRE.out,← HR.out];simp []
     clear HR HC hRE
     go_enter Tryz.func93,Tryz.ntmps93
     go_wp2
     go_ret
     exact ⟨rfl,rfl⟩
    ·
     obtain ⟨an,han⟩:∃ q,(x :: t).length=q:=⟨_,rfl⟩
     have w_a:an≠0:=by rw [← han,List.length_cons];omega
     have p_a:0 < an:=by omega
     have HR2:=HR.out;clear HR
     rw [han] at c3 HR2
     have HR:=Lh HR2;clear HR2 han
     have v_a:((an:Int) == 0)=false:=by simp [w_a]
     have u_a:(an == 0)=false:=by simp [w_a]
     obtain rfl:false=R:=by rw [← hRE.out,← HR.out];simp [p_a]
     clear HR HC hRE
     go_enter Tryz.func93,Tryz.ntmps93
     go_wp2
     go_ret
     exact ⟨rfl,rfl⟩
   ·have v_rn:((rn:Int) == 0)=false:=by simp [t_rn]
    have u_rn:(rn == 0)=false:=by simp [t_rn]
    have p_rn:0 < rn:=by omega
    obtain rfl:false=R:=by rw [← hRE.out,← HR.out];simp [p_rn]
    clear HR HC hRE
    go_enter Tryz.func93,Tryz.ntmps93
    go_wp2
    go_ret
    exact ⟨rfl,rfl⟩
 ·have k1:(k == 1)=false:=by rw [beq_eq_false_iff_ne];omega
  have k2:(k == 2)=false:=by rw [beq_eq_false_iff_ne];omega
  have k3:(k == 3)=false:=by rw [beq_eq_false_iff_ne];omega
  have k4:(k == 4)=false:=by rw [beq_eq_false_iff_ne];omega
  have k5:(k == 5)=false:=by rw [beq_eq_false_iff_ne];omega
  obtain rfl:false=R:=by rw [← hRE.out,← HR.out,eq_comm,decide_eq_false_iff_not,if_pos (by omega)];decide
  clear HR HC hk hRE
  go_enter Tryz.func93,Tryz.ntmps93
  go_wp2
  go_ret
  exact ⟨rfl,rfl⟩
end Go.Proofs.YtcdoicgbjoikkaaGreatDoor.tre
namespace Go.Proofs.YtcdoicgbjoikkaaGreatDoor
end Go.Proofs.YtcdoicgbjoikkaaGreatDoor
