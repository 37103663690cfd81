/-
  Contracts and plain facts of the layers below; conditions as each theorem states them.
-/
import Derived.Test.YtgmidodmmlmmeaaGreatDoorMtb
import Derived.Test.YtgmidodmmlmmeaaGreatDoorChecked
import Derived.Test.YtgmidodmmlmmeaaGreatDoorMxa
import Derived.Shelf.SlicesE.Clone
import Derived.Shelf.SlicesQ.Equal
import Derived.Shelf.SlicesQ.IndexFunc
set_option maxHeartbeats 8000000
set_option maxRecDepth 100000
namespace Go.Proofs.YtgmidodmmlmmeaaGreatDoor.tre
open Go.RowKit lex _root_.Go.Proofs.Tryz
theorem ydZ (s:St)(A:Addr)(R:Bool)(w:World)(h:Hid (yhM w s A))(hR:Hid (decide (ydL s=0)=R)) :
    Calls Tryz.prog 138 #[.pointer (some A)] w fun e w'=>e=.returned (.bool R)/\w=w':=by
 obtain⟨c0,c1,_,⟨rv,c2,hrv⟩,⟨av,c3,hav⟩,bv,c4,hbv⟩:=(yap _ _ _).1 h.out;obtain⟨k,n,r,a,b⟩:=s;clear h;simp only[St.kind,St.name,St.refs,St.attrs,St.body] at c0 c1 hrv hav hbv;obtain⟨E,hE⟩:∃ E,ydL (.mk k n r a b)=E:=⟨_,rfl⟩
 have hRE:Hid (decide (E=0)=R):=Lh (by rw[<- hE];exact hR.out);have hR2:(if k<1\/5<k then (1:Int) else if (k=2/\n≠[])\/(k≠2/\0<r.length)\/(k=5/\0<a.length)\/(k≠5/\0<b.length) then 1 else if (k=3/\n≠yc0/\n≠ybR)\/(k=2/\r.length<2) then 1 else if k=4/\(a.length≠1\/(a.head?.map (·.1))≠some []) then 1 else 0)=E:=hE;clear hR hE;obtain⟨ro,rc,rfl,_,_,_⟩:=hrv;obtain⟨bo,bc,rfl,_,_,_⟩:=hbv;obtain⟨so,sc,rfl,_,_,hcell⟩:=hav;have HC:=Lh hcell;clear hcell;obtain⟨rn,hrn⟩:∃ q,r.length=q:=⟨_,rfl⟩
 obtain⟨bn,hbn⟩:∃ q,b.length=q:=⟨_,rfl⟩
 rw[hrn] at c2 hR2;rw[hbn] at c4 hR2;clear hrn hbn;obtain⟨X,hX⟩:∃ X,bb n=X:=⟨_,rfl⟩
 have hXn:X.toList=n:=by rw[<- hX,ByteArray.toList_eq]
 have e0:X.toList.isEmpty=decide (n=[]):=by rw[hXn];cases n <;> rfl
 have e0':(X.toList==[])=decide (n=[]):=by rw[hXn];cases n <;> rfl
 have e1:(X.toList==[110,111,100,101])=decide (n=yc0):=by rw[hXn,Bool.eq_iff_iff,beq_iff_eq,decide_eq_true_eq];rfl
 have e2:(X.toList==[101,100,103,101])=decide (n=ybR):=by rw[hXn,Bool.eq_iff_iff,beq_iff_eq,decide_eq_true_eq];rfl
 rw[hX] at c1;clear hX hXn;have q1:decide ((2:Int)<=(rn:Int))=decide (2<=rn):=by rw[Bool.eq_iff_iff,decide_eq_true_eq,decide_eq_true_eq];omega
 have HR:=Lh hR2;clear hR2
 by_cases hk:k=1\/k=2\/k=3\/k=4\/k=5
 ·rcases hk with rfl | rfl | rfl | rfl | rfl
  ·
   by_cases t_rn:rn=0
   ·subst t_rn
    by_cases t_bn:bn=0
    ·subst t_bn
     obtain rfl:true=R:=by rw[<- hRE.out,<- HR.out];simp[]
     clear HR HC hRE;go_enter func138,ntmps138;go_wp2;go_ret;exact⟨rfl,rfl⟩
    ·have v_bn:((bn:Int)==0)=false:=by simp[t_bn]
     have u_bn:(bn==0)=false:=by simp[t_bn]
     have p_bn:0<bn:=by omega
     obtain rfl:false=R:=by rw[<- hRE.out,<- HR.out];simp[p_bn]
     clear HR HC hRE;go_enter func138,ntmps138;go_wp2;go_ret;exact⟨rfl,rfl⟩
   ·have v_rn:((rn:Int)==0)=false:=by simp[t_rn]
    have u_rn:(rn==0)=false:=by simp[t_rn]
    have p_rn:0<rn:=by omega
    obtain rfl:false=R:=by rw[<- hRE.out,<- HR.out];simp[p_rn]
    clear HR HC hRE;go_enter func138,ntmps138;go_wp2;go_ret;exact⟨rfl,rfl⟩
  ·
   by_cases t_e:n=[]
   ·rw[decide_eq_true t_e] at e0 e0'
    by_cases t_g:2<=rn
    ·rw[decide_eq_true t_g] at q1
     have n_g:¬ rn<2:=by omega
     have i_g:(2:Int)<=(rn:Int):=by omega
     by_cases t_bn:bn=0
     ·subst t_bn
      obtain rfl:true=R:=by rw[<- hRE.out,<- HR.out];simp[t_e,n_g]
      clear HR HC hRE;go_enter func138,ntmps138;go_wp2;go_ret;exact⟨rfl,rfl⟩
     ·have v_bn:((bn:Int)==0)=false:=by simp[t_bn]
      have u_bn:(bn==0)=false:=by simp[t_bn]
      have p_bn:0<bn:=by omega
      obtain rfl:false=R:=by rw[<- hRE.out,<- HR.out];simp[t_e,p_bn]
      clear HR HC hRE;go_enter func138,ntmps138;go_wp2;go_ret;exact⟨rfl,rfl⟩
    ·rw[decide_eq_false t_g] at q1
     have n_g:rn<2:=by omega
     obtain rfl:false=R:=by rw[<- hRE.out,<- HR.out];simp[t_e,n_g]
     clear HR HC hRE;go_enter func138,ntmps138;go_wp2;go_ret;exact⟨rfl,rfl⟩
   ·rw[decide_eq_false t_e] at e0 e0'
    obtain rfl:false=R:=by rw[<- hRE.out,<- HR.out];simp[t_e]
    clear HR HC hRE;go_enter func138,ntmps138;go_wp2;go_ret;exact⟨rfl,rfl⟩
  ·
   by_cases t_n:n=yc0
   ·rw[decide_eq_true t_n] at e1
    by_cases t_rn:rn=0
    ·subst t_rn
     by_cases t_bn:bn=0
     ·subst t_bn
      obtain rfl:true=R:=by rw[<- hRE.out,<- HR.out];simp[t_n]
      clear HR HC hRE;go_enter func138,ntmps138;go_wp2;go_ret;exact⟨rfl,rfl⟩
     ·have v_bn:((bn:Int)==0)=false:=by simp[t_bn]
      have u_bn:(bn==0)=false:=by simp[t_bn]
      have p_bn:0<bn:=by omega
      obtain rfl:false=R:=by rw[<- hRE.out,<- HR.out];simp[t_n,p_bn]
      clear HR HC hRE;go_enter func138,ntmps138;go_wp2;go_ret;exact⟨rfl,rfl⟩
    ·have v_rn:((rn:Int)==0)=false:=by simp[t_rn]
     have u_rn:(rn==0)=false:=by simp[t_rn]
     have p_rn:0<rn:=by omega
     obtain rfl:false=R:=by rw[<- hRE.out,<- HR.out];simp[t_n,p_rn]
     clear HR HC hRE;go_enter func138,ntmps138;go_wp2;go_ret;exact⟨rfl,rfl⟩
   ·rw[decide_eq_false t_n] at e1
    by_cases t_d:n=ybR
    ·rw[decide_eq_true t_d] at e2
     by_cases t_rn:rn=0
     ·subst t_rn
      by_cases t_bn:bn=0
      ·subst t_bn
       obtain rfl:true=R:=by rw[<- hRE.out,<- HR.out];simp[t_d,yc0,ybR]
       clear HR HC hRE;go_enter func138,ntmps138;go_wp2;go_ret;exact⟨rfl,rfl⟩
      ·have v_bn:((bn:Int)==0)=false:=by simp[t_bn]
       have u_bn:(bn==0)=false:=by simp[t_bn]
       have p_bn:0<bn:=by omega
       obtain rfl:false=R:=by rw[<- hRE.out,<- HR.out];simp[t_d,ybR,p_bn]
       clear HR HC hRE;go_enter func138,ntmps138;go_wp2;go_ret;exact⟨rfl,rfl⟩
     ·have v_rn:((rn:Int)==0)=false:=by simp[t_rn]
      have u_rn:(rn==0)=false:=by simp[t_rn]
      have p_rn:0<rn:=by omega
      obtain rfl:false=R:=by rw[<- hRE.out,<- HR.out];simp[t_d,ybR,p_rn]
      clear HR HC hRE;go_enter func138,ntmps138;go_wp2;go_ret;exact⟨rfl,rfl⟩
    ·rw[decide_eq_false t_d] at e2
     obtain rfl:false=R:=by rw[<- hRE.out,<- HR.out];simp[t_n,t_d]
     clear HR HC hRE;go_enter func138,ntmps138;go_wp2;go_ret;exact⟨rfl,rfl⟩
  ·
   by_cases t_rn:rn=0
   ·subst t_rn
    rcases a with _ | ⟨x,_ | ⟨y,t⟩⟩
    ·
     obtain rfl:false=R:=by rw[<- hRE.out,<- HR.out];simp[]
     clear HR HC hRE;go_enter func138,ntmps138;go_wp2;go_ret;exact⟨rfl,rfl⟩
    ·
     obtain⟨B,rfl,hB⟩:=HC.out (by simp);obtain⟨p0,_⟩:=hB 0 (by simp);rw[show B.add (0*2)=B by rw[Nat.zero_mul];unfold Addr.add;rw[if_pos rfl]] at p0;simp only[List.getElem_cons_zero] at p0;obtain⟨Y,hY⟩:∃ Y,bb x.1=Y:=⟨_,rfl⟩
     have hYn:Y.toList=x.1:=by rw[<- hY,ByteArray.toList_eq]
     have y0:Y.toList.isEmpty=decide (x.1=[]):=by rw[hYn];cases x.1 <;> rfl
     have y1:(Y.toList==[])=decide (x.1=[]):=by rw[hYn];cases x.1 <;> rfl
     rw[hY] at p0;clear hY hYn hB
     by_cases t_k:x.1=[]
     ·rw[decide_eq_true t_k] at y0 y1
      by_cases t_bn:bn=0
      ·subst t_bn
       obtain rfl:true=R:=by rw[<- hRE.out,<- HR.out];simp[t_k]
       clear HR HC hRE;go_enter func138,ntmps138;go_wp2;go_ret;exact⟨rfl,rfl⟩
      ·have v_bn:((bn:Int)==0)=false:=by simp[t_bn]
       have u_bn:(bn==0)=false:=by simp[t_bn]
       have p_bn:0<bn:=by omega
       obtain rfl:false=R:=by rw[<- hRE.out,<- HR.out];simp[p_bn]
       clear HR HC hRE;go_enter func138,ntmps138;go_wp2;go_ret;exact⟨rfl,rfl⟩
     ·rw[decide_eq_false t_k] at y0 y1
      obtain rfl:false=R:=by rw[<- hRE.out,<- HR.out];simp[t_k]
      clear HR HC hRE;go_enter func138,ntmps138;go_wp2;go_ret;exact⟨rfl,rfl⟩
    ·
     have v_a:(((x::y::t).length:Int)==1)=false:=by rw[beq_eq_false_iff_ne,List.length_cons,List.length_cons];omega
     obtain⟨an,han⟩:∃ q,(x::y::t).length=q:=⟨_,rfl⟩
     have w_a:an≠1:=by rw[<- han,List.length_cons,List.length_cons];omega
     have HR2:=HR.out;clear HR;rw[han] at c3 v_a HR2;have HR:=Lh HR2;clear HR2 han;have u_a:(an==1)=false:=by simp[w_a]
     obtain rfl:false=R:=by rw[<- hRE.out,<- HR.out];simp[w_a]
     clear HR HC hRE;go_enter func138,ntmps138;go_wp2;go_ret;exact⟨rfl,rfl⟩
   ·have v_rn:((rn:Int)==0)=false:=by simp[t_rn]
    have u_rn:(rn==0)=false:=by simp[t_rn]
    have p_rn:0<rn:=by omega
    obtain rfl:false=R:=by rw[<- hRE.out,<- HR.out];simp[p_rn]
    clear HR HC hRE;go_enter func138,ntmps138;go_wp2;go_ret;exact⟨rfl,rfl⟩
  ·
   by_cases t_rn:rn=0
   ·subst t_rn
    rcases a with _ | ⟨x,t⟩
    ·
     obtain rfl:true=R:=by rw[<- hRE.out,<- HR.out];simp[]
     clear HR HC hRE;go_enter func138,ntmps138;go_wp2;go_ret;exact⟨rfl,rfl⟩
    ·
     obtain⟨an,han⟩:∃ q,(x::t).length=q:=⟨_,rfl⟩
     have w_a:an≠0:=by rw[<- han,List.length_cons];omega
     have p_a:0<an:=by omega
     have HR2:=HR.out;clear HR;rw[han] at c3 HR2;have HR:=Lh HR2;clear HR2 han;have v_a:((an:Int)==0)=false:=by simp[w_a]
     have u_a:(an==0)=false:=by simp[w_a]
     obtain rfl:false=R:=by rw[<- hRE.out,<- HR.out];simp[p_a]
     clear HR HC hRE;go_enter func138,ntmps138;go_wp2;go_ret;exact⟨rfl,rfl⟩
   ·have v_rn:((rn:Int)==0)=false:=by simp[t_rn]
    have u_rn:(rn==0)=false:=by simp[t_rn]
    have p_rn:0<rn:=by omega
    obtain rfl:false=R:=by rw[<- hRE.out,<- HR.out];simp[p_rn]
    clear HR HC hRE;go_enter func138,ntmps138;go_wp2;go_ret;exact⟨rfl,rfl⟩
 ·have k1:(k==1)=false:=by rw[beq_eq_false_iff_ne];omega
  have k2:(k==2)=false:=by rw[beq_eq_false_iff_ne];omega
  have k3:(k==3)=false:=by rw[beq_eq_false_iff_ne];omega
  have k4:(k==4)=false:=by rw[beq_eq_false_iff_ne];omega
  have k5:(k==5)=false:=by rw[beq_eq_false_iff_ne];omega
  obtain rfl:false=R:=by rw[<- hRE.out,<- HR.out,eq_comm,decide_eq_false_iff_not,if_pos (by omega)];decide
  clear HR HC hk hRE;go_enter func138,ntmps138;go_wp2;go_ret;exact⟨rfl,rfl⟩
end Go.Proofs.YtgmidodmmlmmeaaGreatDoor.tre
namespace Go.Proofs.YtgmidodmmlmmeaaGreatDoor.tre
open Go.RowKit lex
end Go.Proofs.YtgmidodmmlmmeaaGreatDoor.tre
namespace Go.Proofs.YtgmidodmmlmmeaaGreatDoor
end Go.Proofs.YtgmidodmmlmmeaaGreatDoor
namespace Go.Proofs.YtgmidodmmlmmeaaGreatDoor.tre
open Go.RowKit Go.Shelf lex _root_.Go.Proofs.Tryz
theorem ymV {w:World}{A:Addr}{v:Value}(h:w.cell? A=some v):A=⟨A.block,A.off,none⟩:=by
 obtain⟨b,o,s⟩:=A
 cases s with
 | none=>rfl
 | some x=>unfold World.cell? at h;simp only at h;split at h <;> simp at h
abbrev prC (r:Pr):List Value:=[.string (bb r.1),.string (bb r.2)]
theorem add_at (b o j:Nat):(⟨b,o,none⟩:Addr).add j=⟨b,o+j,none⟩:=by
 unfold Addr.add;split
 ·subst_vars;rfl
 ·rfl
theorem Prs.at {w:World}{ao:Option Addr}{n cap:Nat}{l:List Pr}(h:Prs w (.slice ao n cap) l)(hl:0<l.length) :
    n=l.length/\∃ b o,ao=some ⟨b,o,none⟩/\b<w.heap.size/\∀ j,j<l.length->∀ i v,(prC l[j]!)[i]?=some v->w.cell? ⟨b,o+j*2+i,none⟩=some v:=by
 obtain⟨ao',cap',e,_,_,hA⟩:=h;cases e
 obtain⟨A,rfl,h2⟩:=hA hl;have h0:=(h2 0 hl).1;rw[Nat.zero_mul,show A.add 0=A by unfold Addr.add;rw[if_pos rfl]] at h0;have hs:=ymV h0;obtain⟨b,o,q⟩:=A;simp only[Addr.mk.injEq,true_and] at hs;subst hs;refine⟨rfl,b,o,rfl,World.block_lt_of_cell? w _ h0,fun j hj i v hv=>?_⟩;obtain⟨p0,p1,_⟩:=h2 j hj;rw[add_at] at p0 p1;rw[getElem!_pos l j hj] at hv
 match i,hv with
 | 0,hv=>obtain rfl:=Option.some.inj hv;exact p0
 | 1,hv=>obtain rfl:=Option.some.inj hv;exact p1
 | (i+2),hv=>simp at hv
def yi4:Go.Shelf.Ren:=⟨fun | 6=>248 | 8=>195 | n=>n,fun | 0=>0 | 3=>3 | 4=>4 | 22=>65 | 25=>260 | 23=>69 | n=>n,fun | n=>n⟩
theorem yr9:Go.Proofs.SlLaysH0.n8 Tryz.prog yi4:={
 mixed:=by kernel_rfl
 f6:=⟨Tryz.f248.name,by decide,func248.trans (congrArg some (by kernel_rfl))⟩
 f8:=⟨Tryz.f195.name,by decide,func195.trans (congrArg some (by kernel_rfl))⟩
 t0:=underlying0
 a0:=Tryz.isAgg0
 z0:=Tryz.sizeOf0
 v0:=Tryz.zeroValue0
 t3:=underlying3
 a3:=Tryz.isAgg3
 z3:=Tryz.sizeOf3
 v3:=Tryz.zeroValue3
 t4:=underlying4
 a4:=Tryz.isAgg4
 z4:=Tryz.sizeOf4
 v4:=Tryz.zeroValue4
 t22:=underlying65
 a22:=Tryz.isAgg65
 z22:=Tryz.sizeOf65
 v22:=Tryz.zeroValue65
 t25:=underlying260
 a25:=Tryz.isAgg260
 z25:=Tryz.sizeOf260
 v25:=Tryz.zeroValue260 }
theorem ytq (p:Pr->Bool)(g:Nat)(lb:Array Value)(eg:∀ args w,(callFunc g args).run Tryz.prog w=.ok (.enter g args) w)(ao:Option Addr)(n0 k cap cap0:Nat)(l:List Pr)(R:Bool)(w:World)
    (hp:Hid (PredBelow Tryz.prog g lb (fun x=>.agg (prC x).toArray) p w)) (h:Hid (Prs w (.slice ao n0 cap0) l)) (hk:k<=l.length) (h0:0<l.length) (hR:Hid ((l.take k).any p=R)) :
    Calls Tryz.prog 195 #[.slice ao k cap,.func (.func g) #[] lb] w fun e w'=>e=.returned (.bool R)/\Below w.heap.size w w':=by
 obtain⟨_,cap',e,hc,hm,_⟩:=id h.out;cases e
 unfold maxLen at hm;obtain⟨_,b,o,rfl,hb,hcl⟩:=h.out.at h0;have:=AnyQ.slices_ContainsFunc yr9 2 Tryz.isAgg69 Tryz.sizeOf69 prC (fun _=>rfl) p g lb eg b o k cap l w hp.out hk (by omega) hb hcl;rw[hR.out] at this;exact this
def npN (x:Nat):Bool:=!plN x
theorem pl_by:ByBytes plN yar:=⟨fun b _=>rfl,false,fun r h=>by simp[plN];omega,fun b h=>by simp[yar];omega⟩
theorem ysa (s:ByteArray):∀ (f pos:Nat),Lib.idxFuncFrom npN true s f pos=Lib.idxFuncFrom plN false s f pos:=by
 intro f
 induction f with
 | zero=>intro pos;rfl
 | succ f ih =>
  intro pos;unfold Lib.idxFuncFrom;rw[ih];cases h:plN (Utf8.decode s pos).1 <;> simp[npN,h]
theorem ytr (q:UInt8->Bool)(l:List UInt8):(l.takeWhile q).length=l.length↔l.all q=true:=by
 induction l with
 | nil=>simp
 | cons a t ih =>
  rw[List.takeWhile_cons,List.all_cons];cases h:q a
  ·simp
  ·simp only[if_true,List.length_cons,Bool.true_and]
   exact⟨fun e=>ih.1 (by omega),fun e=>by have:=ih.2 e;omega⟩
theorem yts (s:ByteArray):decide (0<=Lib.idxFunc npN true s)=!(s.data.toList.all yar):=by
 have h:=yjV pl_by s s.size 0 (by omega) (Nat.zero_le _);unfold Lib.idxFunc;rw[ysa,h,List.drop_zero];have hw:=ytr yar s.data.toList;rw[yz] at hw
 by_cases ha:s.data.toList.all yar=true
 ·rw[if_pos (by have:=hw.2 ha;omega),ha];rfl
 ·rw[if_neg (by intro e;exact ha (hw.1 (by omega)))]
  simp only[Bool.not_eq_true] at ha;rw[ha,decide_eq_true (by omega)];rfl
theorem ymW (x:Nat)(w:World):Calls Tryz.prog 197 #[.int .i32 (x:Int)] w fun e w'=>e=.returned (.bool (npN x))/\w=w':=by
 go_enter func197,ntmps197;go_wp2
 all_goals go_ret
 all_goals refine⟨yaf ?_,rfl⟩
 all_goals (unfold npN plN;rw[Bool.eq_iff_iff];simp;omega)
theorem ykm (s:ByteArray)(r:Bool)(w:World)(hr:Hid (s.data.toList.all yar=r)) :
    Calls Tryz.prog 196 #[.string s,.func (.func 197) #[] #[]] w fun e w'=>e=.returned (.bool (!r))/\Below w.heap.size w w':=by
 have:=Tryz.strings_ContainsFunc_runes 197 #[] (enters_of func197 (by kernel_rfl) rfl) npN s w (yjW ymW w);rw[yts,hr.out] at this;exact this
def yip (s:St):Bool:=(if s.kind=1\/s.kind=4\/s.kind=5 then yK s.name else true)&&s.refs.all ydj
theorem ytt (w:World)(X Y:ByteArray):Below w.heap.size w (w.alloc (.cells #[.string X,.string Y] 121)):=al1 _ _
theorem ykn (s:St)(A:Addr)(R:Bool)(w:World)(h:Hid (yhM w s A))(hR:Hid (yip s=R)) :
    Calls Tryz.prog 139 #[.pointer (some A)] w fun e w'=>e=.returned (.bool R)/\Below w.heap.size w w':=by
 obtain⟨c0,c1,hnm,⟨rv,c2,hrv⟩,_⟩:=(yap _ _ _).1 h.out;obtain⟨k,hk⟩:∃ k,s.kind=k:=⟨_,rfl⟩
 obtain⟨r,hr⟩:∃ r,s.refs=r:=⟨_,rfl⟩
 obtain⟨X,hX⟩:∃ X,bb s.name=X:=⟨_,rfl⟩
 have hXd:X.data.toList=s.name:=by rw[<- hX]
 have HZ:Hid (X.size<=maxLen):=Lh (by rw[<- yz,hXd];exact hnm);obtain⟨nm,hnv⟩:∃ q,yK s.name=q:=⟨_,rfl⟩
 have HNM:Hid (yK X.data.toList=nm):=Lh (by rw[hXd];exact hnv);have hR2:=hR.out;unfold yip at hR2;rw[hk,hr,hnv] at hR2;rw[hk] at c0;rw[hX] at c1;rw[hr] at hrv;obtain⟨ro,rc,rfl,_,hrl,_⟩:=id hrv;unfold maxLen at hrl;have hrl:r.length<=9223372036854775807:=by omega
 have HRV:=Lh hrv;clear h hR hk hr hX hXd hnm hnv hrv
 have hw:((k==1)=true\/((k==1)=false/\(k==4)=true)\/((k==1)=false/\(k==4)=false/\(k==5)=true))/\(nm&&r.all ydj)=R\/((k==1)=false/\(k==4)=false/\(k==5)=false)/\r.all ydj=R:=by
  by_cases h1:k=1
  ·exact Or.inl ⟨Or.inl (by simp[h1]),by rw[if_pos (Or.inl h1)] at hR2;exact hR2⟩
  by_cases h4:k=4
  ·exact Or.inl ⟨Or.inr (Or.inl ⟨by simp[h1],by simp[h4]⟩),by rw[if_pos (Or.inr (Or.inl h4))] at hR2;exact hR2⟩
  by_cases h5:k=5
  ·exact Or.inl ⟨Or.inr (Or.inr ⟨by simp[h1],by simp[h4],by simp[h5]⟩),by rw[if_pos (Or.inr (Or.inr h5))] at hR2;exact hR2⟩
  ·exact Or.inr ⟨⟨by simp[h1],by simp[h4],by simp[h5]⟩,by rw[if_neg (by omega)] at hR2;simpa using hR2⟩
 clear hR2
 have hw2:(∃ kk:Unit,(k==1)=true/\nm=true/\r.all ydj=R)\/(∃ kk:Unit,((k==1)=false/\(k==4)=true)/\nm=true/\r.all ydj=R)\/(∃ kk:Unit,((k==1)=false/\(k==4)=false/\(k==5)=true)/\nm=true/\r.all ydj=R)\/(((k==1)=true\/((k==1)=false/\(k==4)=true)\/((k==1)=false/\(k==4)=false/\(k==5)=true))/\nm=false/\R=false)\/(((k==1)=false/\(k==4)=false/\(k==5)=false)/\r.all ydj=R):=by
  rcases hw with ⟨a,b⟩ | b
  ·cases nm
   ·exact Or.inr (Or.inr (Or.inr (Or.inl ⟨a,rfl,b.symm⟩)))
   ·rcases a with a | a | a
    ·exact Or.inl ⟨(),a,rfl,b⟩
    ·exact Or.inr (Or.inl ⟨(),a,rfl,b⟩)
    ·exact Or.inr (Or.inr (Or.inl ⟨(),a,rfl,b⟩))
  ·exact Or.inr (Or.inr (Or.inr (Or.inr b)))
 clear hw
 rcases hw2 with ⟨_,k1,rfl,hall⟩ | ⟨_,⟨k1,k4⟩,rfl,hall⟩ | ⟨_,⟨k1,k4,k5⟩,rfl,hall⟩ | ⟨hka,rfl,rfl⟩ | ⟨⟨k1,k4,k5⟩,hall⟩
 case inr.inr.inr.inl =>
  rcases hka with k1 | ⟨k1,k4⟩ | ⟨k1,k4,k5⟩
  all_goals
   go_enter func139,ntmps139;go_wp2_with fail
   refine(yS _ _ _ HZ.out HNM).mono ?_;rintro e w2 ⟨rfl,hb2⟩;go_wp2;go_ret;exact⟨rfl,hb2⟩
 case' inr.inr.inr.inr =>
  have hB2:Below w.heap.size w w:=Below.refl _ _;have HALL:=Lh hall;clear hall;go_enter func139,ntmps139;go_wp2_with fail
 case' inl =>
  have HALL:=Lh hall;clear hall;go_enter func139,ntmps139;go_wp2_with fail
  refine(yS _ _ _ HZ.out HNM).mono ?_;rintro e w2 ⟨rfl,hB2⟩;have c2:=yb hB2 c2;go_wp2_with fail
 case' inr.inl =>
  have HALL:=Lh hall;clear hall;go_enter func139,ntmps139;go_wp2_with fail
  refine(yS _ _ _ HZ.out HNM).mono ?_;rintro e w2 ⟨rfl,hB2⟩;have c2:=yb hB2 c2;go_wp2_with fail
 case' inr.inr.inl =>
  have HALL:=Lh hall;clear hall;go_enter func139,ntmps139;go_wp2_with fail
  refine(yS _ _ _ HZ.out HNM).mono ?_;rintro e w2 ⟨rfl,hB2⟩;have c2:=yb hB2 c2;go_wp2_with fail
 all_goals
  clear c0 c1 c2 HNM HZ
  go_loopw [24] (fun iv wr=>∃ k:Nat,k<=r.length/\iv=.int .i64 k/\(r.take k).all ydj=true/\Below w.heap.size w wr) (fun iv _=>r.length-(intOf iv).toNat)
  case atStart=>exact⟨0,Nat.zero_le _,rfl,rfl,hB2⟩
  case round =>
   obtain⟨k,hk,rfl,hall,hBr⟩:=hrel
   rename World=>wr
   have HA:=Lh hall;clear hall hB2
   by_cases hlt:k<r.length
   ·obtain⟨B,rfl,p0,p1,z2,z3⟩:=(HRV.out.keep hBr).get hlt
    obtain⟨x,hxe⟩:∃ x,r[k]=x:=⟨_,rfl⟩
    rw[hxe] at p0 p1 z2 z3;obtain⟨X1,hX1⟩:∃ Y,bb x.1=Y:=⟨_,rfl⟩
    obtain⟨X2,hX2⟩:∃ Y,bb x.2=Y:=⟨_,rfl⟩
    have d1:X1.data.toList=x.1:=by rw[<- hX1]
    have d2:X2.data.toList=x.2:=by rw[<- hX2]
    have HS1:=Lh (show X1.size<=maxLen by rw[<- yz,d1];exact z2);have HS2:=Lh (show X2.size<=maxLen by rw[<- yz,d2];exact z3);rw[hX1] at p0;rw[hX2] at p1;have hBq:=ya (ytt wr X1 X2) hBr;obtain⟨v0,v1⟩:=ydg wr X1 X2 121;obtain⟨n1,hn1⟩:∃ b,yK x.1=b:=⟨_,rfl⟩
    obtain⟨n2,hn2⟩:∃ b,yK x.2=b:=⟨_,rfl⟩
    obtain⟨m2,hm2⟩:∃ b,x.2.isEmpty=b:=⟨_,rfl⟩
    have HN1:Hid (yK X1.data.toList=n1):=Lh (by rw[d1];exact hn1);have HN2:Hid (yK X2.data.toList=n2):=Lh (by rw[d2];exact hn2);have he2:X2.toList.isEmpty=m2:=by rw[ByteArray.toList_eq,d2];exact hm2
    have HRB:Hid (ydj r[k]=(n1&&(m2||n2))):=Lh (by rw[hxe];unfold ydj;rw[hn1,hn2,hm2]);have i0:(0:Int)<=(k:Int):=by omega
    have i1:(k:Int)<(r.length:Int):=by omega
    clear hX1 hX2 hn1 hn2 hm2 d1 d2 z2 z3 hxe;go_wp2_with fail
    refine(yS _ _ _ HS1.out HN1).mono ?_;rintro e w3 ⟨rfl,hb3⟩;have v1:=ye hb3 v1;have hB3:=ya hb3 hBq;have hw:n1=false\/(n1=true/\m2=true)\/(n1=true/\m2=false/\n2=true)\/(n1=true/\m2=false/\n2=false):=by cases n1 <;> cases m2 <;> cases n2 <;> simp
    rcases hw with rfl | ⟨rfl,rfl⟩ | ⟨rfl,rfl,rfl⟩ | ⟨rfl,rfl,rfl⟩
    ·have HN:Hid (false=R):=Lh (by rw[<- HALL.out,yg9 hlt HRB.out])
     obtain rfl:=HN.out;go_wp2;go_ret;exact⟨rfl,hB3⟩
    ·have HN:=Lh (yes hlt HA.out HRB.out)
     go_wp2
     go_roundw
     case rel=>exact⟨k+1,by omega,by go_num,HN.out,hB3⟩
     case measure=>simp[intOf];omega
    ·have HN:=Lh (yes hlt HA.out HRB.out)
     go_wp2_with fail
     refine(yS _ _ _ HS2.out HN2).mono ?_;rintro e w4 ⟨rfl,hb4⟩;go_wp2
     go_roundw
     case rel=>exact⟨k+1,by omega,by go_num,HN.out,ya hb4 hB3⟩
     case measure=>simp[intOf];omega
    ·have HN:Hid (false=R):=Lh (by rw[<- HALL.out,yg9 hlt HRB.out])
     obtain rfl:=HN.out;go_wp2_with fail
     refine(yS _ _ _ HS2.out HN2).mono ?_;rintro e w4 ⟨rfl,hb4⟩;go_wp2;go_ret;exact⟨rfl,ya hb4 hB3⟩
   ·obtain rfl:k=r.length:=by omega
    have HN:Hid (true=R):=Lh (by have:=HA.out;rw[List.take_length] at this;rw[<- HALL.out,this]);obtain rfl:=HN.out;go_wp2;go_ret;exact⟨rfl,hBr⟩
theorem yk1 (b:Nat)(x:Pr)(w:World)(hc:w.cell? ⟨b,0,none⟩=some (.string (bb x.1))) :
    PredBelow Tryz.prog 194 #[.pointer (some ⟨b,0,none⟩)] (fun y:Pr=>.agg (prC y).toArray) (fun y=>decide (y.1=x.1)) w:=by
 intro W y hb;have hc2:=ye hb hc
 show Calls Tryz.prog 194 #[.agg #[.string (bb y.1),.string (bb y.2)],.pointer (some ⟨b,0,none⟩)] W fun e w'=>e=.returned (.bool (decide (y.1=x.1)))/\Below w.heap.size w w'
 obtain⟨q,hq⟩:∃ q,decide (y.1=x.1)=q:=⟨_,rfl⟩
 obtain⟨X,hX⟩:∃ X,bb x.1=X:=⟨_,rfl⟩
 obtain⟨Y,hY⟩:∃ Y,bb y.1=Y:=⟨_,rfl⟩
 obtain⟨Z,hZ⟩:∃ Z,bb y.2=Z:=⟨_,rfl⟩
 have he:(X.toList==Y.toList)=q:=by
  rw[<- hX,<- hY,ByteArray.toList_eq,ByteArray.toList_eq,<- hq,Bool.eq_iff_iff,beq_iff_eq,decide_eq_true_eq];exact eq_comm
 rw[hX] at hc2;rw[hq,hY,hZ];have hB:=ya (al1 W (.cells #[.string Y,.string Z] 69)) hb;have hbl:=World.block_lt_of_cell? W _ hc2
 change b<W.heap.size at hbl
 have hbn:b≠W.heap.size:=by omega
 have HBL:=Lh hbl;clear hX hY hZ hq hc hb;go_enter func194,ntmps194;go_wp2;go_ret;exact⟨rfl,hB⟩
theorem ytu (w:World)(X Y:ByteArray):Below w.heap.size w (w.alloc (.cells #[.string X,.string Y] 69)):=al1 _ _
theorem ytv (s:St)(A:Addr)(R:Int)(w:World)(h:Hid (yhM w s A))(hR:Hid (yjh s=R)) :
    Calls Tryz.prog 140 #[.pointer (some A)] w fun e w'=>e=.returned (.int .i64 R)/\Below w.heap.size w w':=by
 obtain⟨c0,_,_,_,⟨av,c3,hav⟩,_⟩:=(yap _ _ _).1 h.out;have hr:=hR.out;unfold yjh at hr;obtain⟨k0,hk0⟩:∃ q,s.kind=q:=⟨_,rfl⟩
 obtain⟨a,ha⟩:∃ q,s.attrs=q:=⟨_,rfl⟩
 rw[hk0,ha] at hr;rw[ha] at hav;rw[hk0] at c0;obtain⟨so,sc,rfl,hcap,_,_⟩:=id hav;have HAV:=Lh hav;clear h hR hk0 ha hav
 by_cases h16:16<a.length
 ·rw[if_pos h16] at hr
  subst hr;have l1:(16:Int)<(a.length:Int):=by omega
  clear h16 HAV c0;go_enter func140,ntmps140;go_wp2;go_ret;exact⟨rfl,Below.refl _ _⟩
 rw[if_neg h16] at hr;have HR:=Lh hr;have l1:¬ (16:Int)<(a.length:Int):=by omega
 have hal:a.length<=16:=by omega
 clear h16 hr;go_enter func140,ntmps140;go_wp2_with fail
 go_loopw [17] (fun iv wr=>∃ k:Nat,k<=a.length/\iv=.int .i64 k/\yc6 k0 (a.take k) (a.drop k)=R/\Below w.heap.size w wr) (fun iv _=>a.length-(intOf iv).toNat)
 case atStart=>exact⟨0,Nat.zero_le _,rfl,HR.out,Below.refl _ _⟩
 case round =>
  obtain⟨k,hk,rfl,hx,hBr⟩:=hrel
  rename World=>wr
  have HX:=Lh hx;have c0:=yb hBr c0;have c3:=yb hBr c3;clear hx HR
  by_cases hlt:k<a.length
  ·obtain⟨B,rfl,p0,p1,z2,z3⟩:=(HAV.out.keep hBr).get hlt
   have hcons:=HX.out;rw[yl7 hlt,yia] at hcons;obtain⟨x,hxe⟩:∃ x,a[k]=x:=⟨_,rfl⟩
   rw[hxe] at p0 p1 z2 z3 hcons;obtain⟨X1,hX1⟩:∃ Y,bb x.1=Y:=⟨_,rfl⟩
   obtain⟨X2,hX2⟩:∃ Y,bb x.2=Y:=⟨_,rfl⟩
   have d1:X1.data.toList=x.1:=by rw[<- hX1]
   have d2:X2.data.toList=x.2:=by rw[<- hX2]
   have s1:X1.size<=maxLen:=by rw[<- yz,d1];exact z2
   have s2:X2.size=x.2.length:=by rw[<- yz,d2]
   rw[hX1] at p0;rw[hX2] at p1;have hbq:=ytu wr X1 X2;have hBq:=ya hbq hBr;obtain⟨v0,v1⟩:=ydg wr X1 X2 69;obtain⟨nm,hnm⟩:∃ b,yK x.1=b:=⟨_,rfl⟩
   obtain⟨dp,hdp⟩:∃ b,(a.take k).any (fun y=>decide (y.1=x.1))=b:=⟨_,rfl⟩
   obtain⟨pl,hpl⟩:∃ b,x.2.all yar=b:=⟨_,rfl⟩
   have HNM:Hid (yK X1.data.toList=nm):=Lh (by rw[d1];exact hnm);have HDP:=Lh hdp;have HPL:Hid (X2.data.toList.all yar=pl):=Lh (by rw[d2];exact hpl);have HS1:=Lh s1;have HX1:=Lh hX1;rw[hnm,hdp,hpl,<- hxe,<- ydT hlt] at hcons;have hs2:(X2.size:Int)=(x.2.length:Int):=by omega
   have hcons2:(if k0≠4/\nm=false then (5:Int) else if dp=true then 6 else if (32:Int)<(X2.size:Int) then 2 else if pl=false then 7 else yc6 k0 (a.take (k+1)) (a.drop (k+1)))=R:=by
    rw[<- hcons]
    by_cases q:(32:Int)<(X2.size:Int)
    ·rw[if_pos q,if_pos (show 32<a[k].2.length by rw[hxe];omega)]
    ·rw[if_neg q,if_neg (show ¬ 32<a[k].2.length by rw[hxe];omega)]
   have HC:=Lh hcons2;have i0:(0:Int)<=(k:Int):=by omega
   have i1:(k:Int)<(a.length:Int):=by omega
   have i2:(k:Int)<=(a.length:Int):=by omega
   have i3:(k:Int)<=(sc:Int):=by omega
   have g0:=yb hbq c0;have g3:=yb hbq c3;clear HX hX1 hX2 hnm d1 d2 z2 z3 s1 hxe hdp hpl hcons hcons2 hs2 s2 c0 c3
   have HPS:Hid (∀ W,Below (wr.alloc (.cells #[.string X1,.string X2] 69)).heap.size (wr.alloc (.cells #[.string X1,.string X2] 69)) W->∀ cap,Calls Tryz.prog 195 #[.slice (some B) k cap,.func (.func 194) #[] #[.pointer (some ⟨wr.heap.size,0,none⟩)]] W fun e w'=>e=.returned (.bool dp)/\Below W.heap.size W w'):=Lh (fun W hW cap=>by
    refine ytq (fun y=>decide (y.1=x.1)) _ _ (enters_of func194 (by kernel_rfl) rfl) (some B) a.length k cap sc a dp W (Lh (yk1 _ x W ?_)) (Lh (HAV.out.keep (ya hW hBq))) (by omega) (by omega) HDP
    rw[HX1.out];exact ye hW v0)
   have hway:((k0 != 4)=false)\/((k0 != 4)=true/\nm=true)\/((k0 != 4)=true/\nm=false):=by
    cases (k0 != 4) <;> cases nm <;> simp
   have hr5:(k0 != 4)=true->nm=false->(5:Int)=R:=fun e f=>by
    have:=HC.out;rw[if_pos ⟨by simpa using e,f⟩] at this;exact this
   have hr6:¬ ((k0 != 4)=true/\nm=false)->(if dp=true then (6:Int) else if (32:Int)<(X2.size:Int) then 2 else if pl=false then 7 else yc6 k0 (a.take (k+1)) (a.drop (k+1)))=R:=fun e=>by
    have:=HC.out;rw[if_neg (fun f=>e ⟨by simpa using f.1,f.2⟩)] at this;exact this
   have HR5:=Lh hr5;have HR6:=Lh hr6;clear hr5 hr6 HC
   rcases hway with b4 | ⟨b4,rfl⟩ | ⟨b4,rfl⟩
   case inr.inr =>
    have HN:=Lh (HR5.out b4 rfl);obtain rfl:=HN.out;go_wp2_with fail
    refine(yS _ _ _ HS1.out HNM).mono ?_;rintro e w3 ⟨rfl,hb3⟩;go_wp2;go_ret;exact⟨rfl,ya hb3 hBq⟩
   case' inl =>
    have HQ:=Lh (HR6.out (by rw[b4];simp));go_wp2_with fail
    have hb3:=Below.refl (wr.alloc (.cells #[.string X1,.string X2] 69)).heap.size (wr.alloc (.cells #[.string X1,.string X2] 69));generalize hw3:wr.alloc (.cells #[.string X1,.string X2] 69)=wq at hb3 v0 v1 g0 g3 hBq HPS |-;have hzz:wr.heap.size<wq.heap.size:=World.block_lt_of_cell? wq _ v0;clear hw3;refine(HPS.out wq hb3 _).mono ?_
   case' inr.inl =>
    have HQ:=Lh (HR6.out (by simp));go_wp2_with fail
    refine(yS _ _ _ HS1.out HNM).mono ?_;rintro e w3 ⟨rfl,hb3⟩;have hBq:=ya hb3 hBq;have v0:=ye hb3 v0;have v1:=ye hb3 v1;have g0:=yb hb3 g0;have g3:=yb hb3 g3;go_wp2_with fail
    refine(HPS.out w3 hb3 _).mono ?_
   all_goals
    rintro e w4 ⟨rfl,hb4⟩;have hB4:=ya hb4 hBq;have v1:=ye hb4 v1;clear v0 g0 g3 HR5 HR6 HPS p0 p1;cases dp
    case true =>
     have HN:Hid ((6:Int)=R):=Lh (by have:=HQ.out;rw[if_pos rfl] at this;exact this);obtain rfl:=HN.out;go_wp2;go_ret;exact⟨rfl,hB4⟩
    have HQ2:=Lh (show (if (32:Int)<(X2.size:Int) then (2:Int) else if pl=false then 7 else yc6 k0 (a.take (k+1)) (a.drop (k+1)))=R by have:=HQ.out;rw[if_neg Bool.false_ne_true] at this;exact this)
    by_cases h32:(32:Int)<(X2.size:Int)
    ·have HN:Hid ((2:Int)=R):=Lh (by have:=HQ2.out;rw[if_pos h32] at this;exact this)
     obtain rfl:=HN.out;go_wp2;go_ret;exact⟨rfl,hB4⟩
    have HQ3:=Lh (show (if pl=false then (7:Int) else yc6 k0 (a.take (k+1)) (a.drop (k+1)))=R by have:=HQ2.out;rw[if_neg h32] at this;exact this);cases pl
    ·have HN:Hid ((7:Int)=R):=Lh (by have:=HQ3.out;rw[if_pos rfl] at this;exact this)
     obtain rfl:=HN.out;go_wp2_with fail
     refine(ykm _ _ _ HPL).mono ?_;rintro e w5 ⟨rfl,hb5⟩;go_wp2;go_ret;exact⟨rfl,ya hb5 hB4⟩
    ·have HN:Hid (yc6 k0 (a.take (k+1)) (a.drop (k+1))=R):=Lh (by have:=HQ3.out;rw[if_neg (by simp)] at this;exact this)
     go_wp2_with fail
     refine(ykm _ _ _ HPL).mono ?_;rintro e w5 ⟨rfl,hb5⟩;go_wp2
     go_roundw
     case rel=>exact⟨k+1,by omega,by go_num,HN.out,ya hb5 hB4⟩
     case measure=>simp[intOf];omega
  ·obtain rfl:k=a.length:=by omega
   have HN:Hid (R=0):=Lh (by have:=HX.out;rw[List.drop_length,yjO] at this;exact this.symm);obtain rfl:=HN.out;go_wp2;go_ret;exact⟨rfl,hBr⟩
end Go.Proofs.YtgmidodmmlmmeaaGreatDoor.tre
