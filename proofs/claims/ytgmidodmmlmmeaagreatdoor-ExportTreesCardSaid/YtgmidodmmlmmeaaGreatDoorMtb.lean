/-
  What fields of the reference of layer 7 returns. Condition: the lists lie in memory.
  What attributes of the reference of layer 7 returns. Condition: the lists lie in memory.
  What statement of the reference of layer 7 returns. Condition: the lists lie in memory.
-/
import Derived.Test.YtgmidodmmlmmeaaGreatDoorMta
namespace Go.Proofs.YtgmidodmmlmmeaaGreatDoor.tre
open Go.RowKit lex
abbrev stV (s:St)(rv av bv:Value):Value:=.agg #[.int .i64 s.kind,.string (bb s.name),rv,av,bv]
def at5 (w:World)(b:Nat)(k:Int)(x:ByteArray)(rv av bv:Value):Prop:=w.cell? ⟨b,0,none⟩=some (.int .i64 k)∧w.cell? ⟨b,1,none⟩=some (.string x)∧w.cell? ⟨b,2,none⟩=some rv∧w.cell? ⟨b,3,none⟩=some av∧w.cell? ⟨b,4,none⟩=some bv
theorem at5_new (w:World)(k:Int)(x:ByteArray)(rv av bv:Value)(t:TypeId):at5 (w.alloc (.cells #[.int .i64 k,.string x,rv,av,bv] t)) w.heap.size k x rv av bv:=by
 refine ⟨?_,?_,?_,?_,?_⟩ <;> go_simp
theorem at5_keep {w1 w2:World}{b:Nat}{k:Int}{x:ByteArray}{rv av bv:Value}(h:at5 w1 b k x rv av bv)(h2:Below w1.heap.size w1 w2):at5 w2 b k x rv av bv :=
 ⟨cell_keep h2 h.1,cell_keep h2 h.2.1,cell_keep h2 h.2.2.1,cell_keep h2 h.2.2.2.1,cell_keep h2 h.2.2.2.2⟩
set_option maxRecDepth 100000 in
set_option maxHeartbeats 8000000 in
theorem rfld_of (s:St)(rv av bv:Value)(R:Int)(w:World)(h:Hid (fvOk w ⟨s,0,rv,av,bv⟩))(hR:Hid (fldE s=R)) :
    Calls Tryz.prog 118 #[stV s rv av bv] w fun e w'=>e=.returned (.int .i64 R)∧Below w.heap.size w w':=by
 obtain ⟨k,n,r,a,b⟩:=s
 obtain ⟨hnl,hrv,hav,hbv⟩:=h.out
 simp only [St.refs,St.body,St.attrs,St.name] at hrv hav hbv hnl
 have hR2:=hR.out
 simp only [fldE,St.kind,St.name,St.refs,St.attrs,St.body] at hR2
 clear hR
 have hR:=Lh hR2
 clear hR2
 clear h
 have hav':=hav
 obtain ⟨ro,rc,rfl,_,_,_⟩:=hrv
 obtain ⟨so,sc,rfl,_,_,_⟩:=hav'
 obtain ⟨bo,bc,rfl,_,_,_⟩:=hbv
 show Calls Tryz.prog 118 #[.agg #[.int .i64 k,.string (bb n),.slice ro r.length rc,.slice so a.length sc,.slice bo b.length bc]] w _
 have hB:=al1 w (.cells #[.int .i64 k,.string (bb n),.slice ro r.length rc,.slice so a.length sc,.slice bo b.length bc] 67)
 have HAV:=Lh (hav.keep hB)
 obtain ⟨X,hX⟩:∃ X,bb n=X:=⟨_,rfl⟩
 have hXn:X.toList=n:=by rw [← hX,ByteArray.toList_eq]
 have e0:X.toList.isEmpty=decide (n=[]):=by rw [hXn];cases n <;> rfl
 have e1:(X.toList == [110,111,100,101])=decide (n=wNode):=by rw [hXn,Bool.eq_iff_iff,beq_iff_eq,decide_eq_true_eq];rfl
 have e2:(X.toList == [101,100,103,101])=decide (n=wEdge):=by rw [hXn,Bool.eq_iff_iff,beq_iff_eq,decide_eq_true_eq];rfl
 have e3:(X.toList != [110,111,100,101])=!decide (n=wNode):=by rw [bne,e1]
 have e4:(X.toList != [101,100,103,101])=!decide (n=wEdge):=by rw [bne,e2]
 rw [hX] at HAV hB ⊢
 clear hav hX hXn hnl
 have q1:decide ((0:Int) < (r.length:Int))=decide (0 < r.length):=by rw [Bool.eq_iff_iff];simp
 have q2:decide ((0:Int) < (a.length:Int))=decide (0 < a.length):=by rw [Bool.eq_iff_iff];simp
 have q3:decide ((0:Int) < (b.length:Int))=decide (0 < b.length):=by rw [Bool.eq_iff_iff];simp
 have q4:decide ((r.length:Int) < 2)=decide (r.length < 2):=by rw [Bool.eq_iff_iff,decide_eq_true_eq,decide_eq_true_eq];omega
 have q5:((a.length:Int) != 1)=!decide (a.length=1):=by rw [bne,Bool.eq_iff_iff];simp;omega
 -- ways (genfld.py)
 by_cases kl:k < 1
 ·obtain rfl:(1:Int)=R:=by rw [← hR.out];simp [kl]
  clear hR
  go_enter Tryz.func118,Tryz.ntmps118
  go_wp2
  go_ret
  exact ⟨rfl,hB⟩
 by_cases kh:5 < k
 ·obtain rfl:(1:Int)=R:=by rw [← hR.out];simp [kh]
  clear hR
  go_enter Tryz.func118,Tryz.ntmps118
  go_wp2
  go_ret
  exact ⟨rfl,hB⟩
 have hk:k=1∨k=2∨k=3∨k=4∨k=5:=by omega
 clear kl kh
 rcases hk with rfl | rfl | rfl | rfl | rfl
 ·by_cases t1:0 < r.length
  ·rw [decide_eq_true t1] at q1
   have pt1:decide (0 < r.length)=true:=decide_eq_true t1
   obtain rfl:(1:Int)=R:=by rw [← hR.out];simp [t1]
   clear hR t1
   go_enter Tryz.func118,Tryz.ntmps118
   go_wp2
   go_ret
   exact ⟨rfl,hB⟩
  ·rw [decide_eq_false t1] at q1
   have pt1:decide (0 < r.length)=false:=decide_eq_false t1
   by_cases t2:0 < b.length
   ·rw [decide_eq_true t2] at q3
    have pt2:decide (0 < b.length)=true:=decide_eq_true t2
    obtain rfl:(1:Int)=R:=by rw [← hR.out];simp [t1,t2]
    clear hR t1 t2
    go_enter Tryz.func118,Tryz.ntmps118
    go_wp2
    go_ret
    exact ⟨rfl,hB⟩
   ·rw [decide_eq_false t2] at q3
    have pt2:decide (0 < b.length)=false:=decide_eq_false t2
    obtain rfl:(0:Int)=R:=by rw [← hR.out];simp [t1,t2]
    clear hR t1 t2
    go_enter Tryz.func118,Tryz.ntmps118
    go_wp2
    go_ret
    exact ⟨rfl,hB⟩
 ·by_cases t1:n=[]
  ·rw [decide_eq_true t1] at e0
   by_cases t2:0 < b.length
   ·rw [decide_eq_true t2] at q3
    have pt2:decide (0 < b.length)=true:=decide_eq_true t2
    obtain rfl:(1:Int)=R:=by rw [← hR.out];simp [t1,t2]
    clear hR t1 t2
    go_enter Tryz.func118,Tryz.ntmps118
    go_wp2
    go_ret
    exact ⟨rfl,hB⟩
   ·rw [decide_eq_false t2] at q3
    have pt2:decide (0 < b.length)=false:=decide_eq_false t2
    by_cases t3:r.length < 2
    ·rw [decide_eq_true t3] at q4
     have pt3:decide (r.length < 2)=true:=decide_eq_true t3
     obtain rfl:(1:Int)=R:=by rw [← hR.out];simp [t1,t2,t3]
     clear hR t1 t2 t3
     go_enter Tryz.func118,Tryz.ntmps118
     go_wp2
     go_ret
     exact ⟨rfl,hB⟩
    ·rw [decide_eq_false t3] at q4
     have pt3:decide (r.length < 2)=false:=decide_eq_false t3
     obtain rfl:(0:Int)=R:=by rw [← hR.out];simp [t1,t2,t3]
     clear hR t1 t2 t3
     go_enter Tryz.func118,Tryz.ntmps118
     go_wp2
     go_ret
     exact ⟨rfl,hB⟩
  ·rw [decide_eq_false t1] at e0
   obtain rfl:(1:Int)=R:=by rw [← hR.out];simp [t1]
   clear hR t1
   go_enter Tryz.func118,Tryz.ntmps118
   go_wp2
   go_ret
   exact ⟨rfl,hB⟩
 ·by_cases t1:0 < r.length
  ·rw [decide_eq_true t1] at q1
   have pt1:decide (0 < r.length)=true:=decide_eq_true t1
   obtain rfl:(1:Int)=R:=by rw [← hR.out];simp [t1]
   clear hR t1
   go_enter Tryz.func118,Tryz.ntmps118
   go_wp2
   go_ret
   exact ⟨rfl,hB⟩
  ·rw [decide_eq_false t1] at q1
   have pt1:decide (0 < r.length)=false:=decide_eq_false t1
   by_cases t2:0 < b.length
   ·rw [decide_eq_true t2] at q3
    have pt2:decide (0 < b.length)=true:=decide_eq_true t2
    obtain rfl:(1:Int)=R:=by rw [← hR.out];simp [t1,t2]
    clear hR t1 t2
    go_enter Tryz.func118,Tryz.ntmps118
    go_wp2
    go_ret
    exact ⟨rfl,hB⟩
   ·rw [decide_eq_false t2] at q3
    have pt2:decide (0 < b.length)=false:=decide_eq_false t2
    by_cases t3:n=wNode
    ·rw [decide_eq_true t3] at e1;rw [decide_eq_true t3] at e3
     obtain rfl:(0:Int)=R:=by rw [← hR.out];simp [t1,t2,t3]
     clear hR t1 t2 t3
     go_enter Tryz.func118,Tryz.ntmps118
     go_wp2
     go_ret
     exact ⟨rfl,hB⟩
    ·rw [decide_eq_false t3] at e1;rw [decide_eq_false t3] at e3
     by_cases t4:n=wEdge
     ·rw [decide_eq_true t4] at e2;rw [decide_eq_true t4] at e4
      obtain rfl:(0:Int)=R:=by rw [← hR.out];simp [t1,t2,t4]
      clear hR t1 t2 t3 t4
      go_enter Tryz.func118,Tryz.ntmps118
      go_wp2
      go_ret
      exact ⟨rfl,hB⟩
     ·rw [decide_eq_false t4] at e2;rw [decide_eq_false t4] at e4
      obtain rfl:(1:Int)=R:=by rw [← hR.out];simp [t1,t2,t3,t4]
      clear hR t1 t2 t3 t4
      go_enter Tryz.func118,Tryz.ntmps118
      go_wp2
      go_ret
      exact ⟨rfl,hB⟩
 ·by_cases t1:0 < r.length
  ·rw [decide_eq_true t1] at q1
   have pt1:decide (0 < r.length)=true:=decide_eq_true t1
   obtain rfl:(1:Int)=R:=by rw [← hR.out];simp [t1]
   clear hR t1
   go_enter Tryz.func118,Tryz.ntmps118
   go_wp2
   go_ret
   exact ⟨rfl,hB⟩
  ·rw [decide_eq_false t1] at q1
   have pt1:decide (0 < r.length)=false:=decide_eq_false t1
   by_cases t2:0 < b.length
   ·rw [decide_eq_true t2] at q3
    have pt2:decide (0 < b.length)=true:=decide_eq_true t2
    obtain rfl:(1:Int)=R:=by rw [← hR.out];simp [t1,t2]
    clear hR t1 t2
    go_enter Tryz.func118,Tryz.ntmps118
    go_wp2
    go_ret
    exact ⟨rfl,hB⟩
   ·rw [decide_eq_false t2] at q3
    have pt2:decide (0 < b.length)=false:=decide_eq_false t2
    by_cases t3:a.length=1
    ·rw [decide_eq_true t3] at q5
     have pt3:decide (a.length=1)=true:=decide_eq_true t3
     obtain ⟨y,hy⟩:∃ y,a=[y]:=List.length_eq_one_iff.1 t3
     obtain ⟨_,_,ec,_,_,hA⟩:=HAV.out
     obtain ⟨A,rfl,hAt⟩:=hA (by rw [hy];simp)
     have ec2:so=some A:=by simp only [Value.slice.injEq] at ec;exact ec.1
     subst ec2
     have c0:=(hAt 0 (by rw [hy];simp)).1
     have e5:A.add (0*2)=A:=by unfold Addr.add;rfl
     rw [e5] at c0
     have e6:a[0]'(by rw [hy];simp)=y:=by subst hy;rfl
     rw [e6] at c0
     obtain ⟨Y,hY⟩:∃ Y,bb y.1=Y:=⟨_,rfl⟩
     have hYn:Y.toList=y.1:=by rw [← hY,ByteArray.toList_eq]
     have e7:Y.toList.isEmpty=decide (y.1=[]):=by rw [hYn];cases y.1 <;> rfl
     rw [hY] at c0
     have hal:a.length=1:=t3
     have l1:(a.length:Int)=1:=by omega
     clear HAV hAt hA ec e5 e6 hY hYn
     by_cases t4:y.1=[]
     ·rw [decide_eq_true t4] at e7
      obtain rfl:(0:Int)=R:=by rw [← hR.out];simp [t1,t2,hy,t4]
      clear hR hal hy t1 t2 t3 t4
      go_enter Tryz.func118,Tryz.ntmps118
      go_wp2
      go_ret
      exact ⟨rfl,hB⟩
     ·rw [decide_eq_false t4] at e7
      obtain rfl:(1:Int)=R:=by rw [← hR.out];simp [t1,t2,hy,t4]
      clear hR hal hy t1 t2 t3 t4
      go_enter Tryz.func118,Tryz.ntmps118
      go_wp2
      go_ret
      exact ⟨rfl,hB⟩
    ·rw [decide_eq_false t3] at q5
     have pt3:decide (a.length=1)=false:=decide_eq_false t3
     obtain rfl:(1:Int)=R:=by rw [← hR.out];simp [t1,t2,t3]
     clear hR t1 t2 t3
     go_enter Tryz.func118,Tryz.ntmps118
     go_wp2
     go_ret
     exact ⟨rfl,hB⟩
 ·by_cases t1:0 < r.length
  ·rw [decide_eq_true t1] at q1
   have pt1:decide (0 < r.length)=true:=decide_eq_true t1
   obtain rfl:(1:Int)=R:=by rw [← hR.out];simp [t1]
   clear hR t1
   go_enter Tryz.func118,Tryz.ntmps118
   go_wp2
   go_ret
   exact ⟨rfl,hB⟩
  ·rw [decide_eq_false t1] at q1
   have pt1:decide (0 < r.length)=false:=decide_eq_false t1
   by_cases t2:0 < a.length
   ·rw [decide_eq_true t2] at q2
    have pt2:decide (0 < a.length)=true:=decide_eq_true t2
    obtain rfl:(1:Int)=R:=by rw [← hR.out];simp [t1,t2]
    clear hR t1 t2
    go_enter Tryz.func118,Tryz.ntmps118
    go_wp2
    go_ret
    exact ⟨rfl,hB⟩
   ·rw [decide_eq_false t2] at q2
    have pt2:decide (0 < a.length)=false:=decide_eq_false t2
    obtain rfl:(0:Int)=R:=by rw [← hR.out];simp [t1,t2]
    clear hR t1 t2
    go_enter Tryz.func118,Tryz.ntmps118
    go_wp2
    go_ret
    exact ⟨rfl,hB⟩
theorem Prs.get {w:World}{ao:Option Addr}{n cap:Nat}{l:List Pr}(h:Prs w (.slice ao n cap) l){k:Nat}(hk:k < l.length):∃ A,ao=some A∧prAt w A k l[k]:=by
 obtain ⟨ao',cap',e,_,_,hA⟩:=h
 cases e
 obtain ⟨A,rfl,h2⟩:=hA (by omega)
 exact ⟨A,rfl,h2 k hk⟩
theorem below_drewT (w:World):∀ n,Below w.heap.size w (w.drewN n)
 | 0=>Below.refl _ _
 | n+1=>(below_drewT w n).drew
theorem attL_nil (k:Int)(d:List Pr):attL k d []=0:=by rw [attL]
theorem attL_cons (k:Int)(d:List Pr)(a:Pr)(t:List Pr):attL k d (a :: t)=if k≠4∧isNm a.1=false then 5 else if d.any (fun x=>decide (x.1=a.1))=true then 6 else if 32 < a.2.length then 2 else if a.2.all isPl=false then 7 else attL k (d ++ [a]) t:=by rw [attL]
theorem drop_pr {l:List Pr}{k:Nat}(h:k < l.length):l.drop k=l[k] :: l.drop (k+1):=List.drop_eq_getElem_cons h
theorem take_pr {l:List Pr}{k:Nat}(h:k < l.length):l.take (k+1)=l.take k ++ [l[k]]:=by rw [List.take_add_one,List.getElem?_eq_getElem h];rfl
theorem at2_str (w:World)(x y:ByteArray)(t:TypeId):(w.alloc (.cells #[.string x,.string y] t)).cell? ⟨w.heap.size,0,none⟩=some (.string x)∧(w.alloc (.cells #[.string x,.string y] t)).cell? ⟨w.heap.size,1,none⟩=some (.string y):=by
 constructor <;> go_simp
set_option maxRecDepth 100000 in
set_option maxHeartbeats 8000000 in
theorem ratt_of (s:St)(rv av bv:Value)(R:Int)(w:World)(h:Hid (fvOk w ⟨s,0,rv,av,bv⟩))(hR:Hid (attE s=R)) :
    Calls Tryz.prog 119 #[stV s rv av bv] w fun e w'=>e=.returned (.int .i64 R)∧Below w.heap.size w w':=by
 have hav:=h.out.2.2.1
 clear h
 have hr:=hR.out
 unfold attE at hr
 simp only at hav
 obtain ⟨k0,hk0⟩:∃ q,s.kind=q:=⟨_,rfl⟩
 obtain ⟨a,ha⟩:∃ q,s.attrs=q:=⟨_,rfl⟩
 obtain ⟨X,hX⟩:∃ X,bb s.name=X:=⟨_,rfl⟩
 show Calls Tryz.prog 119 #[.agg #[.int .i64 s.kind,.string (bb s.name),rv,av,bv]] w _
 rw [hk0,ha] at hr
 rw [ha] at hav
 rw [hk0,hX]
 obtain ⟨so,sc,rfl,_,_,_⟩:=id hav
 have HAV:=Lh hav
 have hB:=al1 w (.cells #[.int .i64 k0,.string X,rv,.slice so a.length sc,bv] 67)
 have h5:=at5_new w k0 X rv (.slice so a.length sc) bv 67
 clear hR hk0 ha hX hav s
 by_cases h16:16 < a.length
 ·rw [if_pos h16] at hr
  subst hr
  have l1:(16:Int) < (a.length:Int):=by omega
  clear h16 HAV h5
  go_enter Tryz.func119,Tryz.ntmps119
  go_wp2
  go_ret
  exact ⟨rfl,hB⟩
 rw [if_neg h16] at hr
 have HR:=Lh hr
 have l1:¬ (16:Int) < (a.length:Int):=by omega
 have hal:a.length≤16:=by omega
 clear h16 hr
 go_enter Tryz.func119,Tryz.ntmps119
 go_wp2_with fail
 generalize w.alloc (.cells #[.int .i64 k0,.string X,rv,.slice so a.length sc,bv] 67)=w1 at hB h5 ⊢
 have hav1:=HAV.out.keep hB
 have HA1:=Lh hav1
 clear HAV hav1
 go_loopw [3] (fun iv wr=>∃ k:Nat,k≤a.length∧iv=.int .i64 k∧attL k0 (a.take k) (a.drop k)=R∧Below w1.heap.size w1 wr) (fun iv _=>a.length - (intOf iv).toNat)
 case atStart=>exact ⟨0,Nat.zero_le _,rfl,HR.out,Below.refl _ _⟩
 case round =>
  obtain ⟨k,hk,rfl,hx,hBr⟩:=hrel
  rename World=>wr
  have HX:=Lh hx
  obtain ⟨c0,c1,c2,c3,c4⟩:=at5_keep h5 hBr
  clear hx HR
  by_cases hlt:k < a.length
  ·obtain ⟨A,rfl,p0,p1,z2,z3⟩:=(HA1.out.keep hBr).get hlt
   have hcons:=HX.out
   rw [drop_pr hlt,attL_cons] at hcons
   obtain ⟨x,hxe⟩:∃ x,a[k]=x:=⟨_,rfl⟩
   rw [hxe] at p0 p1 z2 z3 hcons
   obtain ⟨X1,hX1⟩:∃ Y,bb x.1=Y:=⟨_,rfl⟩
   obtain ⟨X2,hX2⟩:∃ Y,bb x.2=Y:=⟨_,rfl⟩
   have d1:X1.data.toList=x.1:=by rw [← hX1]
   have d2:X2.data.toList=x.2:=by rw [← hX2]
   have s1:X1.size≤maxLen:=by rw [← b_size,d1];exact z2
   have s2:X2.size=x.2.length:=by rw [← b_size,d2]
   rw [hX1] at p0
   rw [hX2] at p1
   have hBq:=below_keep (al1 wr (.cells #[.string X1,.string X2] 69)) hBr
   obtain ⟨v0,v1⟩:=at2_str wr X1 X2 69
   obtain ⟨q0,q1,q2,q3,q4⟩:=at5_keep h5 hBq
   obtain ⟨nm,hnm⟩:∃ b,isNm x.1=b:=⟨_,rfl⟩
   have HNM:Hid (isNm X1.data.toList=nm):=Lh (by rw [d1];exact hnm)
   have HS1:=Lh s1
   rw [hnm] at hcons
   have i0:(0:Int)≤(k:Int):=by omega
   have i1:(k:Int) < (a.length:Int):=by omega
   have HD1:=Lh d1
   have HD2:=Lh d2
   have HXE:=Lh hxe
   clear HX hX1 hX2 hnm d1 d2 z2 z3 s1 hxe
   have hk4:(k0 != 4)=decide (k0≠4):=by rw [Bool.eq_iff_iff];simp
   by_cases g1:k0≠4∧nm=false
   ·obtain ⟨g1a,rfl⟩:=g1
    rw [if_pos ⟨g1a,rfl⟩] at hcons
    subst hcons
    rw [decide_eq_true g1a] at hk4
    clear g1a
    go_wp2_with (go_at_call 56;refine (rnm_of _ _ _ HS1.out HNM).mono ?_;rintro e w' ⟨rfl,rfl⟩)
    go_ret
    exact ⟨rfl,below_keep hBq hB⟩
   ·have hcons2:(if (a.take k).any (fun y=>decide (y.1=x.1))=true then 6 else if 32 < x.2.length then 2 else if x.2.all isPl=false then 7 else attL k0 (a.take k ++ [x]) (a.drop (k+1)))=R:=by rw [if_neg g1] at hcons;exact hcons
    have HC:=Lh hcons2
    have hg:(k0 != 4)=true→nm=true:=fun e=>by
     cases nm
     ·exact absurd ⟨by simpa using e,rfl⟩ g1
     ·rfl
    have hway:(k0 != 4)=false∨((k0 != 4)=true∧nm=true):=by
     cases e:(k0 != 4)
     ·exact Or.inl rfl
     ·exact Or.inr ⟨rfl,hg e⟩
    have HP0:=Lh (HA1.out.keep hBq)
    clear hcons hcons2 hg g1 hk4
    rcases hway with hk4 | ⟨hk4,rfl⟩
    all_goals
     go_wp2_with (go_at_call 56;refine (rnm_of _ _ _ HS1.out HNM).mono ?_;rintro e w' ⟨rfl,rfl⟩)
     generalize wr.alloc (.cells #[.string X1,.string X2] 69)=wq at hBq v0 v1 q0 q1 q2 q3 q4 HP0 ⊢
     clear p0 p1 c0 c1 c2 c3 c4
     go_loopw [5] (fun jv wz=>∃ j:Nat,j≤k∧jv=.int .i64 j∧(a.take j).any (fun y=>decide (y.1=x.1))=false∧Below wq.heap.size wq wz) (fun jv _=>k - (intOf jv).toNat)
     case atStart=>exact ⟨0,Nat.zero_le _,rfl,rfl,Below.refl _ _⟩
     case round =>
      obtain ⟨j,hj,rfl,hany,hBz⟩:=hrel
      rename World=>wz
      have HANY:=Lh hany
      clear hany
      have c0:=cell_keep hBz q0
      have c2:=cell_keep hBz q2
      have c3:=cell_keep hBz q3
      have u0:=cell_keep hBz v0
      have u1:=cell_keep hBz v1
      by_cases hjk:j < k
      ·obtain ⟨A',eA,p0,_,_,_⟩:=(HP0.out.keep hBz).get (show j < a.length by omega)
       obtain rfl:A=A':=Option.some.inj eA
       obtain ⟨Y,hY⟩:∃ Y,bb (a[j]'(by omega)).1=Y:=⟨_,rfl⟩
       obtain ⟨dp,hdp⟩:∃ b,decide ((a[j]'(by omega)).1=x.1)=b:=⟨_,rfl⟩
       have he:(Y.toList == X1.toList)=dp:=by
        rw [ByteArray.toList_eq,ByteArray.toList_eq,HD1.out,← hY,← hdp,Bool.eq_iff_iff];simp
       rw [hY] at p0
       have HDP:=Lh hdp
       have j0:(0:Int)≤(j:Int):=by omega
       have j1:(j:Int) < (a.length:Int):=by omega
       have j2:(j:Int) < (k:Int):=by omega
       clear hY hdp
       cases dp
       ·have HN:Hid ((a.take (j+1)).any (fun y=>decide (y.1=x.1))=false):=Lh (by rw [take_pr (show j < a.length by omega),List.any_append,HANY.out];simp [HDP.out])
        go_wp2_with fail
        go_quiet (fail)
        have hB2:=below_keep (below_drewT wz nq) hBz
        generalize wz.drewN nq=wn at hB2 ⊢
        go_wp2
        go_roundw
        case rel=>exact ⟨j+1,by omega,by go_num,HN.out,hB2⟩
        case measure=>simp [intOf];omega
       ·have HN:Hid (R=6):=Lh (by
          have h6:(a.take k).any (fun y=>decide (y.1=x.1))=true:=by
           rw [List.any_eq_true]
           exact ⟨a[j]'(by omega),List.mem_take_iff_getElem.2 ⟨j,by omega,rfl⟩,HDP.out⟩
          have:=HC.out;rw [if_pos h6] at this;exact this.symm)
        obtain rfl:=HN.out
        go_wp2_with fail
        go_quiet (fail)
        have hB2:=below_keep (below_drewT wz nq) hBz
        generalize wz.drewN nq=wn at hB2 ⊢
        go_wp2
        go_ret
        exact ⟨rfl,below_keep hB2 (below_keep hBq hB)⟩
      ·obtain rfl:j=k:=by omega
       have HC2:Hid ((if 32 < x.2.length then 2 else if x.2.all isPl=false then 7 else attL k0 (a.take j ++ [x]) (a.drop (j+1)))=R):=Lh (by
        have:=HC.out;rw [if_neg (by rw [HANY.out];simp)] at this;exact this)
       have hBz2:=below_keep hBz hBq
       have hz2:(X2.size:Int)=(x.2.length:Int):=by omega
       have HPL:Hid (X2.data.toList=x.2):=HD2
       clear HC HANY
       by_cases h32:32 < X2.size
       ·have HN:Hid (R=2):=Lh (by have:=HC2.out;rw [if_pos (by omega)] at this;exact this.symm)
        obtain rfl:=HN.out
        have l32:(32:Int) < (X2.size:Int):=by omega
        clear h32 hz2 s2
        go_wp2
        go_ret
        exact ⟨rfl,below_keep hBz2 hB⟩
       ·have HC3:Hid ((if x.2.all isPl=false then 7 else attL k0 (a.take j ++ [x]) (a.drop (j+1)))=R):=Lh (by
          have:=HC2.out;rw [if_neg (by omega)] at this;exact this)
        have l32:¬ (32:Int) < (X2.size:Int):=by omega
        clear h32 hz2 s2 HC2
        go_wp2_with fail
        go_loopw [6] (fun mv wy=>∃ m:Nat,m≤X2.size∧mv=.int .i64 m∧(X2.data.toList.take m).all isPl=true∧wz=wy) (fun mv _=>X2.size - (intOf mv).toNat)
        case atStart=>exact ⟨0,Nat.zero_le _,rfl,rfl,rfl⟩
        case round =>
         obtain ⟨m,hm,rfl,hpl,rfl⟩:=hrel
         have HW:=Lh hpl
         clear hpl
         by_cases hlm:m < X2.size
         ·have HD:=Lh (b_dig X2 m hlm)
          by_cases p1:(X2[m].toNat:Int) < 32
          ·have HN:Hid (R=7):=Lh (by
             have hb:x.2.all isPl=false:=by
              rw [← HPL.out,List.all_eq_false]
              exact ⟨X2[m],List.mem_of_getElem? HD.out,by unfold isPl;simp;omega⟩
             have:=HC3.out;rw [if_pos hb] at this;exact this.symm)
           obtain rfl:=HN.out
           go_wp2
           go_ret
           exact ⟨rfl,below_keep hBz2 hB⟩
          ·by_cases p2:126 < (X2[m].toNat:Int)
           ·have HN:Hid (R=7):=Lh (by
              have hb:x.2.all isPl=false:=by
               rw [← HPL.out,List.all_eq_false]
               exact ⟨X2[m],List.mem_of_getElem? HD.out,by unfold isPl;simp;omega⟩
              have:=HC3.out;rw [if_pos hb] at this;exact this.symm)
            obtain rfl:=HN.out
            go_wp2
            go_ret
            exact ⟨rfl,below_keep hBz2 hB⟩
           ·have HN:Hid ((X2.data.toList.take (m+1)).all isPl=true):=Lh (by
              rw [List.take_add_one,HD.out,List.all_append,HW.out];unfold isPl;simp;omega)
            go_wp2
            go_roundw
            case rel=>exact ⟨m+1,by omega,by go_num,HN.out,by trivial⟩
            case measure=>simp [intOf];omega
         ·obtain rfl:m=X2.size:=by omega
          have HN:Hid (attL k0 (a.take (j+1)) (a.drop (j+1))=R):=Lh (by
           have hb:x.2.all isPl=true:=by
            have:=HW.out;rw [← b_size,List.take_length,HPL.out] at this;exact this
           have:=HC3.out;rw [if_neg (by rw [hb];simp),← HXE.out,← take_pr hlt] at this;exact this)
          go_wp2
          go_roundw
          case rel=>exact ⟨j+1,by omega,by go_num,HN.out,hBz2⟩
          case measure=>simp [intOf];omega
  ·obtain rfl:k=a.length:=by omega
   have HN:Hid (R=0):=Lh (by have:=HX.out;rw [List.drop_length,attL_nil] at this;exact this.symm)
   obtain rfl:=HN.out
   go_wp2
   go_ret
   exact ⟨rfl,below_keep hBr hB⟩
def at6 (w:World)(b:Nat)(k:Int)(x:ByteArray)(rv av bv:Value)(lv:Int):Prop:=at5 w b k x rv av bv∧w.cell? ⟨b,5,none⟩=some (.int .i64 lv)
theorem at6_new (w:World)(k:Int)(x:ByteArray)(rv av bv:Value)(lv:Int)(t:TypeId):at6 (w.alloc (.cells #[.int .i64 k,.string x,rv,av,bv,.int .i64 lv] t)) w.heap.size k x rv av bv lv:=by
 refine ⟨⟨?_,?_,?_,?_,?_⟩,?_⟩ <;> go_simp
theorem at6_keep {w1 w2:World}{b:Nat}{k:Int}{x:ByteArray}{rv av bv:Value}{lv:Int}(h:at6 w1 b k x rv av bv lv)(h2:Below w1.heap.size w1 w2):at6 w2 b k x rv av bv lv:=⟨at5_keep h.1 h2,cell_keep h2 h.2⟩
theorem all_next {l:List Pr}{k:Nat}(h:k < l.length)(h1:(l.take k).all refB=true)(h2:refB l[k]=true):(l.take (k+1)).all refB=true:=by rw [take_pr h,List.all_append,h1];simp [h2]
theorem all_bad {l:List Pr}{k:Nat}(h:k < l.length)(h2:refB l[k]=false):l.all refB=false:=by rw [List.all_eq_false];exact ⟨l[k],List.getElem_mem h,by rw [h2];simp⟩
set_option maxRecDepth 100000 in
set_option maxHeartbeats 16000000 in
theorem rsta_of (s:St)(lv:Int)(rv av bv:Value)(R:Int)(w:World)(h:Hid (fvOk w ⟨s,lv,rv,av,bv⟩))(hR:Hid (staE s lv=R)) :
    Calls Tryz.prog 58 #[.agg #[.int .i64 s.kind,.string (bb s.name),rv,av,bv,.int .i64 lv]] w fun e w'=>e=.returned (.int .i64 R)∧Below w.heap.size w w':=by
 have hB:=al1 w (.cells #[.int .i64 s.kind,.string (bb s.name),rv,av,bv,.int .i64 lv] 119)
 have h6:=at6_new w s.kind (bb s.name) rv av bv lv 119
 have hf1:fvOk (w.alloc (.cells #[.int .i64 s.kind,.string (bb s.name),rv,av,bv,.int .i64 lv] 119)) ⟨s,0,rv,av,bv⟩:=fvOk.keep h.out hB
 have HF1:=Lh hf1
 have hnm:=h.out.1
 simp only at hnm
 have hr:=hR.out
 unfold staE at hr
 obtain ⟨E1,hE1⟩:∃ q,fldE s=q:=⟨_,rfl⟩
 have HE1:=Lh hE1
 rw [hE1] at hr
 have hrv:=h.out.2.1
 simp only at hrv
 obtain ⟨ro,rc,hrve,hrl1,hrl2,_⟩:=id hrv
 unfold maxLen at hrl2
 have hrlen:s.refs.length≤9223372036854775807:=by omega
 clear hrl1 hrl2
 have HRL:=Lh hrve
 clear h hR hE1 hf1 hrv hrve
 by_cases g1:E1≠0
 ·rw [if_pos g1] at hr
  subst hr
  have b1:(E1 != 0)=true:=by simp [g1]
  obtain ⟨⟨c0,c1,c2,c3,c4⟩,c5⟩:=h6
  clear g1
  go_enter Tryz.func58,Tryz.ntmps58
  go_wp2_with (go_at_call 118;refine (rfld_of s rv av bv E1 _ HF1 HE1).mono ?_;rintro e w2 ⟨rfl,hb2⟩)
  go_ret
  exact ⟨rfl,below_keep hb2 hB⟩
 rw [if_neg g1] at hr
 obtain rfl:E1=0:=by simpa using g1
 clear g1
 have f5:(s.kind == 5)=decide (s.kind=5):=by rw [Bool.eq_iff_iff];simp
 have f2:(s.kind != 2)=decide (s.kind≠2):=by rw [Bool.eq_iff_iff];simp
 have f3:(s.kind != 3)=decide (s.kind≠3):=by rw [Bool.eq_iff_iff];simp
 have HZ:=Lh (show (bb s.name).size≤maxLen by rw [← b_size];exact hnm)
 obtain ⟨nm,hnmv⟩:∃ q,isNm s.name=q:=⟨_,rfl⟩
 have HNM:Hid (isNm (bb s.name).data.toList=nm):=Lh hnmv
 rw [hnmv] at hr
 by_cases g2:s.kind=5∧6≤lv
 ·rw [if_pos g2] at hr
  subst hr
  rw [decide_eq_true g2.1] at f5
  have l6:=g2.2
  have d6:decide (6≤lv)=true:=decide_eq_true l6
  clear g2 f2 f3 hnmv hnm
  obtain ⟨⟨c0,c1,c2,c3,c4⟩,c5⟩:=h6
  go_enter Tryz.func58,Tryz.ntmps58
  go_wp2_with fail
  refine (rfld_of s rv av bv 0 _ HF1 HE1).mono ?_
  rintro e w2 ⟨rfl,hb2⟩
  have c0:=cell_keep hb2 c0
  have c5:=cell_keep hb2 c5
  go_wp2
  go_ret
  exact ⟨rfl,below_keep hb2 hB⟩
 rw [if_neg g2] at hr
 by_cases g3:s.kind≠2∧s.kind≠3∧nm=false
 ·obtain ⟨g3a,g3b,rfl⟩:=g3
  rw [if_pos ⟨g3a,g3b,rfl⟩] at hr
  subst hr
  rw [decide_eq_true g3a] at f2
  rw [decide_eq_true g3b] at f3
  have hw5:((s.kind == 5)=false)∨((s.kind == 5)=true∧decide (6≤lv)=false):=by
   by_cases k5:s.kind=5
   ·exact Or.inr ⟨by rw [beq_iff_eq];exact k5,decide_eq_false (fun q=>g2 ⟨k5,q⟩)⟩
   ·exact Or.inl (by rw [beq_eq_false_iff_ne];exact k5)
  clear g2 g3a g3b hnmv hnm f5
  obtain ⟨⟨c0,c1,c2,c3,c4⟩,c5⟩:=h6
  rcases hw5 with f5 | ⟨f5,d6⟩
  all_goals
   go_enter Tryz.func58,Tryz.ntmps58
   go_wp2_with fail
   refine (rfld_of s rv av bv 0 _ HF1 HE1).mono ?_
   rintro e w2 ⟨rfl,hb2⟩
   have c0:=cell_keep hb2 c0
   have c1:=cell_keep hb2 c1
   have c5:=cell_keep hb2 c5
   go_wp2_with (go_at_call 56;refine (rnm_of _ _ _ HZ.out HNM).mono ?_;rintro e w' ⟨rfl,rfl⟩)
   go_ret
   exact ⟨rfl,below_keep hb2 hB⟩
 rw [if_neg g3] at hr
 have hway:((s.kind == 5)=false∧(s.kind != 2)=true∧(s.kind != 3)=true∧nm=true)∨((s.kind == 5)=false∧(s.kind != 2)=false)∨((s.kind == 5)=false∧(s.kind != 2)=true∧(s.kind != 3)=false)∨((s.kind == 5)=true∧decide (6≤lv)=false∧(s.kind != 2)=true∧(s.kind != 3)=true∧nm=true):=by
  have hn:s.kind≠2→s.kind≠3→nm=true:=fun a b=>by
   cases nm
   ·exact absurd ⟨a,b,rfl⟩ g3
   ·rfl
  by_cases k5:s.kind=5
  ·have d6:decide (6≤lv)=false:=decide_eq_false (fun q=>g2 ⟨k5,q⟩)
   rw [f5,f2,f3,decide_eq_true k5,decide_eq_true (show s.kind≠2 by omega),decide_eq_true (show s.kind≠3 by omega)]
   exact Or.inr (Or.inr (Or.inr ⟨rfl,d6,rfl,rfl,hn (by omega) (by omega)⟩))
  ·rw [f5,f2,f3,decide_eq_false k5]
   by_cases k2:s.kind=2
   ·exact Or.inr (Or.inl ⟨rfl,decide_eq_false (fun q=>q k2)⟩)
   ·by_cases k3:s.kind=3
    ·exact Or.inr (Or.inr (Or.inl ⟨rfl,decide_eq_true k2,decide_eq_false (fun q=>q k3)⟩))
    ·exact Or.inl ⟨rfl,decide_eq_true k2,decide_eq_true k3,hn k2 k3⟩
 have HR:=Lh hr
 have HRV:=Lh HF1.out.2.1
 clear hr f5 f2 f3 g2 g3 hnmv hnm
 have hend:Hid (s.refs.all refB=true→attE s=R):=Lh (fun q=>by have:=HR.out;rw [if_neg (by rw [q];simp)] at this;exact this)
 have hbad:Hid (s.refs.all refB=false→R=5):=Lh (fun q=>by have:=HR.out;rw [if_pos q] at this;exact this.symm)
 clear HR
 simp only at HRV
 obtain ⟨r,hre⟩:∃ r,s.refs=r:=⟨_,rfl⟩
 rw [hre] at HRV hend hbad HRL hrlen
 clear hre
 obtain rfl:=HRL.out
 rcases hway with ⟨f5,f2,f3,rfl⟩ | ⟨f5,f2⟩ | ⟨f5,f2,f3⟩ | ⟨f5,d6,f2,f3,rfl⟩
 all_goals
  obtain ⟨⟨c0,c1,c2,c3,c4⟩,c5⟩:=id h6
  go_enter Tryz.func58,Tryz.ntmps58
  go_wp2_with fail
  refine (rfld_of s _ av bv 0 _ HF1 HE1).mono ?_
  rintro e w2 ⟨rfl,hb2⟩
  have g6:=at6_keep h6 hb2
  clear c0 c1 c2 c3 c4 c5
  obtain ⟨⟨c0,c1,c2,c3,c4⟩,c5⟩:=id g6
  go_wp2_with (go_at_call 56;refine (rnm_of _ _ _ HZ.out HNM).mono ?_;rintro e w' ⟨rfl,rfl⟩)
  clear c0 c1 c2 c3 c4 c5
  have hB2:=below_keep hb2 hB
  have HRV2:=Lh (HRV.out.keep hb2)
  have HF2:=Lh (HF1.out.keep hb2)
  clear hb2
  go_loopw [4] (fun iv wr=>∃ k:Nat,k≤r.length∧iv=.int .i64 k∧(r.take k).all refB=true∧Below w2.heap.size w2 wr) (fun iv _=>r.length - (intOf iv).toNat)
  case atStart=>exact ⟨0,Nat.zero_le _,rfl,rfl,Below.refl _ _⟩
  case round =>
   obtain ⟨k,hk,rfl,hall,hBr⟩:=hrel
   rename World=>wr
   have HALL:=Lh hall
   obtain ⟨⟨c0,c1,c2,c3,c4⟩,c5⟩:=at6_keep g6 hBr
   clear hall
   by_cases hlt:k < r.length
   ·obtain ⟨A,rfl,p0,p1,z2,z3⟩:=(HRV2.out.keep hBr).get hlt
    obtain ⟨x,hxe⟩:∃ x,r[k]=x:=⟨_,rfl⟩
    rw [hxe] at p0 p1 z2 z3
    obtain ⟨X1,hX1⟩:∃ Y,bb x.1=Y:=⟨_,rfl⟩
    obtain ⟨X2,hX2⟩:∃ Y,bb x.2=Y:=⟨_,rfl⟩
    have d1:X1.data.toList=x.1:=by rw [← hX1]
    have d2:X2.data.toList=x.2:=by rw [← hX2]
    have HS1:=Lh (show X1.size≤maxLen by rw [← b_size,d1];exact z2)
    have HS2:=Lh (show X2.size≤maxLen by rw [← b_size,d2];exact z3)
    rw [hX1] at p0
    rw [hX2] at p1
    have hBq:=below_keep (al1 wr (.cells #[.string X1,.string X2] 121)) hBr
    obtain ⟨v0,v1⟩:=at2_str wr X1 X2 121
    obtain ⟨n1,hn1⟩:∃ b,isNm x.1=b:=⟨_,rfl⟩
    obtain ⟨n2,hn2⟩:∃ b,isNm x.2=b:=⟨_,rfl⟩
    obtain ⟨m2,hm2⟩:∃ b,x.2.isEmpty=b:=⟨_,rfl⟩
    have HN1:Hid (isNm X1.data.toList=n1):=Lh (by rw [d1];exact hn1)
    have HN2:Hid (isNm X2.data.toList=n2):=Lh (by rw [d2];exact hn2)
    have he2:X2.toList.isEmpty=m2:=by rw [ByteArray.toList_eq,d2];exact hm2
    have HRB:Hid (refB r[k]=(n1 && (m2 || n2))):=Lh (by rw [hxe];unfold refB;rw [hn1,hn2,hm2])
    have i0:(0:Int)≤(k:Int):=by omega
    have i1:(k:Int) < (r.length:Int):=by omega
    clear hX1 hX2 hn1 hn2 hm2 d1 d2 z2 z3 hxe
    have hw:n1=false∨(n1=true∧m2=true)∨(n1=true∧m2=false∧n2=true)∨(n1=true∧m2=false∧n2=false):=by cases n1 <;> cases m2 <;> cases n2 <;> simp
    rcases hw with rfl | ⟨rfl,rfl⟩ | ⟨rfl,rfl,rfl⟩ | ⟨rfl,rfl,rfl⟩
    ·have HN:=Lh (hbad.out (all_bad hlt HRB.out))
     obtain rfl:=HN.out
     go_wp2_with (go_at_call 56;refine (rnm_of _ _ _ HS1.out HN1).mono ?_;rintro e w' ⟨rfl,rfl⟩)
     go_ret
     exact ⟨rfl,below_keep hBq hB2⟩
    ·have HN:=Lh (all_next hlt HALL.out HRB.out)
     go_wp2_with (go_at_call 56;refine (rnm_of _ _ _ HS1.out HN1).mono ?_;rintro e w' ⟨rfl,rfl⟩)
     go_roundw
     case rel=>exact ⟨k+1,by omega,by go_num,HN.out,hBq⟩
     case measure=>simp [intOf];omega
    ·have HN:=Lh (all_next hlt HALL.out HRB.out)
     go_wp2_with (first | (go_at_call 56;(with_reducible refine (rnm_of _ _ _ HS1.out HN1).mono ?_);rintro e w' ⟨rfl,rfl⟩) | (go_at_call 56;(with_reducible refine (rnm_of _ _ _ HS2.out HN2).mono ?_);rintro e w' ⟨rfl,rfl⟩))
     go_roundw
     case rel=>exact ⟨k+1,by omega,by go_num,HN.out,hBq⟩
     case measure=>simp [intOf];omega
    ·have HN:=Lh (hbad.out (all_bad hlt HRB.out))
     obtain rfl:=HN.out
     go_wp2_with (first | (go_at_call 56;(with_reducible refine (rnm_of _ _ _ HS1.out HN1).mono ?_);rintro e w' ⟨rfl,rfl⟩) | (go_at_call 56;(with_reducible refine (rnm_of _ _ _ HS2.out HN2).mono ?_);rintro e w' ⟨rfl,rfl⟩))
     go_ret
     exact ⟨rfl,below_keep hBq hB2⟩
   ·obtain rfl:k=r.length:=by omega
    have HE:Hid (attE s=R):=Lh (hend.out (by have:=HALL.out;rw [List.take_length] at this;exact this))
    have HFr:=Lh (HF2.out.keep hBr)
    go_wp2_with (go_at_call 119;refine (ratt_of s _ av bv R _ HFr HE).mono ?_;rintro e w3 ⟨rfl,hb3⟩)
    go_ret
    exact ⟨rfl,below_keep hb3 (below_keep hBr hB2)⟩
end Go.Proofs.YtgmidodmmlmmeaaGreatDoor.tre
