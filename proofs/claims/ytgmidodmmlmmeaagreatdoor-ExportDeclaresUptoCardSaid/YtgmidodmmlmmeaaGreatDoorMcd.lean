/-
  Contracts and plain facts of the layers below; conditions as each theorem states them.
-/
import Derived.Test.YtgmidodmmlmmeaaGreatDoorMcc
import Derived.Test.YtgmidodmmlmmeaaGreatDoorMxa
import Derived.Laws.EntriesVeiled
import Derived.Shelf.Spec.SlicesGrow
import Derived.Shelf.SlIter.Nil
import Derived.Laws.AppendOwnNone
set_option maxHeartbeats 8000000
set_option maxRecDepth 100000
namespace Go.Proofs.YtgmidodmmlmmeaaGreatDoor.att
open Go.RowKit lex tre
theorem ymk (k:Int)(a:Pr)(e0:Int)(w:World)(hm:a.2.length<=20000)(hr:Hid (yaa k a=e0)) :
    Calls Tryz.prog 167 #[.int .i64 k,.agg #[.string (bb a.1),.string (bb a.2)]] w fun e w'=>e=.returned (.int .i64 e0)/\Below w.heap.size w w':=by
 obtain⟨a1,a2⟩:=a;simp only at hm |-;have h:=hr.out;unfold yaa at h;cases hg:yaY k
 ·rw[if_pos hg] at h
  subst h;exact ykR k a1 a2 w (Lh hg)
 rw[if_neg (by rw[hg];decide)] at h;simp only at h;obtain⟨f,lo,hi,no,hx⟩:∃ f lo hi no,yo k a1=⟨f,lo,hi,no⟩:=⟨_,_,_,_,rfl⟩
 have hf:=ykQ k a1;rw[hx] at h hf;unfold okV at h;simp only at h hf
 rcases hf with rfl | rfl | rfl | rfl | rfl | rfl
 ·rw[if_pos rfl] at h
  subst h;exact yoK k a1 a2 lo hi no w (Lh hg) (Lh hx)
 ·rw[if_neg (by decide)] at h
  by_cases hl:32<a2.length
  ·rw[if_pos ⟨rfl,hl⟩] at h
   subst h;exact ymj k a1 a2 lo hi no hl hm w (Lh hg) (Lh hx)
  ·rw[if_neg (fun e=>hl e.2),if_pos rfl] at h
   subst h;exact yoL k a1 a2 lo hi no (by omega) _ (Lh rfl) w (Lh hg) (Lh hx)
 ·rw[if_neg (by decide),if_neg (fun e=>absurd e.1 (by decide))] at h
  have h2:(if (yeM ⟨2,lo,hi,no⟩ a2).2 then (0:Int) else 7)=e0:=h;subst h2;exact yoM k a1 a2 lo hi no hm (yeM ⟨2,lo,hi,no⟩ a2).1 _ (Lh rfl) w (Lh hg) (Lh hx)
 ·rw[if_neg (by decide),if_neg (fun e=>absurd e.1 (by decide))] at h
  have h2:(if (yeM ⟨3,lo,hi,no⟩ a2).2 then (0:Int) else 7)=e0:=h;subst h2;exact yoN k a1 a2 lo hi no hm (yeM ⟨3,lo,hi,no⟩ a2).1 _ (Lh rfl) w (Lh hg) (Lh hx)
 ·rw[if_neg (by decide),if_neg (fun e=>absurd e.1 (by decide))] at h
  have h2:(if decide ((yaQ a2).2=0)&&decide (a2.length<=32) then (0:Int) else 7)=e0:=h;subst h2;exact yoO k a1 a2 lo hi no hm (yaQ a2).1 (yaQ a2).2 (Lh rfl) _ (Lh rfl) w (Lh hg) (Lh hx)
 ·rw[if_neg (by decide),if_neg (fun e=>absurd e.1 (by decide))] at h
  have h2:(if decide (0<=yln a2) then (0:Int) else 7)=e0:=h;subst h2;exact yoP k a1 a2 lo hi no (yln a2) (Lh rfl) _ (Lh rfl) w (Lh hg) (Lh hx)
def Own2 (W:World)(g:Nat)(v0 v1:Value):Prop:=W.cell? ⟨g,0,none⟩=some v0/\W.cell? ⟨g,1,none⟩=some v1/\W.frozen? ⟨g,0,none⟩=false/\W.frozen? ⟨g,1,none⟩=false
theorem yrE {W:World}{g:Nat}{x y:Value}{t:TypeId}(h:W.heap[g]?=some (.cells #[x,y] t (0,0))):Own2 W g x y:=by
 refine⟨?_,?_,?_,?_⟩ <;> simp[World.cell?,World.frozen?,h]
theorem yqA (l:List UInt8):(bb l).size=l.length:=by simp[ByteArray.size]
end Go.Proofs.YtgmidodmmlmmeaaGreatDoor.att
namespace Go.Proofs.YtgmidodmmlmmeaaGreatDoor.att
open Go.RowKit lex tre _root_.Go.Proofs.Tryz
attribute [local go_sem] Oper.semAt_some
def bkL (l:List Pr):List (Nat × Pr):=(List.range l.length).map fun j=>(l.length-1-j,l.getD (l.length-1-j) ([],[]))
theorem yic (l:List Pr):(bkL l).length=l.length:=by simp[bkL]
theorem ys9 (l:List Pr)(j:Nat)(h:j<l.length):(bkL l)[j]'(by rw[yic];exact h)=(l.length-1-j,l[l.length-1-j]'(by omega)):=by
 simp only[bkL,List.getElem_map,List.getElem_range,Prod.mk.injEq,true_and];rw[List.getD_eq_getElem?_getD,List.getElem?_eq_getElem (by omega)];rfl
theorem yrF {l:List Pr}{pre:List (Nat × Pr)}{x:Nat × Pr}(h:pre++[x] <+: bkL l):∃ hp:pre.length<l.length,x=(l.length-1-pre.length,l[l.length-1-pre.length]'(by omega)):=by
 obtain⟨t,ht⟩:=h;have hl:=congrArg List.length ht;rw[yic] at hl;simp at hl;have hp:pre.length<l.length:=by omega
 refine⟨hp,?_⟩;rw[<- ys9 l pre.length hp];simp only[<- ht];simp
theorem yrG (l:List Pr)(j:Nat)(h:j<l.length):(bkL l).take (j+1)=(bkL l).take j++[(l.length-1-j,l[l.length-1-j]'(by omega))]:=by
 rw[List.take_succ_eq_append_getElem (by rw[yic];exact h),ys9 l j h]
theorem yrH (l:List Pr)(i:Nat)(h:i<l.length):(bkL l).take (l.length-i)=(bkL l).take (l.length-(i+1))++[(i,l[i])]:=by
 have h1:=yrG l (l.length-(i+1)) (by omega);have e1:l.length-1-(l.length-(i+1))=i:=by omega
 have e2:l.length-(i+1)+1=l.length-i:=by omega
 rw[e2] at h1;simp only[e1] at h1;exact h1
def bkV (x:Nat × Pr):Array Value:=#[.int .i64 x.1,.agg #[.string (bb x.2.1),.string (bb x.2.2)]]
theorem yta (n l c m:Nat)(v:Value)(L:List Pr)(hL:L.length<=1000)(J Jx:List (Nat × Pr)->World->Prop)
    (hY:∀ k pre x X,J pre X->pre++[x] <+: bkL L->YieldAt Fence.wide k Tryz.prog l (bkV x) X fun e Y =>
     (e=.returned (.bool true)/\J (pre++[x]) Y/\KpC m c X Y)\/(e=.returned (.bool false)/\Jx (pre++[x]) Y))
    (W:World) (hP:∀ Y,Below m W Y->Prs Y v L) (hB:Boxed W (c+2) 65 v) (h0:J [] W) :
    CallsIn Fence.wide n Tryz.prog 165 #[.func (.yield l) #[] #[],.pointer (some ⟨c+2,0,none⟩)] W fun e W'=>(∃ v,e=.returned v) /\
     (J (bkL L) W'\/∃ pre,pre <+: bkL L/\Jx pre W'):=by
 obtain⟨ao,cap,rfl,_,_,_⟩:=id (hP W (Below.refl _ _));have c0:=hB.cell;refine callsIn_of_wp func165 rfl trivial ?_ rfl;simp only[ntmps165,List.size_toArray,List.length_cons,List.length_nil,Nat.reduceAdd,Nat.reduceSub,Array.replicate_succ,Array.replicate_zero,List.push_toArray,List.append_toArray,List.nil_append,List.cons_append]
 gi_wp2
 clear c0
 gi_loopw [3] (fun iv wr=>∃ k:Nat,iv=.int .i64 ((k:Int)-1)/\k<=L.length/\J ((bkL L).take (L.length-k)) wr/\Below m W wr/\Boxed wr (c+2) 65 (.slice ao L.length cap)) (fun iv _=>(intOf iv+1).toNat)
 case atStart=>exact⟨L.length,by go_num,Nat.le_refl _,by rw[Nat.sub_self];exact h0,Below.refl _ _,hB⟩
 case round =>
  obtain⟨k,rfl,hk,hJs,hbw,hbx⟩:=hrel
  rename World=>wr
  have cb:=hbx.cell
  cases k with
  | zero =>
   rw[Nat.sub_zero,<- yic,List.take_length] at hJs;have HJ:=Lh hJs;clear hJs
   gi_wp2
   go_end0
   exact⟨⟨_,rfl⟩,Or.inl HJ.out⟩
  | succ i =>
   have em:((i+1:Nat):Int)-1=(i:Int):=by omega
   rw[em];have hlt:i<L.length:=by omega
   have hq:=hP wr hbw;obtain⟨A,rfl,q0,q1,-,-⟩:=hq.get hlt;have hst:=yrH L i hlt;have hpre:(bkL L).take (L.length-(i+1))++[(i,L[i])] <+: bkL L:=by rw[<- hst];exact List.take_prefix _ _
   obtain⟨fn,tmps,assign,body,hy,hR⟩:=hY (n-1) _ (i,L[i]) wr hJs hpre;have HST:=Lh hst;have HPRE:=Lh hpre;have i0:(0:Int)<=(i:Int):=by omega
   have i1:(i:Int)<(L.length:Int):=by omega
   dsimp only[bkV] at hy;clear hst em hq hpre hJs
   gi_wp2
   refine⟨fun h=>(by cases h),?_⟩;refine hR.mono ?_;rintro e W3 (⟨rfl,hJ3,hk3⟩ | ⟨rfl,hJx3⟩)
   ·have HJ3:=Lh hJ3
    have HB3:=Lh (hbw.trans hk3.1);have HX3:=Lh ((hk3.2 (c+2) (by omega) (by omega)).trans hbx);clear hJ3
    gi_wp2
    go_roundw
    case rel=>exact⟨i,by go_num,by omega,by rw[HST.out];exact HJ3.out,HB3.out,HX3.out⟩
    case measure=>simp[intOf]
   ·gi_wp2
    refine bodyPost_ret (results_none rfl _ _ _) rfl ?_;exact⟨⟨_,rfl⟩,Or.inr ⟨_,HPRE.out,hJx3⟩⟩
theorem ytb (v:Value)(L:List Pr)(hL:L.length<=1000)(c m b:Nat)(w:World)(hm:m<=w.heap.size)(hP:∀ Y,Below m w Y->Prs Y v L)(hbc:b=c+2)(hB:Boxed w b 65 v) :
    SeqC Tryz.prog 165 #[.pointer (some ⟨b,0,none⟩)] bkV m c none (bkL L) w:=fun n l J Jx W hW _ hY h0=>by
 subst hbc;exact yta n l c m v L hL J Jx hY W (fun Y hY'=>hP Y ((hW.mono hm).trans hY')) ((hW.block _ hB.lt).trans hB) h0
theorem ytc (ao:Option Addr)(n cap:Nat)(w:World) :
    Calls Tryz.prog 98 #[.slice ao n cap] w fun e w'=>e=.returned (.func (.func 165) #[] #[.pointer (some ⟨w.heap.size,0,none⟩)])/\w'=w.alloc (.cells #[.slice ao n cap] 65):=by
 go_enter func98,ntmps98;go_wp2;go_ret;exact⟨rfl,rfl⟩
def GeI (w:World)(g:Nat)(s:ByteArray)(L:List Pr)(x:List UInt8)(r:Bool)(pre:List (Nat × Pr))(W:World):Prop :=
 yai (L.take (L.length-pre.length)) s.data.toList=(x,r)/\Boxed W g 9 (.string s)/\Boxed W (g+1) 9 (.string ⟨#[]⟩)/\Boxed W (g+1+1) 4 (.bool false)/\Below g w W
def GeX (w:World)(g:Nat)(x:List UInt8)(r:Bool)(W:World):Prop:=Boxed W (g+1) 9 (.string (bb x))/\Boxed W (g+1+1) 4 (.bool r)/\Below g w W
theorem GeI.step {w:World}{g:Nat}{s:ByteArray}{L:List Pr}{x:List UInt8}{r:Bool}{pre:List (Nat × Pr)}{X Y:World}{row:Option Nat}(h:GeI w g s L x r pre X)(hg:X.grownBy Y row)(hr:∀ q,row=some q->g+3<=q):GeI w g s L x r pre Y:=by
 obtain⟨h1,h2,h3,h4,h5⟩:=h;exact⟨h1,h2.kept hg (fun e=>by have:=hr _ e.symm;omega),h3.kept hg (fun e=>by have:=hr _ e.symm;omega),h4.kept hg (fun e=>by have:=hr _ e.symm;omega),h5.grown hg (Nat.le_of_lt h2.lt) (fun k e=>by have:=hr k e;omega)⟩
theorem GeX.step {w:World}{g:Nat}{x:List UInt8}{r:Bool}{X Y:World}{row:Option Nat}(h:GeX w g x r X)(hg:X.grownBy Y row)(hr:∀ q,row=some q->g+3<=q):GeX w g x r Y:=by
 obtain⟨h3,h4,h5⟩:=h;exact⟨h3.kept hg (fun e=>by have:=hr _ e.symm;omega),h4.kept hg (fun e=>by have:=hr _ e.symm;omega),h5.grown hg (by have:=h3.lt;omega) (fun k e=>by have:=hr k e;omega)⟩
def Blk2 (W:World)(g:Nat)(u:Pr):Prop:=W.heap[g]?=some (.cells #[.string (bb u.1),.string (bb u.2)] 69 (0,0))
theorem ytd (v:Value)(L:List Pr)(s:ByteArray)(x:List UInt8)(r:Bool)(w:World)(h:Hid (Prs w v L))(hL:L.length<=1000)(hr:Hid (yai L s.data.toList=(x,r))) :
    Calls Tryz.prog 92 #[v,.string s] w fun e w'=>e=.returned (.tuple #[.string (bb x),.bool r])/\Below w.heap.size w w':=by
 obtain⟨ao,cap,rfl,_,_,_⟩:=id h.out;obtain⟨g,hg⟩:∃ g,w.heap.size=g:=⟨_,rfl⟩
 have hP:∀ Y,Below g w Y->Prs Y (.slice ao L.length cap) L:=fun Y hY=>h.out.keep (by rw[hg];exact hY)
 have HPP:=Lh hP;clear hP;refine(callsIn_wide (n:=9)).1 ?_;refine callsIn_of_wp_marks func92 rfl trivial ?_ rfl;simp only[ntmps92,List.size_toArray,List.length_cons,List.length_nil,Nat.reduceAdd,Nat.reduceSub,Array.replicate_succ,Array.replicate_zero,List.push_toArray,List.append_toArray,List.nil_append,List.cons_append]
 gi_wp2
 have bK:=((Boxed.new w 9 (.string s)).alloc (.cells #[.string ⟨#[]⟩] 9)).alloc (.cells #[.bool false] 4);have bV:=(Boxed.new (w.alloc (.cells #[.string s] 9)) 9 (.string ⟨#[]⟩)).alloc (.cells #[.bool false] 4);have bF:=Boxed.new ((w.alloc (.cells #[.string s] 9)).alloc (.cells #[.string ⟨#[]⟩] 9)) 4 (.bool false);have hB0:=al3 w (.cells #[.string s] 9) (.cells #[.string ⟨#[]⟩] 9) (.cells #[.bool false] 4);simp only[World.size_alloc] at bV bF;have hsz:(((w.alloc (.cells #[.string s] 9)).alloc (.cells #[.string ⟨#[]⟩] 9)).alloc (.cells #[.bool false] 4)).heap.size=w.heap.size+3:=by simp
 generalize ((w.alloc (.cells #[.string s] 9)).alloc (.cells #[.string ⟨#[]⟩] 9)).alloc (.cells #[.bool false] 4)=w0 at bK bV bF hB0 hsz |-;rw[hg] at bK bV bF hB0 hsz;refine⟨trivial,?_⟩;refine(callsIn_wide.2 (ytc _ _ _ w0)).mono ?_;rintro e W0' ⟨rfl,rfl⟩;have bS:=Boxed.new w0 65 (.slice ao L.length cap);have bK1:=bK.alloc (.cells #[.slice ao L.length cap] 65);have bV1:=bV.alloc (.cells #[.slice ao L.length cap] 65);have bF1:=bF.alloc (.cells #[.slice ao L.length cap] 65);have hB1:Below g w (w0.alloc (.cells #[.slice ao L.length cap] 65)):=hB0.trans ((al1 w0 _).mono (by omega));have hz1:(w0.alloc (.cells #[.slice ao L.length cap] 65)).heap.size=g+3+1:=by simp[hsz]
 simp only[hsz] at bS |-;generalize w0.alloc (.cells #[.slice ao L.length cap] 65)=W0 at bS bK1 bV1 bF1 hB1 hz1 |-;clear bK bV bF hB0 hsz
 gi_wp2
 refine yro rfl (enters_of func165 (by kernel_rfl) rfl) (ytb (.slice ao L.length cap) L (by omega) (g+1) g (g+3) W0 (by omega) (fun Y hY=>HPP.out Y (hB1.trans hY)) rfl bS) (fun r e=>by cases e) (by omega) (by omega) (fun _=>rfl)
  (GeI w g s L x r) (fun _=>GeX w g x r) (fun pre X Y row h hg' hr'=>h.step hg' (fun q e=>by rcases hr' q e with e | e;cases e;omega)) (fun pre X Y row h hg' hr'=>h.step hg' (fun q e=>by have:=hr' q e;omega))
  ⟨by rw[List.length_nil,Nat.sub_zero,List.take_length];exact hr.out,bK1,bV1,bF1,hB1⟩
  (fun y a' W=>∃ Bx,W0.heap.size+2<=Bx/\Blk2 W Bx y.2/\a'={ tmps:=#[.slice ao L.length cap,.string s,undef,.pointer (some ⟨g,0,none⟩),.pointer (some ⟨g+1,0,none⟩),.pointer (some ⟨g+1+1,0,none⟩),undef,.pointer (some ⟨Bx,0,none⟩),.slice ao L.length cap,.func (.func 165) #[] #[.pointer (some ⟨g+3,0,none⟩)],.int .i64 y.1,.agg #[.string (bb y.2.1),.string (bb y.2.2)],undef,undef,undef,undef,undef,undef],defers:=[] })
  (fun y a' X Y h hg'=>by
   obtain⟨Bx,h1,h2,h3⟩:=h
   exact⟨Bx,h1,(hg'.block Bx (Array.getElem?_eq_some_iff.1 h2).1 (fun e=>by cases e;omega)).trans h2,h3⟩) ?assign ?body ?done ?stop
 case assign =>
  rintro k l pre y W K hI hz hK;dsimp only[bkV]
  gi_wp2
  exact hK _ _ (Kp3.of (by omega) (by omega) (by omega) (al1 _ _)) (hI.step (World.grownBy_alloc W _ none) (fun q e=>by cases e)) ⟨W.heap.size,by omega,heap_alloc_new W _,rfl⟩
 case body =>
  rintro k l pre y a' W ⟨hi,bK,bV,bF,hB⟩ hz ⟨Bx,hBx,bX,rfl⟩ hpre;obtain⟨hlt,rfl⟩:=yrF hpre;have e1:L.length-pre.length=(L.length-1-pre.length)+1:=by omega
  have hjl:L.length-1-pre.length<L.length:=by omega
  have hn:L.length-(pre.length+1)=L.length-1-pre.length:=by omega
  rw[e1,List.take_succ_eq_append_getElem hjl,yeL] at hi;simp only at bX hi;obtain⟨u,hu⟩:∃ u,L[L.length-1-pre.length]=u:=⟨_,rfl⟩
  simp only[hu] at bX hi |-;obtain⟨u1,u2⟩:=u;simp only at bX hi |-;obtain⟨o0,o1,_,_⟩:=yrE bX;have cK:=bK.cell;have cV:=bV.cell;have fV:=bV.frozen;obtain⟨Y,hY⟩:∃ Y,bb u1=Y:=⟨_,rfl⟩
  rw[hY] at o0;have hY2:Y.data.toList=u1:=by rw[<- hY]
  clear hu e1 bX
  by_cases hxy:u1=s.data.toList
  ·have b1:(Y.toList==s.toList)=true:=by rw[ByteArray.toList_eq,ByteArray.toList_eq,hY2,beq_iff_eq];exact hxy
   rw[if_pos hxy] at hi;obtain⟨rfl,rfl⟩:=Prod.mk.inj hi;have cF:=(bF.other (B':=g+1) (by omega) (.string (bb u2))).cell;have fF:=(bF.other (B':=g+1) (by omega) (.string (bb u2))).frozen;clear hi hY hY2 hxy hn hjl
   gi_wp2
   have k3:Kp3 g (g+1+2) W0.heap.size W ((W.setCell ⟨g+1,0,none⟩ (.string (bb u2))).setCell ⟨g+1+1,0,none⟩ (.bool true)) :=
    (Kp3.set (b:=g+1) (o:=0) (v:=.string (bb u2)) (by omega) (by omega) (by omega) (by omega)).t (Kp3.set (b:=g+1+1) (o:=0) (v:=.bool true) (by omega) (by omega) (by omega) (by omega))
   rw[hz1] at k3;exact⟨k3.2.2.1,k3.2.2.2,(bV.set _).other (by omega) _,(bF.other (by omega) _).set _,hB.trans k3.1⟩
  ·have b1:(Y.toList==s.toList)=false:=by rw[ByteArray.toList_eq,ByteArray.toList_eq,hY2,beq_eq_false_iff_ne];exact hxy
   rw[if_neg hxy] at hi;have HF:Hid (yai (L.take (L.length-(pre.length+1))) s.data.toList=(x,r)):=Lh (by rw[hn];exact hi);clear hi hY hY2 hxy hn hjl
   gi_wp2
   exact⟨⟨Below.refl _ _,fun _ _ _=>rfl,rfl,rfl⟩,by rw[List.length_append];exact HF.out,bK,bV,bF,hB⟩
 case done =>
  rintro W ⟨hi,bK,bV,bF,hB⟩ hK;rw[yic,Nat.sub_self] at hi;obtain⟨rfl,rfl⟩:=Prod.mk.inj hi;have cV:=bV.cell;have fV:=bV.frozen;have cF:=(bF.other (B':=g+1) (by omega) (.string ⟨#[]⟩)).cell;have fF:=(bF.other (B':=g+1) (by omega) (.string ⟨#[]⟩)).frozen;have hK1:=((KeepsOthers.setCell W ⟨g+1,0,none⟩ (.string ⟨#[]⟩)).trans (KeepsOthers.setCell _ ⟨g+1+1,0,none⟩ (.bool false))).same W0.heap.size _ hK rfl;have bV2:=(((bV.set (.string ⟨#[]⟩)).other (B':=g+1+1) (by omega) (.bool false)).kept (grownBy_putObj' _ W0.heap.size (.deferred none)) (by simp;omega));have bF2:=(((bF.other (B':=g+1) (by omega) (.string ⟨#[]⟩)).set (.bool false)).kept (grownBy_putObj' _ W0.heap.size (.deferred none)) (by simp;omega));have hB2:=(((hB.setCell (p:=⟨g+1,0,none⟩) (by simp) (.string ⟨#[]⟩)).setCell (p:=⟨g+1+1,0,none⟩) (by simp;omega) (.bool false)).grown (grownBy_putObj' _ W0.heap.size (.deferred none)) (by have:=bF2.lt;simp at this |-;omega) (fun k e=>by cases e;omega));have cV2:=bV2.cell;have cF2:=bF2.cell;have HB2:=Lh hB2;clear hB2 hB hi
  gi_wp2
  refine⟨by simp,.inl ⟨_,_,rfl,run_takeDeferred hK1,?_⟩⟩;exact⟨.tuple #[.string ⟨#[]⟩,.bool false],by simp[results,results92,go_sem,cV2,cF2],rfl,by rw[hg];exact HB2.out⟩
 case stop =>
  rintro pre W hpre ⟨bV,bF,hB⟩ hK;have bV2:=bV.kept (grownBy_putObj' _ W0.heap.size (.deferred none)) (by simp;omega);have bF2:=bF.kept (grownBy_putObj' _ W0.heap.size (.deferred none)) (by simp;omega);have hB2:=hB.grown (grownBy_putObj' _ W0.heap.size (.deferred none)) (by have:=bV.lt;omega) (fun k e=>by cases e;omega);have cV2:=bV2.cell;have cF2:=bF2.cell;have HB2:=Lh hB2;clear hB2 hB
  gi_wp2
  refine⟨by simp,.inl ⟨_,_,rfl,run_takeDeferred hK,?_⟩⟩;exact⟨.tuple #[.string (bb x),.bool r],by simp[results,results92,go_sem,cV2,cF2],rfl,by rw[hg];exact HB2.out⟩
def ruU (x:Ru):Int:=if x.form=2 then 1 else if x.form=3 then 1000 else 0
def ruF (x:Ru):Value:=if x.form=1 then fTx else if x.form=4 then fPo else if x.form=5 then fMo else .nilFunc
def ruC (x:Ru):Value × Bool:=(RV (ruU x) x.low x.high x.normal (ruF x),decide (x.form≠0))
theorem yoS (k:Int)(c:List UInt8):rvK k c=ruC (yo k c):=by
 unfold rvK yo
 by_cases h1:k=1
 ·rw[if_pos h1,if_pos h1]
  unfold rvN ruN
  by_cases a:c=yE
  ·rw[if_pos a,if_pos a];rfl
  rw[if_neg a,if_neg a]
  by_cases a:c=yao
  ·rw[if_pos a,if_pos a];rfl
  rw[if_neg a,if_neg a]
  by_cases a:c=yQ
  ·rw[if_pos a,if_pos a];rfl
  rw[if_neg a,if_neg a]
  by_cases a:c=yY
  ·rw[if_pos a,if_pos a];rfl
  rw[if_neg a,if_neg a];rfl
 rw[if_neg h1,if_neg h1]
 by_cases h2:k=2
 ·rw[if_pos h2,if_pos h2]
  unfold rvE ruE
  by_cases a:c=yE
  ·rw[if_pos a,if_pos a];rfl
  rw[if_neg a,if_neg a]
  by_cases a:c=yV
  ·rw[if_pos a,if_pos a];rfl
  rw[if_neg a,if_neg a]
  by_cases a:c=yej
  ·rw[if_pos a,if_pos a];rfl
  rw[if_neg a,if_neg a];rfl
 rw[if_neg h2,if_neg h2]
 by_cases h4:k=4
 ·rw[if_pos h4,if_pos h4]
  unfold rvS ruS
  by_cases a:c=ycv
  ·rw[if_pos a,if_pos a];rfl
  rw[if_neg a,if_neg a]
  by_cases a:c=yam
  ·rw[if_pos a,if_pos a];rfl
  rw[if_neg a,if_neg a]
  by_cases a:c=yan
  ·rw[if_pos a,if_pos a];rfl
  rw[if_neg a,if_neg a]
  by_cases a:c=yaM
  ·rw[if_pos a,if_pos a];rfl
  rw[if_neg a,if_neg a]
  by_cases a:c=yaN
  ·rw[if_pos a,if_pos a];rfl
  rw[if_neg a,if_neg a];rfl
 rw[if_neg h4,if_neg h4];rfl
theorem yte (x:Ru):ruU x=0\/ruU x=1\/ruU x=1000:=by
 unfold ruU
 repeat' split
 all_goals simp
theorem ytf (x:Ru):ruF x=.nilFunc\/ruF x=fTx\/ruF x=fPo\/ruF x=fMo:=by
 unfold ruF
 repeat' split
 all_goals simp
theorem ykW (k:Int)(c:List UInt8)(h2:(yo k c).form≠2)(h3:(yo k c).form≠3):(yo k c).low=0/\(yo k c).high=0/\(yo k c).normal=0:=by
 revert h2 h3
 unfold yo
 split
 ·unfold ruN
  repeat' split
  all_goals simp
 ·split
  ·unfold ruE
   repeat' split
   all_goals simp
  ·split
   ·unfold ruS
    repeat' split
    all_goals simp
   ·simp
theorem ykX {k:Int}(c:List UInt8)(h:yaY k=false):yo k c=⟨0,0,0,0⟩:=by
 unfold yaY at h;simp only[Bool.or_eq_false_iff,decide_eq_false_iff_not] at h;unfold yo;rw[if_neg h.1.1,if_neg h.1.2,if_neg h.2]
theorem yoT (k:Int)(c s:List UInt8):yjN (ruU (yo k c)) (yo k c).low (yo k c).high s=if (yo k c).form≠2/\(yo k c).form≠3 then (0,false) else yeM (yo k c) s:=by
 generalize yo k c=x;unfold yjN yeM ruU
 by_cases h2:x.form=2
 ·rw[if_pos h2,if_neg (show ¬ (x.form≠2/\x.form≠3) from fun e=>e.1 h2)]
  by_cases h0:(prL s).2≠0
  ·rw[if_pos (Or.inl h0),if_pos h0]
  ·rw[if_neg (show ¬ ((prL s).2≠0\/(1:Int)=0\/(prL s).1.tmod 1≠0) by rintro (e | e | e);exact h0 e;exact absurd e (by decide);exact e (Int.tmod_one _)),if_neg h0,if_neg (show ¬ x.form=3 by omega),Int.tdiv_one]
 ·rw[if_neg h2]
  by_cases h3:x.form=3
  ·rw[if_pos h3,if_neg (show ¬ (x.form≠2/\x.form≠3) from fun e=>e.2 h3)]
   by_cases h0:(prL s).2≠0
   ·rw[if_pos (Or.inl h0),if_pos h0]
   ·rw[if_neg h0,if_pos h3]
    by_cases h4:(prL s).1.tmod 1000≠0
    ·rw[if_pos (Or.inr (Or.inr h4)),if_pos h4]
    ·rw[if_neg (show ¬ ((prL s).2≠0\/(1000:Int)=0\/(prL s).1.tmod 1000≠0) by rintro (e | e | e);exact h0 e;exact absurd e (by decide);exact h4 e),if_neg h4]
  ·rw[if_neg h3,if_pos (show x.form≠2/\x.form≠3 from ⟨h2,h3⟩),if_pos (Or.inr (Or.inl rfl))]
def RuV (w:World)(v:Value)(k:Int):Prop:=(yaY k=true/\∃ b,v=.map (some b)/\RuM w b k)\/(yaY k=false/\v=.map none)
theorem RuV.look {w:World}{v:Value}{k:Int}(h:RuV w v k)(s:ByteArray)(hs:s.size<=maxLen):(Instr.lookup 172 v (.string s) false).run Tryz.prog w=.ok (ruC (yo k s.data.toList)).1 w:=by
 rcases h with ⟨_,b,rfl,h⟩ | ⟨h,rfl⟩
 ·rw[<- yoS];exact h.look s hs
 ·rw[ykX _ h]
  have:=Maps.look_nil (w:=w) false (Maps.string_keyed underlying9) underlying172 (ylY w) (WideMaps.keyOf_string_mk underlying9 hs);exact this
theorem yoU (k:Int)(w:World):Calls Tryz.prog 96 #[.int .i64 k] w fun e w'=>(∃ v,e=.returned v/\RuV w' v k)/\Below w.heap.size w w':=by
 cases h:yaY k with
 | true=>exact(ylZ k w h).mono fun _ _ ⟨⟨b,h1,h2⟩,h3⟩=>⟨⟨_,h1,Or.inl ⟨h,b,rfl,h2⟩⟩,h3⟩
 | false=>exact(yom k w h).mono fun _ _ ⟨h1,h3⟩=>⟨⟨_,h1,Or.inr ⟨h,rfl⟩⟩,h3⟩
def Own5 (W:World)(g:Nat)(u lo hi us:Int)(f:Value):Prop:=W.cell? ⟨g,0,none⟩=some (.int .i64 u)/\W.cell? ⟨g,1,none⟩=some (.int .i64 lo)/\W.cell? ⟨g,2,none⟩=some (.int .i64 hi)/\W.cell? ⟨g,3,none⟩=some (.int .i64 us)/\W.cell? ⟨g,4,none⟩=some f
theorem yrI {W:World}{g:Nat}{u lo hi us:Int}{f:Value}{t:TypeId}(h:W.heap[g]?=some (.cells #[.int .i64 u,.int .i64 lo,.int .i64 hi,.int .i64 us,f] t (0,0))):Own5 W g u lo hi us f:=by
 refine⟨?_,?_,?_,?_,?_⟩ <;> simp[World.cell?,h]
theorem Own5.keep {w1 w2:World}{b:Nat}{u lo hi us:Int}{f:Value}(h:Own5 w1 b u lo hi us f)(h2:Below w1.heap.size w1 w2):Own5 w2 b u lo hi us f :=
 ⟨ye h2 h.1,ye h2 h.2.1,ye h2 h.2.2.1,ye h2 h.2.2.2.1,ye h2 h.2.2.2.2⟩
theorem yj0:∀ {l:List Pr} {k q:List UInt8},yai l k=(q,true)->∃ a∈l,a.2=q
 | [],k,q,h=>by unfold yai at h;cases h
 | a::t,k,q,h=>by
  unfold yai at h
  split at h
  ·obtain⟨b,hb,e⟩:=yj0 h
   exact⟨b,List.mem_cons_of_mem _ hb,e⟩
  ·split at h
   ·cases h;exact⟨a,List.mem_cons_self,rfl⟩
   ·cases h
theorem yoV {w:World}{v:Value}{l:List Pr}(h:Prs w v l):Bnd l:=by
 obtain⟨ao,cap,rfl,h1,h2,h3⟩:=h;intro r hr;obtain⟨i,hi,rfl⟩:=List.mem_iff_getElem.1 hr;obtain⟨A,_,h4⟩:=h3 (by omega);exact(h4 i hi).2.2
theorem num_C (k:Int)(l:List Pr)(c:List UInt8):ycA k l c=if (yai l c).2=false then (yo k c).normal else if (yjN (ruU (yo k c)) (yo k c).low (yo k c).high (yai l c).1).2 then (yjN (ruU (yo k c)) (yo k c).low (yo k c).high (yai l c).1).1 else (yo k c).normal:=by
 rw[yoT];unfold ycA
 by_cases h:(yo k c).form≠2/\(yo k c).form≠3
 ·rw[if_pos h,if_pos h,(ykW k c h.1 h.2).2.2]
  split <;> simp
 ·rw[if_neg h,if_neg h]
theorem yoW (k:Int)(v:Value)(l:List Pr)(s:ByteArray)(n:Int)(w:World)(h:Hid (Prs w v l))(hl:l.length<=1000)(hs:s.size<=maxLen)(hn:Hid (ycA k l s.data.toList=n)) :
    Calls Tryz.prog 47 #[.int .i64 k,v,.string s] w fun e w'=>e=.returned (.int .i64 n)/\Below w.heap.size w w':=by
 have hb:=yoV h.out;obtain⟨ao,cap,rfl,_,_,_⟩:=id h.out;have hn2:=hn.out;rw[num_C] at hn2;have hu:=yte (yo k s.data.toList);have hf:=ytf (yo k s.data.toList);have HRUN:Hid (∀ W rv,RuV W rv k->(Instr.lookup 172 rv (.string s) false).run Tryz.prog W=.ok (ruC (yo k s.data.toList)).1 W):=Lh (fun W rv hr=>hr.look s hs);unfold ruC RV at HRUN;generalize yo k s.data.toList=x at hn2 hu hf HRUN;obtain⟨u,hU⟩:∃ u,ruU x=u:=⟨_,rfl⟩
 obtain⟨f,hF⟩:∃ f,ruF x=f:=⟨_,rfl⟩
 rw[hU] at hn2 hu HRUN;rw[hF] at hf HRUN;obtain⟨q,r,hg⟩:∃ q r,yai l s.data.toList=(q,r):=⟨_,_,rfl⟩
 have HG:=Lh hg
 have hq:r=true->(bb q).size<=maxLen:=by
  intro hr;subst hr;obtain⟨a,ha,hk⟩:=yj0 hg;rw[yqA,<- hk];exact(hb a ha).2
 rw[hg] at hn2;simp only at hn2;obtain⟨m,ok,hm⟩:∃ m ok,yjN u x.low x.high q=(m,ok):=⟨_,_,rfl⟩
 have HM:Hid (yjN u x.low x.high (bb q).data.toList=(m,ok)):=Lh hm;rw[hm] at hn2;simp only at hn2;obtain⟨f0,lo,hi,us⟩:=x;simp only at hn2 HM HRUN;have HN:=Lh hn2;have HU:=Lh hu;have HQ:=Lh hq;clear hn2 hu hg hm hU hF hb hn hq;simp only[fTx,fPo,fMo] at hf
 rcases hf with rfl | rfl | rfl | rfl
 all_goals
  go_enter func47,ntmps47;go_wp2_with fail
  refine(yoU k w).mono ?_;rintro e w1 ⟨⟨rv,rfl,hrv⟩,hb1⟩;have hrun:=HRUN.out w1 rv hrv;have HRV:=Lh hrv;have h1:=Lh (h.out.keep hb1);have HB1:=Lh hb1;clear hrv hb1;go_wp2_with fail
  generalize hw2:w1.alloc _=w2;have o5:Own5 w2 w1.heap.size u lo hi us _:=yrI (by rw[<- hw2];exact heap_alloc_new w1 _);have hb2:Below w1.heap.size w1 w2:=by rw[<- hw2];exact al1 ..
  have h2:=Lh (h1.out.keep hb2);have HB2:=Lh (ya hb2 HB1.out);clear hw2 hb2 hrun h1 HB1 HRV;refine(ytd _ l s q r w2 h2 hl HG).mono ?_;rintro e w3 ⟨rfl,hb3⟩;obtain⟨c0,c1,c2,c3,c4⟩:=o5.keep hb3;have HB3:=Lh (ya hb3 HB2.out);clear hb3 HB2 h2 o5;cases r
  ·obtain rfl:us=n:=by have:=HN.out;simpa using this
   go_wp2;go_ret;exact⟨rfl,HB3.out⟩
  ·go_wp2_with fail
   refine(yl1 u lo hi us _ (bb q) m ok w3 (by simpa using HQ.out) HU.out HM).mono ?_;rintro e w4 ⟨rfl,hb4⟩;have d3:=ye hb4 c3;have HB4:=Lh (ya hb4 HB3.out);clear hb4 HB3 c0 c1 c2 c3 c4;cases ok
   ·obtain rfl:us=n:=by have:=HN.out;simpa using this
    go_wp2;go_ret;exact⟨rfl,HB4.out⟩
   ·obtain rfl:m=n:=by have:=HN.out;simpa using this
    go_wp2;go_ret;exact⟨rfl,HB4.out⟩
end Go.Proofs.YtgmidodmmlmmeaaGreatDoor.att
namespace Go.Proofs.YtgmidodmmlmmeaaGreatDoor.att
open Go.RowKit Go.Maps Go.Sort Go.Shelf lex tre _root_.Go.Proofs.Tryz
def lays_grow_ren:Go.Shelf.Ren:=⟨fun | 4=>256 | n=>n,fun | 0=>0 | 3=>3 | 4=>4 | 9=>9 | 20=>20 | 22=>65 | 25=>69 | n=>n,fun | n=>n⟩
theorem lays_grow:Go.Proofs.Lays8.n4 Tryz.prog lays_grow_ren:={
 mixed:=by kernel_rfl
 f4:=⟨Tryz.f256.name,by decide,func256.trans (congrArg some (by kernel_rfl))⟩
 t0:=underlying0
 a0:=Tryz.isAgg0
 z0:=Tryz.sizeOf0
 v0:=Tryz.zeroValue0
 t3:=underlying3
 a3:=Tryz.isAgg3
 z3:=Tryz.sizeOf3
 v3:=Tryz.zeroValue3
 t4:=underlying4
 a4:=Tryz.isAgg4
 z4:=Tryz.sizeOf4
 v4:=Tryz.zeroValue4
 t9:=underlying9
 a9:=Tryz.isAgg9
 z9:=Tryz.sizeOf9
 v9:=Tryz.zeroValue9
 t20:=underlying20
 a20:=Tryz.isAgg20
 z20:=Tryz.sizeOf20
 v20:=Tryz.zeroValue20
 t22:=underlying65
 a22:=Tryz.isAgg65
 z22:=Tryz.sizeOf65
 v22:=Tryz.zeroValue65 }
end Go.Proofs.YtgmidodmmlmmeaaGreatDoor.att
namespace Go.Proofs.YtgmidodmmlmmeaaGreatDoor.att
open Go.RowKit lex tre
def ynF (w:World)(B:Nat)(v:Value)(l:List Pr):Prop:=w.ownsRow B 69 2 v l.length (l.flatMap prC)
attribute [local go_sem] Oper.semAt_some
attribute [local go_sem] Oper.semAt_some
end Go.Proofs.YtgmidodmmlmmeaaGreatDoor.att
