/-
  Contracts and plain facts of the layers below; conditions as each theorem states them.
-/
import Derived.RangeFuncNested
import Derived.RangeFuncBound
import Derived.Test.YtgmidodmmlmmeaaGreatDoorMca
import Derived.Test.YtgmidodmmlmmeaaGreatDoorMad
import Derived.Test.YtgmidodmmlmmeaaGreatDoorMtb
set_option maxHeartbeats 8000000
set_option maxRecDepth 100000
namespace Go.Proofs.YtgmidodmmlmmeaaGreatDoor.att
open Go.RowKit
def Kp3 (m c B:Nat)(X Y:World):Prop:=Below m X Y/\(∀ k,c<=k->k<c+3->Y.heap[k]?=X.heap[k]?)/\Y.heap[B]?=X.heap[B]?/\Y.heap[B+1]?=X.heap[B+1]?
theorem Kp3.t {m c B:Nat}{X Y Z:World}(h:Kp3 m c B X Y)(k:Kp3 m c B Y Z):Kp3 m c B X Z:=⟨h.1.trans k.1,fun i h1 h2=>(k.2.1 i h1 h2).trans (h.2.1 i h1 h2),k.2.2.1.trans h.2.2.1,k.2.2.2.trans h.2.2.2⟩
theorem Kp3.of {m c B:Nat}{X Y:World}(hm:m<=X.heap.size)(hc:c+3<=X.heap.size)(hB:B+1<X.heap.size)(h:Below X.heap.size X Y):Kp3 m c B X Y :=
 ⟨h.mono hm,fun k _ hk=>h.block k (by omega),h.block B (by omega),h.block (B+1) hB⟩
theorem Kp3.set {m c B b o:Nat}{X:World}{v:Value}(hm:m<=b)(h1:b<c\/c+3<=b)(h2:b≠B)(h3:b≠B+1):Kp3 m c B X (X.setCell ⟨b,o,none⟩ v) :=
 ⟨(Below.refl m X).setCell (p:=⟨b,o,none⟩) hm v,fun k _ _=>Below.heap_setCell _ _ _ _ (by simp;omega),Below.heap_setCell _ _ _ _ (fun e=>h2 e.symm),Below.heap_setCell _ _ _ _ (fun e=>h3 e.symm)⟩
def KpC (m c:Nat)(X Y:World):Prop:=Below m X Y/\∀ k,c<=k->k<c+3->Y.heap[k]?=X.heap[k]?
theorem yos {X Y:World}(h:Below X.heap.size X Y):X.grownBy Y none:=⟨h.os,h.tape,h.output,h.size,fun k hk _=>h.block k hk⟩
def SeqC {α:Type}(P:Program)(g:Nat)(lb:Array Value)(encs:α->Array Value)(m c:Nat)(tb:Option Nat)(xs:List α)(w:World):Prop :=
 ∀ (n l:Nat) (J Jx:List α->World->Prop) (W:World),Below w.heap.size w W ->
  (∀ pre X Y row,J pre X->X.grownBy Y row->(∀ r,row=some r->tb=some r)->J pre Y) ->
  (∀ k pre x X,J pre X->pre++[x] <+: xs->YieldAt Fence.wide k P l (encs x) X fun e Y =>
   (e=.returned (.bool true)/\J (pre++[x]) Y/\KpC m c X Y)\/(e=.returned (.bool false)/\Jx (pre++[x]) Y)) ->
  J [] W ->
  CallsIn Fence.wide n P g (#[.func (.yield l) #[] #[]]++lb) W fun e W'=>(∃ v,e=.returned v)/\(J xs W'\/∃ pre,pre <+: xs/\Jx pre W')
def postC {α:Type}(m c B:Nat)(I Ix:List α->World->Prop)(xs:List α)(W:World):Exit->Act->World->Prop
 | .normal,_,W'=>Kp3 m c B W W'/\I xs W'
 | .ret,_,W'=>W'.heap[B]?=W.heap[B]?/\W'.heap[B+1]?=W.heap[B+1]?/\Ix xs W'
 | _,_,_=>False
theorem yro {P:Program}{n:Nat}{α:Type}{g:Operand}{ps:Array Tmp}{assign body:Code}{Q:Exit->Act->World->Prop}{a:Act}{w:World}{gf:Nat}{lb:Array Value}(hg:a.eval g=.func (.func gf) #[] lb)
    (eg:∀ args w,(callFunc gf args).run P w=.ok (.enter gf args) w) {encs:α->Array Value} {m c:Nat} {tb:Option Nat} {xs:List α} (hseq:SeqC P gf lb encs m c tb xs w) (htb:∀ r,tb=some r->r<w.heap.size) (hm:m<=w.heap.size) (hc:c+3<=w.heap.size) (hps:∀ x,(encs x).size=ps.size)
    (I Ix:List α->World->Prop) (hI:∀ pre X Y row,I pre X->X.grownBy Y row->(∀ r,row=some r->tb=some r\/r=w.heap.size+1)->I pre Y)
    (hIx:∀ pre X Y row,Ix pre X->X.grownBy Y row->(∀ r,row=some r->r=w.heap.size+1)->Ix pre Y) (h0:I [] w) (Ax:α->Act->World->Prop)
    (hAx:∀ x a' X Y,Ax x a' X->X.grownBy Y (some (w.heap.size+1))->Ax x a' Y)
    (hassign:∀ (k l:Nat) (pre:List α) (x:α) (W:World) (K:Act->World->Prop),I pre W->w.heap.size+2<=W.heap.size->(∀ a' W',Kp3 m c w.heap.size W W'->I pre W'->Ax x a' W'->K a' W') ->
     assign.wpIn (Fence.wide.inRound l) k P (Exit.then K (fun _ _ _=>False)) { tmps:=(ps.zip (encs x)).foldl (fun t (p,v)=>t.setIfInBounds p v) a.tmps,defers:=[] } W)
    (hbody:∀ (k l:Nat) (pre:List α) (x:α) (a':Act) (W:World),I pre W->w.heap.size+2<=W.heap.size->Ax x a' W->pre++[x] <+: xs ->
     body.wpIn (Fence.wide.inRound l) k P (postC m c w.heap.size I Ix (pre++[x]) W) a' W)
    (hdone:∀ (W:World),I xs W->W.heap[w.heap.size]?=some (.deferred (some []))->Q .normal { a with defers:={ target:=.collected w.heap.size,args:=#[] } :: a.defers } W)
    (hstop:∀ (pre:List α) (W:World),pre <+: xs->Ix pre W->W.heap[w.heap.size]?=some (.deferred (some []))->Code.ret.wpIn Fence.wide n P Q { a with defers:={ target:=.collected w.heap.size,args:=#[] } :: a.defers } W) :
    (Code.rangeFunc g ps assign body).wpIn Fence.wide n P Q a w:=by
 refine wpIn_rangeFunc fun fn hfn=>?_
 obtain⟨rec,hrec⟩:∃ rec:LoopState->Option Code->Loop,rec=fun st pe=>{ state:=st,pending:=pe,fn,tmps:=a.tmps,params:=ps,assign,body,defers:=w.heap.size }:=⟨_,rfl⟩
 obtain⟨W1,hW1⟩:∃ W1,(w.alloc (.deferred (some []))).alloc (.loop (rec .ready none))=W1:=⟨_,rfl⟩
 have hb1:Below w.heap.size w W1:=by rw[<- hW1];exact al2 ..
 have hz1:W1.heap.size=w.heap.size+2:=by rw[<- hW1];simp
 have hL1:W1.heap[w.heap.size+1]?=some (.loop (rec .ready none)):=by
  rw[<- hW1];have:=World.alloc_heap_new (w.alloc (.deferred (some []))) (.loop (rec .ready none));rwa [World.size_alloc] at this
 have hK1:W1.heap[w.heap.size]?=some (.deferred (some [])):=by
  rw[<- hW1];exact(Below.heap_alloc _ _ _ (by simp)).trans (World.alloc_heap_new w _)
 have hI1:I [] W1:=hI _ _ _ none h0 (yos hb1) (fun r e=>by cases e)
 refine⟨w.heap.size+1,[{ target:=.collected w.heap.size,args:=#[] }],W1,{ target:=.fn (.func gf) lb,args:=#[.func (.yield (w.heap.size+1)) #[] #[]] },W1,gf,
  #[.func (.yield (w.heap.size + 1)) #[] #[]] ++ lb, W1, ?_, ?_, fun _ _ => trivial, ?_, fun h => (by cases h), ?_⟩
 ·rw[<- hW1,hrec];exact run_enterLoop_outer _ _ _ _ _
 ·simp only[resolve,hg];simp[go_sem]
 ·simp[invoke,go_sem,eg]
 obtain⟨J,hJ⟩:∃ J:List α->World->Prop,J=fun pre X=>I pre X/\X.heap[w.heap.size+1]?=some (.loop (rec .ready none))/\X.heap[w.heap.size]?=some (.deferred (some [])):=⟨_,rfl⟩
 obtain⟨Jx,hJx⟩:∃ Jx:List α->World->Prop,Jx=fun pre X=>Ix pre X/\X.heap[w.heap.size+1]?=some (.loop (rec .done (some .ret)))/\X.heap[w.heap.size]?=some (.deferred (some [])):=⟨_,rfl⟩
 refine(hseq (n-1) (w.heap.size+1) J Jx W1 hb1 ?_ ?_ (by rw[hJ];exact⟨hI1,hL1,hK1⟩)).mono ?_
 ·intro pre X Y row h hgr hr
  rw[hJ] at h |-;have hlt:w.heap.size+1<X.heap.size:=(Array.getElem?_eq_some_iff.1 h.2.1).1
  exact⟨hI pre X Y row h.1 hgr (fun r e=>Or.inl (hr r e)),
   (hgr.block _ (by omega) (fun e=>by have:=htb _ (hr _ e.symm);omega)).trans h.2.1,(hgr.block _ (by omega) (fun e=>by have:=htb _ (hr _ e.symm);omega)).trans h.2.2⟩
 · -- a round
  intro k pre x X h hlen;rw[hJ] at h;obtain⟨hi,hl,hd⟩:=h;have hlt:w.heap.size+1<X.heap.size:=(Array.getElem?_eq_some_iff.1 hl).1;have hy:=run_yield (P:=P) (args:=encs x) hl (by rw[hrec];exact hps x);rw[hrec] at hy;refine⟨fn,_,assign,body,hy,roundIn_of_wpIn hfn (hassign k _ pre x X _ hi (by omega) fun a' X2 hk2 hi2 ha2=>?_)⟩;have hl2:=hk2.2.2.2.trans hl;have hd2:=hk2.2.2.1.trans hd;have hz2:=hk2.1.size;obtain⟨X3,hX3⟩:∃ X3,X3=X2.putObj (w.heap.size+1) (.loop { rec .ready none with state:=.busy }):=⟨_,rfl⟩
  have hbr:(Instr.beginRound (w.heap.size+1)).run P X2=.ok () X3:=by rw[hX3];exact run_beginRound hl2 (by rw[hrec])
  have hg3:X2.grownBy X3 (some (w.heap.size+1)):=by rw[hX3];exact grownBy_putObj' _ _ _
  have hl3:X3.heap[w.heap.size+1]?=some (.loop { rec .ready none with state:=.busy }):=by rw[hX3];exact World.putObj_heap_same (by omega)
  have hd3:X3.heap[w.heap.size]?=some (.deferred (some [])):=by rw[hX3];exact(World.putObj_heap_other (by omega)).trans hd2
  have hi3:I pre X3:=hI _ _ _ _ hi2 hg3 (fun r e=>by cases e;exact Or.inr rfl);have hk3:KpC m c X2 X3:=⟨(Below.refl m X2).grown hg3 (by omega) (fun k e=>by cases e;omega),fun i _ _=>hg3.block i (by omega) (fun e=>by cases e;omega)⟩;have ha3:Ax x a' X3:=hAx _ _ _ _ ha2 hg3;have hz3:=hk3.1.size;clear hX3;refine⟨_,hbr,?_⟩;refine wpIn_mono (hbody k _ pre x a' _ hi3 (by omega) ha3 hlen) ?_
  have fin:∀ (jump:Option Code) (X4:World),X4.heap[w.heap.size+1]?=X3.heap[w.heap.size+1]?->X4.heap[w.heap.size]?=X3.heap[w.heap.size]?->∃ X5,X4.grownBy X5 (some (w.heap.size+1)) /\
      (Instr.endRound (w.heap.size+1) jump).run P X4=.ok (.bool jump.isNone) X5/\X5.heap[w.heap.size+1]?=some (.loop (rec (if jump.isNone then .ready else .done) jump))/\X5.heap[w.heap.size]?=some (.deferred (some [])):=by
   intro jump X4 e1 e0;have hl4:=e1.trans hl3;have hlt4:=(Array.getElem?_eq_some_iff.1 hl4).1;have he:=run_endRound (P:=P) jump hl4;rw[hrec] at he;exact⟨_,grownBy_putObj' _ _ _,he,by rw[World.putObj_heap_same hlt4,hrec],(World.putObj_heap_other (by omega)).trans (e0.trans hd3)⟩
  intro e a4 X4 hp
  cases e with
  | normal =>
   obtain⟨hk4,hi4⟩:=hp;obtain⟨X5,hg5,he,hl5,hd5⟩:=fin none X4 hk4.2.2.2 hk4.2.2.1;have hz4:=hk4.1.size;have hi5:I (pre++[x]) X5:=hI _ _ _ _ hi4 hg5 (fun r e=>by cases e;exact Or.inr rfl);have hk5:KpC m c X4 X5:=⟨(Below.refl m X4).grown hg5 (by omega) (fun k e=>by cases e;omega),fun i _ _=>hg5.block i (by omega) (fun e=>by cases e;omega)⟩;refine⟨_,_,he,Or.inl ⟨rfl,?_,((hk2.1.trans hk3.1).trans hk4.1).trans hk5.1,fun i h1 h2=>(hk5.2 i h1 h2).trans ((hk4.2.1 i h1 h2).trans ((hk3.2 i h1 h2).trans (hk2.2.1 i h1 h2)))⟩⟩;rw[hJ];exact⟨hi5,hl5,hd5⟩
  | ret =>
   obtain⟨e0,e1,hi4⟩:=hp;obtain⟨X5,hg5,he,hl5,hd5⟩:=fin (some .ret) X4 e1 e0;refine⟨_,_,he,Or.inr ⟨rfl,?_⟩⟩;rw[hJx];exact⟨hIx _ _ _ _ hi4 hg5 (fun r e=>by cases e;rfl),hl5,hd5⟩
  | _=>exact hp.elim
 ·rintro e W2 ⟨⟨v,rfl⟩,h | ⟨pre,hpre,h⟩⟩
  ·rw[hJ] at h
   obtain⟨hi,hl,hd⟩:=h
   exact⟨none,_,by have:=run_endLoop (P:=P) hl (by rw[hrec];simp);rw[hrec] at this;exact this,
    hdone _ (hI _ _ _ _ hi (grownBy_putObj' _ _ _) (fun r e=>by cases e;exact Or.inr rfl)) ((World.putObj_heap_other (by omega)).trans hd)⟩
  ·rw[hJx] at h
   obtain⟨hi,hl,hd⟩:=h
   exact⟨some .ret,_,by have:=run_endLoop (P:=P) hl (by rw[hrec];simp);rw[hrec] at this;exact this,
    hstop pre _ hpre (hIx _ _ _ _ hi (grownBy_putObj' _ _ _) (fun r e=>by cases e;rfl)) ((World.putObj_heap_other (by omega)).trans hd)⟩
end Go.Proofs.YtgmidodmmlmmeaaGreatDoor.att
namespace Go.Proofs.YtgmidodmmlmmeaaGreatDoor.att
open Go.RowKit lex tre _root_.Go.Proofs.Tryz
theorem ydy (f lo hi no:Int)(s:ByteArray)(n:Int)(b:Bool)(w:World)(hs:s.size<=20000)(h:Hid (yeM ⟨f,lo,hi,no⟩ s.data.toList=(n,b))) :
    Calls Tryz.prog 173 #[.agg #[.int .i64 f,.int .i64 lo,.int .i64 hi,.int .i64 no],.string s] w fun e w'=>e=.returned (.tuple #[.int .i64 n,.bool b])/\Below w.heap.size w w':=by
 have hr:=h.out;clear h;unfold yeM at hr;have hrg:=ydm s.data.toList;obtain⟨pn,pe,hpe⟩:∃ a c,prL s.data.toList=(a,c):=⟨_,_,rfl⟩
 have HP:Hid (yas s.data.toList=.tuple #[.int .i64 pn,.int .i64 pe]):=Lh (by rw[ybY,hpe]);rw[hpe] at hr hrg;simp only at hr hrg;clear hpe
 by_cases h0:pe=0
 case neg =>
  rw[if_pos h0] at hr;cases hr
  have b0:(pe != 0)=true:=by rw[bne_iff_ne];exact h0
  clear hrg h0;go_enter func173,ntmps173;go_wp2_with fail
  refine(yaH _ _ _ hs HP).mono ?_;rintro e w1 ⟨rfl,rfl⟩;go_wp2
  go_ret2
  exact⟨rfl,al1 ..⟩
 rw[if_neg (fun e=>e h0)] at hr;have hg:=hrg h0;subst h0;clear hrg
 by_cases h3:f=3
 case neg =>
  rw[if_neg h3] at hr;have e1:=(Prod.mk.inj hr).1;have e2:=(Prod.mk.inj hr).2;subst e1;subst e2;clear hr;have b3:(f==3)=false:=by rw[beq_eq_false_iff_ne];exact h3
  obtain⟨q1,hq1⟩:∃ q,decide (lo<=pn)=q:=⟨_,rfl⟩
  obtain⟨q2,hq2⟩:∃ q,decide (pn<=hi)=q:=⟨_,rfl⟩
  rw[hq1,hq2];clear h3 hg;cases q1
  ·go_enter func173,ntmps173
   go_wp2_with fail
   refine(yaH _ _ _ hs HP).mono ?_;rintro e w1 ⟨rfl,rfl⟩;go_wp2
   go_quiet (fail)
   have hB:=ya (yF (w.alloc (.cells #[.int .i64 f,.int .i64 lo,.int .i64 hi,.int .i64 no] 241)) nq) (al1 ..);generalize (w.alloc (.cells #[.int .i64 f,.int .i64 lo,.int .i64 hi,.int .i64 no] 241)).drewN nq=wn at hB |-;go_wp2
   go_ret2
   exact⟨rfl,hB⟩
  ·go_enter func173,ntmps173
   go_wp2_with fail
   refine(yaH _ _ _ hs HP).mono ?_;rintro e w1 ⟨rfl,rfl⟩;go_wp2
   go_quiet (fail)
   have hB:=ya (yF (w.alloc (.cells #[.int .i64 f,.int .i64 lo,.int .i64 hi,.int .i64 no] 241)) nq) (al1 ..);generalize (w.alloc (.cells #[.int .i64 f,.int .i64 lo,.int .i64 hi,.int .i64 no] 241)).drewN nq=wn at hB |-;go_wp2
   go_ret2
   exact⟨rfl,hB⟩
 rw[if_pos h3] at hr;subst h3;have m1:(pn.tmod 1000).natAbs=pn.natAbs % 1000:=by rw[Int.natAbs_tmod];rfl
 have m2:(pn.tdiv 1000).natAbs=pn.natAbs / 1000:=by rw[Int.natAbs_tdiv];rfl
 have t1:IntKind.i64.wrap (pn.tmod 1000)=pn.tmod 1000:=IntWalk.i64_in _ (by omega);have t2:IntKind.i64.wrap (pn.tdiv 1000)=pn.tdiv 1000:=IntWalk.i64_in _ (by omega)
 by_cases h4:pn.tmod 1000=0
 case neg =>
  rw[if_pos h4] at hr;cases hr
  have b4:(pn.tmod 1000 != 0)=true:=by rw[bne_iff_ne];exact h4
  clear h4 hg m1 m2;go_enter func173,ntmps173;go_wp2_with fail
  refine(yaH _ _ _ hs HP).mono ?_;rintro e w1 ⟨rfl,rfl⟩;go_wp2
  go_ret2
  exact⟨rfl,al1 ..⟩
 rw[if_neg (fun e=>e h4)] at hr;have e1:=(Prod.mk.inj hr).1;have e2:=(Prod.mk.inj hr).2;subst e1;subst e2;clear hr;have b4:(pn.tmod 1000 != 0)=false:=by rw[h4];rfl
 obtain⟨q1,hq1⟩:∃ q,decide (lo<=pn.tdiv 1000)=q:=⟨_,rfl⟩
 obtain⟨q2,hq2⟩:∃ q,decide (pn.tdiv 1000<=hi)=q:=⟨_,rfl⟩
 rw[hq1,hq2];clear h4 hg m1 m2;cases q1
 ·go_enter func173,ntmps173
  go_wp2_with fail
  refine(yaH _ _ _ hs HP).mono ?_;rintro e w1 ⟨rfl,rfl⟩;go_wp2
  go_quiet (fail)
  have hB:=ya (yF (w.alloc (.cells #[.int .i64 3,.int .i64 lo,.int .i64 hi,.int .i64 no] 241)) nq) (al1 ..);generalize (w.alloc (.cells #[.int .i64 3,.int .i64 lo,.int .i64 hi,.int .i64 no] 241)).drewN nq=wn at hB |-;go_wp2
  go_ret2
  exact⟨rfl,hB⟩
 ·go_enter func173,ntmps173
  go_wp2_with fail
  refine(yaH _ _ _ hs HP).mono ?_;rintro e w1 ⟨rfl,rfl⟩;go_wp2
  go_quiet (fail)
  have hB:=ya (yF (w.alloc (.cells #[.int .i64 3,.int .i64 lo,.int .i64 hi,.int .i64 no] 241)) nq) (al1 ..);generalize (w.alloc (.cells #[.int .i64 3,.int .i64 lo,.int .i64 hi,.int .i64 no] 241)).drewN nq=wn at hB |-;go_wp2
  go_ret2
  exact⟨rfl,hB⟩
theorem ydU (v:Value)(l:List Pr)(s:ByteArray)(x:List UInt8)(r:Bool)(w:World)(h:Hid (Prs w v l))(hr:Hid (yai l s.data.toList=(x,r))) :
    Calls Tryz.prog 110 #[v,.string s] w fun e w'=>e=.returned (.tuple #[.string (bb x),.bool r])/\w=w':=by
 obtain⟨ao,cap,rfl,hc,hm,_⟩:=id h.out;unfold maxLen at hm;have hlm:l.length<=9223372036854775807:=by omega
 have HR:Hid (yai (l.take l.length) s.data.toList=(x,r)):=Lh (by rw[List.take_length];exact hr.out);clear hc hm hr;go_enter func110,ntmps110;go_wp2_with fail
 go_loop [6] (fun iv=>∃ k:Nat,iv=.int .i64 ((k:Int)-1)/\k<=l.length/\yai (l.take k) s.data.toList=(x,r)) (fun iv=>(intOf iv+1).toNat)
 case atStart=>exact⟨l.length,by go_num,Nat.le_refl _,HR.out⟩
 case round =>
  obtain⟨k,rfl,hk,hfe⟩:=hrel;clear HR
  cases k with
  | zero =>
   have e1:([]:List UInt8)=x:=(Prod.mk.inj hfe).1;have e2:false=r:=(Prod.mk.inj hfe).2;subst e1;subst e2;go_wp2
   go_ret2
   exact⟨rfl,rfl⟩
  | succ m =>
   have em:((m+1:Nat):Int)-1=(m:Int):=by omega
   rw[em];have hlt:m<l.length:=by omega
   obtain⟨A,rfl,q0,q1,-,-⟩:=h.out.get hlt;rw[List.take_succ_eq_append_getElem hlt,yeL] at hfe;obtain⟨u,hu⟩:∃ u,l[m]=u:=⟨_,rfl⟩
   rw[hu] at q0 q1 hfe;obtain⟨u1,u2⟩:=u;simp only at q0 q1 hfe;have i0:(0:Int)<=(m:Int):=by omega
   have i1:(m:Int)<(l.length:Int):=by omega
   obtain⟨Y,hY⟩:∃ Y,bb u1=Y:=⟨_,rfl⟩
   rw[hY] at q0;have hY2:Y.data.toList=u1:=by rw[<- hY]
   clear hu em
   by_cases hxy:u1=s.data.toList
   ·have b1:(Y.toList==s.toList)=true:=by rw[ByteArray.toList_eq,ByteArray.toList_eq,hY2,beq_iff_eq];exact hxy
    rw[if_pos hxy] at hfe;have e1:u2=x:=(Prod.mk.inj hfe).1;have e2:true=r:=(Prod.mk.inj hfe).2;subst e1;subst e2;clear hY hY2 hxy hfe;go_wp2
    go_ret2
    exact⟨rfl,rfl⟩
   ·have b1:(Y.toList==s.toList)=false:=by rw[ByteArray.toList_eq,ByteArray.toList_eq,hY2,beq_eq_false_iff_ne];exact hxy
    rw[if_neg hxy] at hfe;have HF:=Lh hfe;clear hY hY2 hxy hfe;go_wp2
    go_round
    case rel=>exact⟨m,by go_num,by omega,HF.out⟩
    case measure=>simp[intOf]
theorem yak {n:Nat}{W a b:World}{row:Option Nat}(h:Below n W a)(g:a.grownBy b row)(hr:∀ q,row=some q->n<=q)(hs:n<=a.heap.size):Below n W b :=
 ⟨g.os.trans h.os,g.tape.trans h.tape,g.output.trans h.output,Nat.le_trans h.size g.size,fun q hq=>(g.block q (by omega) (fun e=>by have:=hr q e.symm;omega)).trans (h.block q hq)⟩
theorem ycE (x:List UInt8):(bb x).toList=x:=by rw[ByteArray.toList_eq]
def Bnd (l:List Pr):Prop:=∀ r∈l,r.1.length<=maxLen/\r.2.length<=maxLen
theorem Bnd.snoc {l:List Pr}{a:Pr}(h:Bnd l)(ha:a.1.length<=maxLen/\a.2.length<=maxLen):Bnd (l++[a]):=fun r hr=>by
 rcases List.mem_append.1 hr with hr | hr
 ·exact h r hr
 ·rw[List.mem_singleton.1 hr];exact ha
theorem yjP (v:Value)(l:List Pr)(a1 a2:List UInt8)(w:World)(h:Hid (Prs w v l))(hl:l.length<=100000)(hb:Hid (Bnd l))(ha:Hid (a1.length<=maxLen/\a2.length<=maxLen)) :
    Calls Tryz.prog 170 #[v,.agg #[.string (bb a1),.string (bb a2)]] w fun e w'=>∃ v',e=.returned v'/\PrsT w' v' (ysF l (a1,a2))/\Below w.heap.size w w':=by
 obtain⟨ao,cap,rfl,hc,hm,_⟩:=id h.out;obtain⟨R,hR⟩:∃ R,ysF l (a1,a2)=R:=⟨_,rfl⟩
 have HP:=Lh (show yd6 (a1,a2) (l.drop 0) false=R by rw[List.drop_zero];exact hR);rw[hR];have HB:=Lh (al1 w (.cells #[.string (bb a1),.string (bb a2)] 69));have HK:=Lh (yl w #[.string (bb a1),.string (bb a2)] 69);have hs:(w.alloc (.cells #[.string (bb a1),.string (bb a2)] 69)).heap.size=w.heap.size+1:=by simp
 have HO:Hid (((w.alloc (.cells #[.string (bb a1),.string (bb a2)] 69)).alloc (.cells #[] 69)).ownsRow (w.heap.size+1) 69 2 (.slice (some ⟨w.heap.size+1,0,none⟩) 0 0) 0 []):=Lh (by
  have h:=World.ownsRow_made (base:=w.heap.size+1) (e:=69) (size:=2) (w.alloc (.cells #[.string (bb a1),.string (bb a2)] 69)) #[] 0 (by simp) (by decide) rfl
  rw[hs] at h;exact h)
 have HB1:Hid (Below (w.heap.size+1) (w.alloc (.cells #[.string (bb a1),.string (bb a2)] 69)) ((w.alloc (.cells #[.string (bb a1),.string (bb a2)] 69)).alloc (.cells #[] 69))):=Lh (by have h:=al1 (w.alloc (.cells #[.string (bb a1),.string (bb a2)] 69)) (.cells #[] 69);rwa [hs] at h);have HS:Hid ((w.alloc (.cells #[.string (bb a1),.string (bb a2)] 69)).heap.size=w.heap.size+1):=Lh hs;unfold maxLen at hm;have hlm:l.length<=9223372036854775807:=by omega
 clear hR hs hc hm;go_enter func170,ntmps170;go_wp2_with fail
 generalize (w.alloc (.cells #[.string (bb a1),.string (bb a2)] 69)).alloc (.cells #[] 69)=w0 at HO HB1 |-;generalize (w.alloc (.cells #[.string (bb a1),.string (bb a2)] 69))=wF at HB HK HB1 HS |-
 go_loopw [5,6,7] (fun ov dv iv wr=>∃ (k:Nat) (d:Bool) (D:List Pr) (q:Option Addr) (c:Nat),ov=.slice q D.length c/\dv=.bool d/\iv=.int .i64 k/\k<=l.length/\D.length<=2*k/\D++yd6 (a1,a2) (l.drop k) d=R/\Bnd D/\wr.ownsRow (w.heap.size+1) 69 2 (.slice q D.length c) D.length (D.flatMap prC)/\Below (w.heap.size+1) wF wr) (fun _ _ iv _=>l.length-(intOf iv).toNat)
 case atStart=>exact⟨0,false,[],_,0,rfl,rfl,rfl,Nat.zero_le _,Nat.zero_le _,HP.out,fun r hr=>(nomatch hr),HO.out,HB1.out⟩
 case round =>
  obtain⟨k,d,D,q,c,rfl,rfl,rfl,hk,hD,hfe,hbd,hown,hbel⟩:=hrel
  rename World=>wr
  have HBw:Hid (Below w.heap.size w wr):=Lh (HB.out.trans (hbel.mono (by omega)));have HBl:=Lh hbel;have HOw:=Lh hown;have HBd:=Lh hbd;have hdl:D.length<=1000000:=by omega
  have hgb:w.heap.size+1<=wr.heap.size:=by have:=hbel.size;have:=HS.out;omega
  clear HO HB1 HP hown hbel hbd
  by_cases hlt:k<l.length
  ·obtain⟨A,rfl,q0,q1,-,-⟩:=(h.out.keep HBw.out).get hlt
   have hu3:=hb.out l[k] (List.getElem_mem hlt);rw[List.drop_eq_getElem_cons hlt] at hfe;obtain⟨u,hu⟩:∃ u,l[k]=u:=⟨_,rfl⟩
   obtain⟨u1,u2⟩:=u;have HUl:=Lh hu;rw[hu] at q0 q1 hfe hu3;simp only at q0 q1 hu3;have HU:=Lh hu3;have hkf:blk wr w.heap.size 69 #[.string (bb a1),.string (bb a2)]:=by have h:=HK.out;unfold blk at h |-;rw[HBl.out.block _ (Nat.lt_succ_self _)];exact h
   obtain⟨f0,f1⟩:=b2c hkf;have i0:(0:Int)<=(k:Int):=by omega
   have i1:(k:Int)<(l.length:Int):=by omega
   obtain⟨lt,hlt1⟩:∃ b,decide (u1<a1)=b:=⟨_,rfl⟩
   obtain⟨eq,heq1⟩:∃ b,decide (u1=a1)=b:=⟨_,rfl⟩
   have b1:Op.bytesLess u1 a1=lt:=by rw[ylk];exact hlt1
   have b2:(u1==a1)=eq:=by rw[<- heq1];by_cases e:u1=a1 <;> simp[e]
   have HF:Hid (D++((if d=false/\lt=false then [(a1,a2)] else [])++((if eq=false then [(u1,u2)] else [])++yd6 (a1,a2) (l.drop (k+1)) (d || !lt)))=R):=Lh (by
    rw[<- hfe]
    show _=D++((if d=false/\¬ u1<a1 then [(a1,a2)] else [])++((if u1≠a1 then [(u1,u2)] else [])++yd6 (a1,a2) (l.drop (k+1)) (d||decide (¬ u1<a1))))
    rw[<- hlt1,<- heq1]
    simp only[decide_eq_false_iff_not,ne_eq,decide_not])
   clear hu hkf hlt1 heq1 hfe hu3;cases d <;> cases lt <;> cases eq
   ·go_wp2_with fail
    go_quiet (fail)
    have HOwa:Hid ((wr.drewN nq).ownsRow (w.heap.size+1) 69 2 (.slice q D.length c) D.length (D.flatMap prC)):=Lh HOw.out;have HLwa:Hid (Below (w.heap.size+1) wF (wr.drewN nq)):=Lh (HBl.out.trans ((yF wr nq).mono hgb));have hgwa:w.heap.size+1<=(wr.drewN nq).heap.size:=hgb;clear q0 q1 f0 f1;generalize wr.drewN nq=wa at HOwa HLwa hgwa |-;have hkf:blk wa w.heap.size 69 #[.string (bb a1),.string (bb a2)]:=by have h:=HK.out;unfold blk at h |-;rw[HLwa.out.block _ (Nat.lt_succ_self _)];exact h
    obtain⟨f0,f1⟩:=b2c hkf;obtain⟨A',e',q0,q1,-,-⟩:=(h.out.keep (HB.out.trans (HLwa.out.mono (by omega)))).get hlt;cases e'
    rw[HUl.out] at q0 q1;simp only at q0 q1;clear hkf;have HRwb:Hid (∀ p,(Value.ownBlock (.slice q D.length c))=some p->w.heap.size+1<=p):=Lh fun p hp=>(World.ownsRow.lt HOwa.out p hp).1
    go_wp2_with (at_builtin;refine yd8 underlying65 yaj rfl (.tmp 27) (.tmp 29) rfl (w.heap.size+1) _ D (a1,a2) _ rfl rfl rfl HOwa hdl hgwa ?_;intro owb cwb wb own7 grow7;have HOwb:=Lh own7;have HGwb:=Lh grow7;clear own7 grow7)
    have HLwb:=Lh (yak HLwa.out HGwb.out HRwb.out hgwa);have hgwb:w.heap.size+1<=wb.heap.size:=Nat.le_trans hgwa HGwb.out.size;have HDwb:=Lh (Bnd.snoc (a:=(a1,a2)) HBd.out ha.out);have hdwb:(D++[(a1,a2)]).length<=1000000:=by simp only[List.length_append,List.length_cons,List.length_nil];omega
    clear q0 q1 f0 f1;have hkf:blk wb w.heap.size 69 #[.string (bb a1),.string (bb a2)]:=by have h:=HK.out;unfold blk at h |-;rw[HLwb.out.block _ (Nat.lt_succ_self _)];exact h
    obtain⟨f0,f1⟩:=b2c hkf;obtain⟨A',e',q0,q1,-,-⟩:=(h.out.keep (HB.out.trans (HLwb.out.mono (by omega)))).get hlt;cases e'
    rw[HUl.out] at q0 q1;simp only at q0 q1;clear hkf;go_wp2_with fail
    go_quiet (fail)
    have HOwc:Hid ((wb.drewN nq).ownsRow (w.heap.size+1) 69 2 (.slice owb (D.length+1) cwb) (D++[(a1,a2)]).length ((D++[(a1,a2)]).flatMap prC)):=Lh HOwb.out;have HLwc:Hid (Below (w.heap.size+1) wF (wb.drewN nq)):=Lh (HLwb.out.trans ((yF wb nq).mono hgwb));have hgwc:w.heap.size+1<=(wb.drewN nq).heap.size:=hgwb;clear q0 q1 f0 f1;generalize wb.drewN nq=wc at HOwc HLwc hgwc |-;have hkf:blk wc w.heap.size 69 #[.string (bb a1),.string (bb a2)]:=by have h:=HK.out;unfold blk at h |-;rw[HLwc.out.block _ (Nat.lt_succ_self _)];exact h
    obtain⟨f0,f1⟩:=b2c hkf;obtain⟨A',e',q0,q1,-,-⟩:=(h.out.keep (HB.out.trans (HLwc.out.mono (by omega)))).get hlt;cases e'
    rw[HUl.out] at q0 q1;simp only at q0 q1;clear hkf;have HRwd:Hid (∀ p,(Value.ownBlock (.slice owb (D.length+1) cwb))=some p->w.heap.size+1<=p):=Lh fun p hp=>(World.ownsRow.lt HOwc.out p hp).1
    go_wp2_with (at_builtin;refine yd8 underlying65 yaj rfl (.tmp 39) (.tmp 44) rfl (w.heap.size+1) _ (D++[(a1,a2)]) (u1,u2) _ rfl rfl rfl HOwc hdwb hgwc ?_;intro owd cwd wd own7 grow7;have HOwd:=Lh own7;have HGwd:=Lh grow7;clear own7 grow7)
    have HLwd:=Lh (yak HLwc.out HGwd.out HRwd.out hgwc);have hgwd:w.heap.size+1<=wd.heap.size:=Nat.le_trans hgwc HGwd.out.size;have HDwd:=Lh (Bnd.snoc (a:=(u1,u2)) HDwb.out HU.out);have hdwd:((D++[(a1,a2)])++[(u1,u2)]).length<=1000000:=by simp only[List.length_append,List.length_cons,List.length_nil];omega
    clear q0 q1 f0 f1;have hkf:blk wd w.heap.size 69 #[.string (bb a1),.string (bb a2)]:=by have h:=HK.out;unfold blk at h |-;rw[HLwd.out.block _ (Nat.lt_succ_self _)];exact h
    obtain⟨f0,f1⟩:=b2c hkf;obtain⟨A',e',q0,q1,-,-⟩:=(h.out.keep (HB.out.trans (HLwd.out.mono (by omega)))).get hlt;cases e'
    rw[HUl.out] at q0 q1;simp only at q0 q1;clear hkf
    go_roundw
    case rel=>exact⟨k+1,true,((D++[(a1,a2)])++[(u1,u2)]),owd,cwd,by simp,rfl,by go_num,by omega,by first | omega | (simp only[List.length_append,List.length_cons,List.length_nil];omega),by have:=HF.out;simpa using this,HDwd.out,by have:=HOwd.out;simpa using this,HLwd.out⟩
    case measure=>simp[intOf];omega
   ·go_wp2_with fail
    go_quiet (fail)
    have HOwa:Hid ((wr.drewN nq).ownsRow (w.heap.size+1) 69 2 (.slice q D.length c) D.length (D.flatMap prC)):=Lh HOw.out;have HLwa:Hid (Below (w.heap.size+1) wF (wr.drewN nq)):=Lh (HBl.out.trans ((yF wr nq).mono hgb));have hgwa:w.heap.size+1<=(wr.drewN nq).heap.size:=hgb;clear q0 q1 f0 f1;generalize wr.drewN nq=wa at HOwa HLwa hgwa |-;have hkf:blk wa w.heap.size 69 #[.string (bb a1),.string (bb a2)]:=by have h:=HK.out;unfold blk at h |-;rw[HLwa.out.block _ (Nat.lt_succ_self _)];exact h
    obtain⟨f0,f1⟩:=b2c hkf;obtain⟨A',e',q0,q1,-,-⟩:=(h.out.keep (HB.out.trans (HLwa.out.mono (by omega)))).get hlt;cases e'
    rw[HUl.out] at q0 q1;simp only at q0 q1;clear hkf;have HRwb:Hid (∀ p,(Value.ownBlock (.slice q D.length c))=some p->w.heap.size+1<=p):=Lh fun p hp=>(World.ownsRow.lt HOwa.out p hp).1
    go_wp2_with (at_builtin;refine yd8 underlying65 yaj rfl (.tmp 27) (.tmp 29) rfl (w.heap.size+1) _ D (a1,a2) _ rfl rfl rfl HOwa hdl hgwa ?_;intro owb cwb wb own7 grow7;have HOwb:=Lh own7;have HGwb:=Lh grow7;clear own7 grow7)
    have HLwb:=Lh (yak HLwa.out HGwb.out HRwb.out hgwa);have hgwb:w.heap.size+1<=wb.heap.size:=Nat.le_trans hgwa HGwb.out.size;have HDwb:=Lh (Bnd.snoc (a:=(a1,a2)) HBd.out ha.out);have hdwb:(D++[(a1,a2)]).length<=1000000:=by simp only[List.length_append,List.length_cons,List.length_nil];omega
    clear q0 q1 f0 f1;have hkf:blk wb w.heap.size 69 #[.string (bb a1),.string (bb a2)]:=by have h:=HK.out;unfold blk at h |-;rw[HLwb.out.block _ (Nat.lt_succ_self _)];exact h
    obtain⟨f0,f1⟩:=b2c hkf;obtain⟨A',e',q0,q1,-,-⟩:=(h.out.keep (HB.out.trans (HLwb.out.mono (by omega)))).get hlt;cases e'
    rw[HUl.out] at q0 q1;simp only at q0 q1;clear hkf;go_wp2_with fail
    go_quiet (fail)
    have HOwc:Hid ((wb.drewN nq).ownsRow (w.heap.size+1) 69 2 (.slice owb (D.length+1) cwb) (D++[(a1,a2)]).length ((D++[(a1,a2)]).flatMap prC)):=Lh HOwb.out;have HLwc:Hid (Below (w.heap.size+1) wF (wb.drewN nq)):=Lh (HLwb.out.trans ((yF wb nq).mono hgwb));have hgwc:w.heap.size+1<=(wb.drewN nq).heap.size:=hgwb;clear q0 q1 f0 f1;generalize wb.drewN nq=wc at HOwc HLwc hgwc |-;have hkf:blk wc w.heap.size 69 #[.string (bb a1),.string (bb a2)]:=by have h:=HK.out;unfold blk at h |-;rw[HLwc.out.block _ (Nat.lt_succ_self _)];exact h
    obtain⟨f0,f1⟩:=b2c hkf;obtain⟨A',e',q0,q1,-,-⟩:=(h.out.keep (HB.out.trans (HLwc.out.mono (by omega)))).get hlt;cases e'
    rw[HUl.out] at q0 q1;simp only at q0 q1;clear hkf;go_wp2
    go_roundw
    case rel=>exact⟨k+1,true,(D++[(a1,a2)]),owb,cwb,by simp,rfl,by go_num,by omega,by first | omega | (simp only[List.length_append,List.length_cons,List.length_nil];omega),by have:=HF.out;simpa using this,HDwb.out,by have:=HOwc.out;simpa using this,HLwc.out⟩
    case measure=>simp[intOf];omega
   ·go_wp2_with fail
    go_quiet (fail)
    have HOwa:Hid ((wr.drewN nq).ownsRow (w.heap.size+1) 69 2 (.slice q D.length c) D.length (D.flatMap prC)):=Lh HOw.out;have HLwa:Hid (Below (w.heap.size+1) wF (wr.drewN nq)):=Lh (HBl.out.trans ((yF wr nq).mono hgb));have hgwa:w.heap.size+1<=(wr.drewN nq).heap.size:=hgb;clear q0 q1 f0 f1;generalize wr.drewN nq=wa at HOwa HLwa hgwa |-;have hkf:blk wa w.heap.size 69 #[.string (bb a1),.string (bb a2)]:=by have h:=HK.out;unfold blk at h |-;rw[HLwa.out.block _ (Nat.lt_succ_self _)];exact h
    obtain⟨f0,f1⟩:=b2c hkf;obtain⟨A',e',q0,q1,-,-⟩:=(h.out.keep (HB.out.trans (HLwa.out.mono (by omega)))).get hlt;cases e'
    rw[HUl.out] at q0 q1;simp only at q0 q1;clear hkf;go_wp2_with fail
    go_quiet (fail)
    have HOwc:Hid ((wa.drewN nq).ownsRow (w.heap.size+1) 69 2 (.slice q D.length c) D.length (D.flatMap prC)):=Lh HOwa.out;have HLwc:Hid (Below (w.heap.size+1) wF (wa.drewN nq)):=Lh (HLwa.out.trans ((yF wa nq).mono hgwa));have hgwc:w.heap.size+1<=(wa.drewN nq).heap.size:=hgwa;clear q0 q1 f0 f1;generalize wa.drewN nq=wc at HOwc HLwc hgwc |-;have hkf:blk wc w.heap.size 69 #[.string (bb a1),.string (bb a2)]:=by have h:=HK.out;unfold blk at h |-;rw[HLwc.out.block _ (Nat.lt_succ_self _)];exact h
    obtain⟨f0,f1⟩:=b2c hkf;obtain⟨A',e',q0,q1,-,-⟩:=(h.out.keep (HB.out.trans (HLwc.out.mono (by omega)))).get hlt;cases e'
    rw[HUl.out] at q0 q1;simp only at q0 q1;clear hkf;have HRwd:Hid (∀ p,(Value.ownBlock (.slice q D.length c))=some p->w.heap.size+1<=p):=Lh fun p hp=>(World.ownsRow.lt HOwc.out p hp).1
    go_wp2_with (at_builtin;refine yd8 underlying65 yaj rfl (.tmp 39) (.tmp 44) rfl (w.heap.size+1) _ D (u1,u2) _ rfl rfl rfl HOwc hdl hgwc ?_;intro owd cwd wd own7 grow7;have HOwd:=Lh own7;have HGwd:=Lh grow7;clear own7 grow7)
    have HLwd:=Lh (yak HLwc.out HGwd.out HRwd.out hgwc);have hgwd:w.heap.size+1<=wd.heap.size:=Nat.le_trans hgwc HGwd.out.size;have HDwd:=Lh (Bnd.snoc (a:=(u1,u2)) HBd.out HU.out);have hdwd:(D++[(u1,u2)]).length<=1000000:=by simp only[List.length_append,List.length_cons,List.length_nil];omega
    clear q0 q1 f0 f1;have hkf:blk wd w.heap.size 69 #[.string (bb a1),.string (bb a2)]:=by have h:=HK.out;unfold blk at h |-;rw[HLwd.out.block _ (Nat.lt_succ_self _)];exact h
    obtain⟨f0,f1⟩:=b2c hkf;obtain⟨A',e',q0,q1,-,-⟩:=(h.out.keep (HB.out.trans (HLwd.out.mono (by omega)))).get hlt;cases e'
    rw[HUl.out] at q0 q1;simp only at q0 q1;clear hkf
    go_roundw
    case rel=>exact⟨k+1,false,(D++[(u1,u2)]),owd,cwd,by simp,rfl,by go_num,by omega,by first | omega | (simp only[List.length_append,List.length_cons,List.length_nil];omega),by have:=HF.out;simpa using this,HDwd.out,by have:=HOwd.out;simpa using this,HLwd.out⟩
    case measure=>simp[intOf];omega
   ·go_wp2_with fail
    go_quiet (fail)
    have HOwa:Hid ((wr.drewN nq).ownsRow (w.heap.size+1) 69 2 (.slice q D.length c) D.length (D.flatMap prC)):=Lh HOw.out;have HLwa:Hid (Below (w.heap.size+1) wF (wr.drewN nq)):=Lh (HBl.out.trans ((yF wr nq).mono hgb));have hgwa:w.heap.size+1<=(wr.drewN nq).heap.size:=hgb;clear q0 q1 f0 f1;generalize wr.drewN nq=wa at HOwa HLwa hgwa |-;have hkf:blk wa w.heap.size 69 #[.string (bb a1),.string (bb a2)]:=by have h:=HK.out;unfold blk at h |-;rw[HLwa.out.block _ (Nat.lt_succ_self _)];exact h
    obtain⟨f0,f1⟩:=b2c hkf;obtain⟨A',e',q0,q1,-,-⟩:=(h.out.keep (HB.out.trans (HLwa.out.mono (by omega)))).get hlt;cases e'
    rw[HUl.out] at q0 q1;simp only at q0 q1;clear hkf;go_wp2_with fail
    go_quiet (fail)
    have HOwc:Hid ((wa.drewN nq).ownsRow (w.heap.size+1) 69 2 (.slice q D.length c) D.length (D.flatMap prC)):=Lh HOwa.out;have HLwc:Hid (Below (w.heap.size+1) wF (wa.drewN nq)):=Lh (HLwa.out.trans ((yF wa nq).mono hgwa));have hgwc:w.heap.size+1<=(wa.drewN nq).heap.size:=hgwa;clear q0 q1 f0 f1;generalize wa.drewN nq=wc at HOwc HLwc hgwc |-;have hkf:blk wc w.heap.size 69 #[.string (bb a1),.string (bb a2)]:=by have h:=HK.out;unfold blk at h |-;rw[HLwc.out.block _ (Nat.lt_succ_self _)];exact h
    obtain⟨f0,f1⟩:=b2c hkf;obtain⟨A',e',q0,q1,-,-⟩:=(h.out.keep (HB.out.trans (HLwc.out.mono (by omega)))).get hlt;cases e'
    rw[HUl.out] at q0 q1;simp only at q0 q1;clear hkf;go_wp2
    go_roundw
    case rel=>exact⟨k+1,false,D,q,c,by simp,rfl,by go_num,by omega,by first | omega | (simp only[List.length_append,List.length_cons,List.length_nil];omega),by have:=HF.out;simpa using this,HBd.out,by have:=HOwc.out;simpa using this,HLwc.out⟩
    case measure=>simp[intOf];omega
   ·go_wp2_with fail
    go_quiet (fail)
    have HOwa:Hid ((wr.drewN nq).ownsRow (w.heap.size+1) 69 2 (.slice q D.length c) D.length (D.flatMap prC)):=Lh HOw.out;have HLwa:Hid (Below (w.heap.size+1) wF (wr.drewN nq)):=Lh (HBl.out.trans ((yF wr nq).mono hgb));have hgwa:w.heap.size+1<=(wr.drewN nq).heap.size:=hgb;clear q0 q1 f0 f1;generalize wr.drewN nq=wa at HOwa HLwa hgwa |-;have hkf:blk wa w.heap.size 69 #[.string (bb a1),.string (bb a2)]:=by have h:=HK.out;unfold blk at h |-;rw[HLwa.out.block _ (Nat.lt_succ_self _)];exact h
    obtain⟨f0,f1⟩:=b2c hkf;obtain⟨A',e',q0,q1,-,-⟩:=(h.out.keep (HB.out.trans (HLwa.out.mono (by omega)))).get hlt;cases e'
    rw[HUl.out] at q0 q1;simp only at q0 q1;clear hkf;go_wp2_with fail
    go_quiet (fail)
    have HOwc:Hid ((wa.drewN nq).ownsRow (w.heap.size+1) 69 2 (.slice q D.length c) D.length (D.flatMap prC)):=Lh HOwa.out;have HLwc:Hid (Below (w.heap.size+1) wF (wa.drewN nq)):=Lh (HLwa.out.trans ((yF wa nq).mono hgwa));have hgwc:w.heap.size+1<=(wa.drewN nq).heap.size:=hgwa;clear q0 q1 f0 f1;generalize wa.drewN nq=wc at HOwc HLwc hgwc |-;have hkf:blk wc w.heap.size 69 #[.string (bb a1),.string (bb a2)]:=by have h:=HK.out;unfold blk at h |-;rw[HLwc.out.block _ (Nat.lt_succ_self _)];exact h
    obtain⟨f0,f1⟩:=b2c hkf;obtain⟨A',e',q0,q1,-,-⟩:=(h.out.keep (HB.out.trans (HLwc.out.mono (by omega)))).get hlt;cases e'
    rw[HUl.out] at q0 q1;simp only at q0 q1;clear hkf;have HRwd:Hid (∀ p,(Value.ownBlock (.slice q D.length c))=some p->w.heap.size+1<=p):=Lh fun p hp=>(World.ownsRow.lt HOwc.out p hp).1
    go_wp2_with (at_builtin;refine yd8 underlying65 yaj rfl (.tmp 39) (.tmp 44) rfl (w.heap.size+1) _ D (u1,u2) _ rfl rfl rfl HOwc hdl hgwc ?_;intro owd cwd wd own7 grow7;have HOwd:=Lh own7;have HGwd:=Lh grow7;clear own7 grow7)
    have HLwd:=Lh (yak HLwc.out HGwd.out HRwd.out hgwc);have hgwd:w.heap.size+1<=wd.heap.size:=Nat.le_trans hgwc HGwd.out.size;have HDwd:=Lh (Bnd.snoc (a:=(u1,u2)) HBd.out HU.out);have hdwd:(D++[(u1,u2)]).length<=1000000:=by simp only[List.length_append,List.length_cons,List.length_nil];omega
    clear q0 q1 f0 f1;have hkf:blk wd w.heap.size 69 #[.string (bb a1),.string (bb a2)]:=by have h:=HK.out;unfold blk at h |-;rw[HLwd.out.block _ (Nat.lt_succ_self _)];exact h
    obtain⟨f0,f1⟩:=b2c hkf;obtain⟨A',e',q0,q1,-,-⟩:=(h.out.keep (HB.out.trans (HLwd.out.mono (by omega)))).get hlt;cases e'
    rw[HUl.out] at q0 q1;simp only at q0 q1;clear hkf
    go_roundw
    case rel=>exact⟨k+1,true,(D++[(u1,u2)]),owd,cwd,by simp,rfl,by go_num,by omega,by first | omega | (simp only[List.length_append,List.length_cons,List.length_nil];omega),by have:=HF.out;simpa using this,HDwd.out,by have:=HOwd.out;simpa using this,HLwd.out⟩
    case measure=>simp[intOf];omega
   ·go_wp2_with fail
    go_quiet (fail)
    have HOwa:Hid ((wr.drewN nq).ownsRow (w.heap.size+1) 69 2 (.slice q D.length c) D.length (D.flatMap prC)):=Lh HOw.out;have HLwa:Hid (Below (w.heap.size+1) wF (wr.drewN nq)):=Lh (HBl.out.trans ((yF wr nq).mono hgb));have hgwa:w.heap.size+1<=(wr.drewN nq).heap.size:=hgb;clear q0 q1 f0 f1;generalize wr.drewN nq=wa at HOwa HLwa hgwa |-;have hkf:blk wa w.heap.size 69 #[.string (bb a1),.string (bb a2)]:=by have h:=HK.out;unfold blk at h |-;rw[HLwa.out.block _ (Nat.lt_succ_self _)];exact h
    obtain⟨f0,f1⟩:=b2c hkf;obtain⟨A',e',q0,q1,-,-⟩:=(h.out.keep (HB.out.trans (HLwa.out.mono (by omega)))).get hlt;cases e'
    rw[HUl.out] at q0 q1;simp only at q0 q1;clear hkf;go_wp2_with fail
    go_quiet (fail)
    have HOwc:Hid ((wa.drewN nq).ownsRow (w.heap.size+1) 69 2 (.slice q D.length c) D.length (D.flatMap prC)):=Lh HOwa.out;have HLwc:Hid (Below (w.heap.size+1) wF (wa.drewN nq)):=Lh (HLwa.out.trans ((yF wa nq).mono hgwa));have hgwc:w.heap.size+1<=(wa.drewN nq).heap.size:=hgwa;clear q0 q1 f0 f1;generalize wa.drewN nq=wc at HOwc HLwc hgwc |-;have hkf:blk wc w.heap.size 69 #[.string (bb a1),.string (bb a2)]:=by have h:=HK.out;unfold blk at h |-;rw[HLwc.out.block _ (Nat.lt_succ_self _)];exact h
    obtain⟨f0,f1⟩:=b2c hkf;obtain⟨A',e',q0,q1,-,-⟩:=(h.out.keep (HB.out.trans (HLwc.out.mono (by omega)))).get hlt;cases e'
    rw[HUl.out] at q0 q1;simp only at q0 q1;clear hkf;go_wp2
    go_roundw
    case rel=>exact⟨k+1,true,D,q,c,by simp,rfl,by go_num,by omega,by first | omega | (simp only[List.length_append,List.length_cons,List.length_nil];omega),by have:=HF.out;simpa using this,HBd.out,by have:=HOwc.out;simpa using this,HLwc.out⟩
    case measure=>simp[intOf];omega
   ·go_wp2_with fail
    go_quiet (fail)
    have HOwa:Hid ((wr.drewN nq).ownsRow (w.heap.size+1) 69 2 (.slice q D.length c) D.length (D.flatMap prC)):=Lh HOw.out;have HLwa:Hid (Below (w.heap.size+1) wF (wr.drewN nq)):=Lh (HBl.out.trans ((yF wr nq).mono hgb));have hgwa:w.heap.size+1<=(wr.drewN nq).heap.size:=hgb;clear q0 q1 f0 f1;generalize wr.drewN nq=wa at HOwa HLwa hgwa |-;have hkf:blk wa w.heap.size 69 #[.string (bb a1),.string (bb a2)]:=by have h:=HK.out;unfold blk at h |-;rw[HLwa.out.block _ (Nat.lt_succ_self _)];exact h
    obtain⟨f0,f1⟩:=b2c hkf;obtain⟨A',e',q0,q1,-,-⟩:=(h.out.keep (HB.out.trans (HLwa.out.mono (by omega)))).get hlt;cases e'
    rw[HUl.out] at q0 q1;simp only at q0 q1;clear hkf;go_wp2_with fail
    go_quiet (fail)
    have HOwc:Hid ((wa.drewN nq).ownsRow (w.heap.size+1) 69 2 (.slice q D.length c) D.length (D.flatMap prC)):=Lh HOwa.out;have HLwc:Hid (Below (w.heap.size+1) wF (wa.drewN nq)):=Lh (HLwa.out.trans ((yF wa nq).mono hgwa));have hgwc:w.heap.size+1<=(wa.drewN nq).heap.size:=hgwa;clear q0 q1 f0 f1;generalize wa.drewN nq=wc at HOwc HLwc hgwc |-;have hkf:blk wc w.heap.size 69 #[.string (bb a1),.string (bb a2)]:=by have h:=HK.out;unfold blk at h |-;rw[HLwc.out.block _ (Nat.lt_succ_self _)];exact h
    obtain⟨f0,f1⟩:=b2c hkf;obtain⟨A',e',q0,q1,-,-⟩:=(h.out.keep (HB.out.trans (HLwc.out.mono (by omega)))).get hlt;cases e'
    rw[HUl.out] at q0 q1;simp only at q0 q1;clear hkf;have HRwd:Hid (∀ p,(Value.ownBlock (.slice q D.length c))=some p->w.heap.size+1<=p):=Lh fun p hp=>(World.ownsRow.lt HOwc.out p hp).1
    go_wp2_with (at_builtin;refine yd8 underlying65 yaj rfl (.tmp 39) (.tmp 44) rfl (w.heap.size+1) _ D (u1,u2) _ rfl rfl rfl HOwc hdl hgwc ?_;intro owd cwd wd own7 grow7;have HOwd:=Lh own7;have HGwd:=Lh grow7;clear own7 grow7)
    have HLwd:=Lh (yak HLwc.out HGwd.out HRwd.out hgwc);have hgwd:w.heap.size+1<=wd.heap.size:=Nat.le_trans hgwc HGwd.out.size;have HDwd:=Lh (Bnd.snoc (a:=(u1,u2)) HBd.out HU.out);have hdwd:(D++[(u1,u2)]).length<=1000000:=by simp only[List.length_append,List.length_cons,List.length_nil];omega
    clear q0 q1 f0 f1;have hkf:blk wd w.heap.size 69 #[.string (bb a1),.string (bb a2)]:=by have h:=HK.out;unfold blk at h |-;rw[HLwd.out.block _ (Nat.lt_succ_self _)];exact h
    obtain⟨f0,f1⟩:=b2c hkf;obtain⟨A',e',q0,q1,-,-⟩:=(h.out.keep (HB.out.trans (HLwd.out.mono (by omega)))).get hlt;cases e'
    rw[HUl.out] at q0 q1;simp only at q0 q1;clear hkf
    go_roundw
    case rel=>exact⟨k+1,true,(D++[(u1,u2)]),owd,cwd,by simp,rfl,by go_num,by omega,by first | omega | (simp only[List.length_append,List.length_cons,List.length_nil];omega),by have:=HF.out;simpa using this,HDwd.out,by have:=HOwd.out;simpa using this,HLwd.out⟩
    case measure=>simp[intOf];omega
   ·go_wp2_with fail
    go_quiet (fail)
    have HOwa:Hid ((wr.drewN nq).ownsRow (w.heap.size+1) 69 2 (.slice q D.length c) D.length (D.flatMap prC)):=Lh HOw.out;have HLwa:Hid (Below (w.heap.size+1) wF (wr.drewN nq)):=Lh (HBl.out.trans ((yF wr nq).mono hgb));have hgwa:w.heap.size+1<=(wr.drewN nq).heap.size:=hgb;clear q0 q1 f0 f1;generalize wr.drewN nq=wa at HOwa HLwa hgwa |-;have hkf:blk wa w.heap.size 69 #[.string (bb a1),.string (bb a2)]:=by have h:=HK.out;unfold blk at h |-;rw[HLwa.out.block _ (Nat.lt_succ_self _)];exact h
    obtain⟨f0,f1⟩:=b2c hkf;obtain⟨A',e',q0,q1,-,-⟩:=(h.out.keep (HB.out.trans (HLwa.out.mono (by omega)))).get hlt;cases e'
    rw[HUl.out] at q0 q1;simp only at q0 q1;clear hkf;go_wp2_with fail
    go_quiet (fail)
    have HOwc:Hid ((wa.drewN nq).ownsRow (w.heap.size+1) 69 2 (.slice q D.length c) D.length (D.flatMap prC)):=Lh HOwa.out;have HLwc:Hid (Below (w.heap.size+1) wF (wa.drewN nq)):=Lh (HLwa.out.trans ((yF wa nq).mono hgwa));have hgwc:w.heap.size+1<=(wa.drewN nq).heap.size:=hgwa;clear q0 q1 f0 f1;generalize wa.drewN nq=wc at HOwc HLwc hgwc |-;have hkf:blk wc w.heap.size 69 #[.string (bb a1),.string (bb a2)]:=by have h:=HK.out;unfold blk at h |-;rw[HLwc.out.block _ (Nat.lt_succ_self _)];exact h
    obtain⟨f0,f1⟩:=b2c hkf;obtain⟨A',e',q0,q1,-,-⟩:=(h.out.keep (HB.out.trans (HLwc.out.mono (by omega)))).get hlt;cases e'
    rw[HUl.out] at q0 q1;simp only at q0 q1;clear hkf;go_wp2
    go_roundw
    case rel=>exact⟨k+1,true,D,q,c,by simp,rfl,by go_num,by omega,by first | omega | (simp only[List.length_append,List.length_cons,List.length_nil];omega),by have:=HF.out;simpa using this,HBd.out,by have:=HOwc.out;simpa using this,HLwc.out⟩
    case measure=>simp[intOf];omega
  ·obtain rfl:k=l.length:=by omega
   have HF:Hid (D++yd6 (a1,a2) [] d=R):=Lh (by rw[<- hfe,List.drop_length]);clear hfe;have hkf:blk wr w.heap.size 69 #[.string (bb a1),.string (bb a2)]:=by have h:=HK.out;unfold blk at h |-;rw[HBl.out.block _ (Nat.lt_succ_self _)];exact h
   obtain⟨f0,f1⟩:=b2c hkf;clear hkf;cases d
   ·have HRw:Hid (∀ p,(Value.ownBlock (.slice q D.length c))=some p->w.heap.size+1<=p):=Lh fun p hp=>(World.ownsRow.lt HOw.out p hp).1
    go_wp2_with (at_builtin;refine yd8 underlying65 yaj rfl (.tmp 48) (.tmp 50) rfl (w.heap.size+1) _ D (a1,a2) _ rfl rfl rfl HOw hdl hgb ?_;intro oz cz wz own7 grow7;have HOz:=Lh own7;have HGz:=Lh grow7;clear own7 grow7)
    have HLz:=Lh (yak HBl.out HGz.out HRw.out hgb);have HPz:Hid (PrsT wz (.slice oz (D.length+1) cz) (D++[(a1,a2)])):=Lh (ygO HOz.out (Bnd.snoc (a:=(a1,a2)) HBd.out ha.out));go_ret;exact⟨_,rfl,by rw[<- HF.out];exact HPz.out,HB.out.trans (HLz.out.mono (by omega))⟩
   ·go_wp2
    go_ret;exact⟨_,rfl,by rw[<- HF.out];show PrsT wr _ (D++[]);rw[List.append_nil];exact ygO HOw.out HBd.out,HBw.out⟩
theorem Bnd.sort {l:List Pr}(h:Bnd l):Bnd (ybJ l):=fun r hr=>h r (ygF l r hr)
theorem Bnd.take {l:List Pr}(h:Bnd l)(k:Nat):Bnd (l.take k):=fun r hr=>h r (List.mem_of_mem_take hr)
theorem Bnd.app {l m:List Pr}(h:Bnd l)(k:Bnd m):Bnd (l++m):=fun r hr=>(List.mem_append.1 hr).elim (h r) (k r)
theorem yl8 (w:World)(a:Option Addr):Prs w (.slice a 0 0) []:=⟨a,0,rfl,Nat.le_refl _,by decide,fun h=>absurd h (by simp)⟩
theorem yb9 (v v2:Value)(l m:List Pr)(w:World)(h1:Hid (Prs w v l))(h2:Hid (Prs w v2 m))(hl:l.length<=20000)(hm:m.length<=20000)(hb1:Hid (Bnd l))(hb2:Hid (Bnd m)) :
    Calls Tryz.prog 106 #[v,v2] w fun e w'=>∃ v',e=.returned v'/\PrsT w' v' (yB l m)/\Below w.heap.size w w':=by
 obtain⟨ao,cap,rfl,_,_,_⟩:=id h1.out;obtain⟨ao2,cap2,rfl,_,_,_⟩:=id h2.out;have HB:=Lh (al1 w (.cells #[] 69));go_enter func106,ntmps106;have HE0:Hid (PrsT (w.alloc (.cells #[] 69)) (.slice (some ⟨w.heap.size,0,none⟩) 0 0) (ybJ (l.take 0))):=Lh ⟨yl8 _ _,fun g hg=>by obtain rfl:w.heap.size=g:=Option.some.inj hg;exact⟨_,_,heap_alloc_new w _⟩⟩;go_wp2_with fail
 generalize w.alloc (.cells #[] 69)=w0 at HB HE0 |-
 go_loopw [5,6] (fun ov iv wr=>∃ (k:Nat),PrsT wr ov (ybJ (l.take k))/\iv=.int .i64 k/\k<=l.length/\Below w.heap.size w wr) (fun _ iv _=>l.length-(intOf iv).toNat)
 case atStart=>exact⟨0,HE0.out,rfl,Nat.zero_le _,HB.out⟩
 case round =>
  obtain⟨k,hp,rfl,hk,hbl⟩:=hrel
  rename World=>wr
  obtain⟨oo,oc,rfl,_,_,_⟩:=id hp.1;have HP:=Lh hp;have HBl:=Lh hbl;clear hp hbl HB
  by_cases hlt:k<l.length
  ·obtain⟨A,rfl,q0,q1,-,-⟩:=(h1.out.keep HBl.out).get hlt
   have hu3:=hb1.out l[k] (List.getElem_mem hlt);obtain⟨u,hu⟩:∃ u,l[k]=u:=⟨_,rfl⟩
   have hs:ysF (ybJ (l.take k)) u=ybJ (l.take (k+1)):=by rw[<- hu,List.take_succ_eq_append_getElem hlt,yb0]
   rw[hu] at q0 q1 hu3;obtain⟨u1,u2⟩:=u;simp only at q0 q1 hu3;have i0:(0:Int)<=(k:Int):=by omega
   have i1:(k:Int)<(l.length:Int):=by omega
   have hsl:(ybJ (l.take k)).length<=100000:=Nat.le_trans (yjm _) (by rw[List.length_take];omega);have HS:=Lh hs;have HBd:=Lh (hb1.out.take k).sort;clear hs hu;go_wp2_with fail
   refine(yjP _ (ybJ (l.take k)) u1 u2 wr (Lh HP.out.1) hsl HBd (Lh hu3)).mono ?_;rintro e w1 ⟨v1,rfl,hp1,hb1'⟩;have HP1:=Lh hp1;have HB1:=Lh (ya hb1' HBl.out);clear hp1 hb1';go_wp2
   go_roundw
   case rel=>exact⟨k+1,by rw[<- HS.out];exact HP1.out,by go_num,by omega,HB1.out⟩
   case measure=>simp[intOf];omega
  ·obtain rfl:k=l.length:=by omega
   have HP0:Hid (PrsT wr (.slice oo (ybJ (l.take l.length)).length oc) (ybJ (l++m.take 0))):=Lh (by have:=HP.out;rw[List.take_zero,List.append_nil];rwa [List.take_length] at this |-);clear HP;go_wp2_with fail
   go_loopw [5,7] (fun ov iv wr=>∃ (k:Nat),PrsT wr ov (ybJ (l++m.take k))/\iv=.int .i64 k/\k<=m.length/\Below w.heap.size w wr) (fun _ iv _=>m.length-(intOf iv).toNat)
   case atStart=>exact⟨0,HP0.out,rfl,Nat.zero_le _,HBl.out⟩
   case round =>
    obtain⟨k,hp,rfl,hk,hbl⟩:=hrel
    rename World=>wr
    obtain⟨oo,oc,rfl,_,_,_⟩:=id hp.1;have HP:=Lh hp;have HBl:=Lh hbl;clear hp hbl HP0
    by_cases hlt:k<m.length
    ·obtain⟨A,rfl,q0,q1,-,-⟩:=(h2.out.keep HBl.out).get hlt
     have hu3:=hb2.out m[k] (List.getElem_mem hlt);obtain⟨u,hu⟩:∃ u,m[k]=u:=⟨_,rfl⟩
     have hs:ysF (ybJ (l++m.take k)) u=ybJ (l++m.take (k+1)):=by rw[<- hu,List.take_succ_eq_append_getElem hlt,<- List.append_assoc,yb0]
     rw[hu] at q0 q1 hu3;obtain⟨u1,u2⟩:=u;simp only at q0 q1 hu3;have i0:(0:Int)<=(k:Int):=by omega
     have i1:(k:Int)<(m.length:Int):=by omega
     have hsl:(ybJ (l++m.take k)).length<=100000:=Nat.le_trans (yjm _) (by rw[List.length_append,List.length_take];omega);have HS:=Lh hs;have HBd:=Lh (hb1.out.app (hb2.out.take k)).sort;clear hs hu;go_wp2_with fail
     refine(yjP _ (ybJ (l++m.take k)) u1 u2 wr (Lh HP.out.1) hsl HBd (Lh hu3)).mono ?_;rintro e w1 ⟨v1,rfl,hp1,hb1'⟩;have HP1:=Lh hp1;have HB1:=Lh (ya hb1' HBl.out);clear hp1 hb1';go_wp2
     go_roundw
     case rel=>exact⟨k+1,by rw[<- HS.out];exact HP1.out,by go_num,by omega,HB1.out⟩
     case measure=>simp[intOf];omega
    ·obtain rfl:k=m.length:=by omega
     go_wp2;go_ret;exact⟨_,rfl,by have:=HP.out;rwa [List.take_length] at this |-,HBl.out⟩
end Go.Proofs.YtgmidodmmlmmeaaGreatDoor.att
