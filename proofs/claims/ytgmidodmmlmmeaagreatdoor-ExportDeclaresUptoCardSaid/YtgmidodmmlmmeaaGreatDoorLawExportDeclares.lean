/-
  The statement ExportDeclares of layer 13, in its second form: where what comes in is of bulk at most 1048576, a graph of declared nodes can be written. Conditions: the listed tables of the library are laid as their texts say.
-/
import Derived.Test.YtgmidodmmlmmeaaGreatDoorMeh
namespace Go.Proofs.YtgmidodmmlmmeaaGreatDoor.xpt.ldeclares
open Go.RowKit Go.ChangeShapes Go.WideShapes Go.ChangeAt Go.Joins lex tre att nor
open Go.ChangeMaps (open_string shut_string)
theorem own:ownKnob Tryz.prog.godebug=none:=by kernel_rfl
theorem top (v:Value)(T:Tr)(W:World)(h:TrV W v T)(hc:wl T.body≤1048576)(hX:Tab W) :
    Calls Tryz.prog 7 #[v] W fun e W'=>e=.returned (.bool true)∧Below W.heap.size W W':=ynC T v W (Lh h) (by have:=ytY T.body;omega) (Lh fun _=>by omega) (Lh hX)
set_option maxRecDepth 100000 in
theorem ydK (H:Type)(enc:TypeId × Value→H)(W:World)(base:Nat)(args:Array Value)(ds gs:List (DataW H))(before:List MemPlace)
    (hval0:∀ (j:Nat) t v,Tryz.f7.params[j]?=some t→args[j]?=some v→Value.okWide Tryz.prog W .any base t v)
    (hW:DataW.Whole enc Tryz.prog Tryz.f7.params.toList Rows.exportDeclaresSpec.vars false W args.toList ds gs before) (hk:Rows.uptoSmall H (ds ++ gs)=true) (hX:Tab W) :
    Calls Tryz.prog 7 args W fun e W'=>∃ v,e=.returned v∧Rows.exportDeclaresSpec.post enc Tryz.prog Tryz.f7 false true false false W args v W':=by
 have hval:∀ (j:Nat) t v,Tryz.f7.params[j]?=some t→args[j]?=some v→Value.okWide Tryz.prog W .any base t v:=hval0
 have hW':=hW
 obtain ⟨p,q,hA0,hV,rfl,hfz,hnd⟩:=hW
 have hA:DataW.TrodAll enc Tryz.prog W 0 (fun _=>true) true Tryz.f7.params.toList args.toList ds p:=hA0
 rw [Tryz.params7] at hA hval
 obtain ⟨v0,d0,rfl,rfl,h0⟩:=trodAll_one hA
 obtain ⟨rfl,rfl⟩:=trodVars_none hV
 obtain ⟨l0,s0,b0⟩:=yk9 (hval 0 33 v0 rfl rfl) h0
 have hk0:Rows.uptoBulk d0≤1048576:=by
  have h:Rows.uptoBulkAll ([d0] ++ ([]:List (DataW H)))≤1048576:=of_decide_eq_true hk
  simp only [List.append_nil,Rows.uptoBulkAll] at h
  omega
 clear hA0 hval0
 simp only [List.append_nil] at hW'
 have hlt0:∀ x∈p,x.block < W.heap.size:=fun x hx=>by simpa using hW'.lt x (by simp [hx])
 refine (top v0 l0 W s0 (by omega) hX).mono fun e W' ⟨he,hb⟩=>?_
 subst he
 exact ⟨_,rfl,_,_,_,[],p,[],hW',trodAll_mk1 (shut_bool Tryz.underlying4 _),trodAll_mk1 (Below.trod yqZ (by kernel_rfl) (of_decide_eq_true (by kernel_rfl)) h0 hb hlt0),rfl,hb.frame _,fun h=>by cases h⟩
theorem reads (os:Os){H:Type}(enc:TypeId × Value→H):∃ places,DataW.whole enc Tryz.prog ((World.laidAll Tryz.prog os yqf).forCall (fun _ _=>0) ⟨#[],#[.agg #[.string ByteArray.empty,.bool false,.slice none 0 0]],[]⟩).memory Tryz.f7.params.toList Rows.exportDeclaresSpec.vars false (#[.agg #[.string ByteArray.empty,.bool false,.slice none 0 0]]:Array Value).toList 8=some ([.agg [.lit (.string []),.lit (.bool false),.nil]],[],places) :=
 ⟨[],by kernel_rfl⟩
theorem yqg (os:Os):laidMet Tryz.prog Rows.exportDeclaresUptoRow.laid ((World.laidAll Tryz.prog os yqf).forCall (fun _ _=>0) ⟨#[],#[.agg #[.string ByteArray.empty,.bool false,.slice none 0 0]],[]⟩).memory:=laidMet_laidAll _ (by kernel_rfl) (by kernel_rfl)
set_option maxRecDepth 100000 in
theorem yt0 (os:Os)(started:os.Started)(H:Type)(enc:TypeId × Value→H)(F:Stop.Interp) :
    ReturnsInHanded {} Tryz.checked os 7 .any ((Rows.OpenSpec.upto Rows.exportDeclaresSpec).preRow enc Tryz.prog Tryz.f7 Rows.exportDeclaresUptoRow.domain false Rows.exportDeclaresUptoRow.laid) (((Rows.OpenSpec.upto Rows.exportDeclaresSpec).at F).post enc Tryz.prog Tryz.f7 false true false false):=by
 obtain ⟨places,hx⟩:=reads os enc
 refine returnsInHanded_of_row (C:=Tryz.checked) (s:=Rows.OpenSpec.upto Rows.exportDeclaresSpec) own started (by kernel_rfl) Tryz.func7
  (witness_row_at (enc:=enc) (C:=Tryz.checked) false (World.laidAll Tryz.prog os yqf) #[.agg #[.string ByteArray.empty,.bool false,.slice none 0 0]] (World.laidAll_os _ _ _) (by kernel_rfl) (by kernel_rfl) (by kernel_rfl)
   (OpenSpec.preRow_of_cond 8 hx (by kernel_rfl) (fun k hk=>by cases hk;kernel_rfl) (by kernel_rfl) (yqg os))) ?_
 intro W base args ds gs before hval hW _ hcond _ hL _ _
 exact ydK H enc W base args ds gs before hval hW (hcond _ rfl) (ytZ hL)
theorem closed:joinedFacts Tryz.pinned.checked.prog 7 Tryz.f7 (Rows.OpenSpec.upto Rows.exportDeclaresSpec).bare Rows.exportDeclaresUptoRow=true:=by kernel_rfl
theorem inst:(Tryz.f7).isInstance Tryz.pinned.checked.prog Rows.exportDeclaresUptoRow.origin Rows.exportDeclaresUptoRow.targs:=of_decide_eq_true (by kernel_rfl)
set_option maxHeartbeats 4000000 in
theorem wrap:(Tryz.f7).isWrapper Tryz.pinned.checked.prog Rows.exportDeclaresUptoRow.wrapper Rows.exportDeclaresUptoRow.mainSum:=by unfold Func.isWrapper;first | (rw [if_pos (by decide +kernel)];kernel_rfl) | (rw [if_neg (by decide +kernel)];exact ⟨rfl,rfl⟩)
theorem said:Rows.ExportDeclaresUptoSaid :=
 OpenClaim.holds_of_cond 7 Tryz.f7 rfl rfl rfl rfl rfl rfl rfl ⟨rfl,rfl,rfl,rfl,rfl⟩ rfl rfl rfl rfl rfl (by kernel_rfl) Tryz.func7 closed
  inst wrap (fun os started H enc _ F=>by rw [OpenClaim.pre_eq_preRow];exact yt0 os started H enc F)
theorem plain (f:FuncId)(fn:Func)(hf:Tryz.pinned.checked.prog.funcNamed Rows.exportDeclaresUptoRow.func=some f)(hfn:Tryz.pinned.checked.prog.funcs[f]?=some fn) :
    true=Tryz.pinned.checked.prog.looks []∧∀ (j:Nat) t,fn.params[j]?=some t→Tryz.pinned.checked.prog.wantsStandIn t=false:=by
 obtain rfl:f=7:=Option.some.inj ((show Tryz.prog.funcNamed Rows.exportDeclaresUptoRow.func=some 7 by kernel_rfl).symm.trans hf) |>.symm
 obtain rfl:fn=Tryz.f7:=(Option.some.inj (Tryz.func7.symm.trans hfn)).symm
 refine ⟨by kernel_rfl,fun j t ht=>?_⟩
 rw [Tryz.params7] at ht
 have hm:t∈[33]:=by simpa using Array.mem_of_getElem? ht
 have hall:([33].all fun u=>!Tryz.prog.wantsStandIn u)=true:=by kernel_rfl
 exact (show Tryz.prog.wantsStandIn t=false by simpa using List.all_eq_true.1 hall t hm)
theorem card:Rows.ExportDeclaresUptoCardSaid :=
 Claim7.holds_tied_plain_at .later [] _ _ _ _ said (fun _ h=>by cases h) (by kernel_rfl) (fun _ h=>by cases h) exportDeclaresUpto_row_tie rfl ⟨rfl,rfl⟩ (by kernel_rfl) rfl plain (by kernel_rfl)
#print axioms card
end Go.Proofs.YtgmidodmmlmmeaaGreatDoor.xpt.ldeclares
