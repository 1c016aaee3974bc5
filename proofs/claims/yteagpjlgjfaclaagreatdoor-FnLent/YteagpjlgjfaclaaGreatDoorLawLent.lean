/-
  Proved: for every text the law FnLent returns true: whoever waits for a lock of the drawn system lends its turn to whoever has it, and a lock that is freed is had by the best that waits. No condition but that the variable errors.errorType and the program's six errors begin as their texts lay them.
-/
import Derived.Test.YteagpjlgjfaclaaGreatDoorPickPure
import Derived.Test.YteagpjlgjfaclaaGreatDoorLentLaw
import Derived.Test.YteagpjlgjfaclaaGreatDoorLockDraw2
import Derived.Test.YteagpjlgjfaclaaGreatDoorImplPickD
import Derived.Test.YteagpjlgjfaclaaGreatDoorImplLock
import Derived.Test.YteagpjlgjfaclaaGreatDoorLockSpec2
import Derived.Test.YteagpjlgjfaclaaGreatDoorLaidErrs
import Derived.Test.YteagpjlgjfaclaaGreatDoorCallDo0
import Derived.Test.YteagpjlgjfaclaaGreatDoorCards
import Derived.Test.YteagpjlgjfaclaaGreatDoorTie
namespace Go.Proofs.YteagpjlgjfaclaaGreatDoor
set_option maxRecDepth 100000
open Go.ChangeShapes Go.WideShapes Go.ChangeAt Go.RowKit
set_option linter.unusedVariables false
theorem gX (os:Os) (started:os.Started) (H:Type) (enc:TypeId × Value->H) :
  ReturnsInLeavingWide {} Tryz.checked os 3 .any (fun w args=>(Rows.fnLentSpec.pre enc Tryz.prog Tryz.f3 Rows.fnLentRow.domain false w args /\ laidMetH Tryz.prog oP w) /\ sizedMet enc Tryz.prog Tryz.f3 (OpenSpec.ofChange Rows.fnLentSpec) false w args) (Rows.fnLentSpec.post enc Tryz.prog Tryz.f3 false true false false):=by
 refine Ew (C:=Tryz.checked) (X:=fun w _=>laidMetH Tryz.prog oP w) (fun _ _ _ hh h=>h.of_heap hh) own started (by kernel_rfl) Tryz.func3
  (ChangeSpec.witness_shaped (enc:=enc) (C:=Tryz.checked) (os:=os) (X:=fun w _=>laidMetH Tryz.prog oP w) false (World.doorLaid Tryz.prog 400 os) #[.slice none 0 0] 8 rfl (World.shaped_of_RefB (by kernel_rfl) (by kernel_rfl)) (by kernel_rfl) (by kernel_rfl) (by kernel_rfl) (LP os _)) ?_
 intro W base args ds gs before hval0 hW hcnd _ hL _
 have hg:=LL hL
 have hE:=LN hL
 have hval:∀ (j:Nat) t v,Tryz.f3.params[j]?=some t->args[j]?=some v->Value.okWide Tryz.prog W .any base t v:=hval0
 have hW':=hW
 obtain ⟨p,q,hA0,hV,rfl,hfz,hnd⟩:=hW
 have hA:DataW.TrodAll enc Tryz.prog W 0 (fun _=>true) true Tryz.f3.params.toList args.toList ds p:=hA0
 rw [Tryz.params3] at hA hval
 obtain ⟨v0,cf,d0,ds0,p0,q0,hargs,rfl,rfl,h0,r0⟩:=trodAll_cons hA
 obtain ⟨rfl,rfl,rfl⟩:=trodAll_nil r0
 obtain rfl:args=#[v0]:=by cases args;simp_all
 obtain ⟨_,_,_,_,_,_,rfl⟩:=Ez hV
 have k0:=h0
 have L6:∀ x∈p0,x.block < W.heap.size:=by obtain ⟨m,hm⟩:=k0;exact DataW.trod_lt m _ _ _ hm
 obtain ⟨a0,wq,cap0,rfl⟩:=okWide_slice Tryz.underlying22 (hval 0 22 v0 rfl rfl)
 obtain ⟨hm0,hb0⟩:=L7 h0
 clear hA0 hval0
 refine (L9 Ma Kw JO a0 wq cap0 W hm0 hb0 hg hE).mono fun e W' ⟨he,wt⟩ => ?_
 subst he
 exact ⟨_,rfl,_,_,_,[],_,_,hW',trodAll_mk1 (shut_bool Tryz.underlying4 _),(trodAll_cons_mk (Below.trod laidOut (by kernel_rfl) (of_decide_eq_true (by kernel_rfl)) k0 wt L6) trodAll_mk0),(Below.trodVars laidOut wt (by kernel_rfl) hV),wt.frame _,fun h=>by cases h⟩
theorem gY:joinedFacts Tryz.pinned.checked.prog 3 Tryz.f3 Rows.fnLentSpec Rows.fnLentRow=true :=
 Mb (by kernel_rfl) (by kernel_rfl) (by kernel_rfl) (by kernel_rfl) (by kernel_rfl) (by kernel_rfl) (by kernel_rfl) (by kernel_rfl) (by kernel_rfl) (by kernel_rfl) (by kernel_rfl) (by kernel_rfl) (by kernel_rfl) (by kernel_rfl) (by kernel_rfl) (by kernel_rfl) (by kernel_rfl) (by kernel_rfl) (by kernel_rfl) (by kernel_rfl) (by kernel_rfl) (by kernel_rfl) (by kernel_rfl) (by kernel_rfl) (by kernel_rfl) Mc (by rw [Md];kernel_rfl) (by rw [Me];kernel_rfl) (by kernel_rfl) (by kernel_rfl) (by kernel_rfl) (by kernel_rfl)
theorem iR:Rows.fnLentRow.holds Tryz.pinned (OpenSpec.ofChange Rows.fnLentSpec) :=
 OpenClaim.holds_of_wide_leaving 3 Tryz.f3 rfl rfl rfl rfl rfl rfl rfl ⟨rfl,rfl,rfl,rfl,rfl⟩ rfl rfl rfl rfl rfl (by kernel_rfl) Tryz.func3 gY
  (of_decide_eq_true (by kernel_rfl)) (by unfold Func.isWrapper;first | (rw [if_pos (by decide +kernel)];kernel_rfl) | (rw [if_neg (by decide +kernel)];exact ⟨rfl,rfl⟩))
  (fun os started H enc _=>gX os started H enc)
theorem fnLent_holds:Rows.FnLentCardSaid :=
 Ey .later [] [.handle,.sentinel,.sentinel,.sentinel,.sentinel,.sentinel,.sentinel] true (true, "afa1f9bf75d512a2ae8aac382151a6da6cb50dc7f257615b4e2a0ddd4909fe97") true
  iR (fun _ h=>by cases h) (by kernel_rfl) (fun _ h=>by cases h) fnLent_row_tie rfl ⟨rfl,rfl⟩ (by kernel_rfl) rfl
  (fun f fn hf hfn=>by
   obtain rfl:f=3:=Option.some.inj ((show Tryz.prog.funcNamed "loop.example/g00185/laws.FnLent" = some 3 by kernel_rfl).symm.trans hf) |>.symm
   obtain rfl:fn=Tryz.f3:=(Option.some.inj (Tryz.func3.symm.trans hfn)).symm
   exact ⟨by kernel_rfl,fun j t ht=>by
    rw [Tryz.params3] at ht
    rcases j with _ | j
    ·obtain rfl:t=22:=by simpa using ht.symm
     exact (show Tryz.prog.wantsStandIn 22=false by kernel_rfl)
    simp at ht⟩)
  (by kernel_rfl)
end Go.Proofs.YteagpjlgjfaclaaGreatDoor
