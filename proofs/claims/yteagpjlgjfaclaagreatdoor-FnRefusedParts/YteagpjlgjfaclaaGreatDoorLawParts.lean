/-
  Proved: for every text the law FnRefusedParts returns true: a call of the drawn system that is refused leaves the tasks as they were. No condition but that the variable errors.errorType and the program's six errors begin as their texts lay them.
-/
import Derived.Test.YteagpjlgjfaclaaGreatDoorFar
import Derived.Test.YteagpjlgjfaclaaGreatDoorPartsLaw
import Derived.Test.YteagpjlgjfaclaaGreatDoorFrame
import Derived.Test.YteagpjlgjfaclaaGreatDoorLaidErrs
import Derived.Test.YteagpjlgjfaclaaGreatDoorImplSys
import Derived.Test.YteagpjlgjfaclaaGreatDoorCards
import Derived.Test.YteagpjlgjfaclaaGreatDoorTie
namespace Go.Proofs.YteagpjlgjfaclaaGreatDoor
set_option maxRecDepth 100000
open Go.ChangeShapes Go.WideShapes Go.ChangeAt Go.RowKit
set_option linter.unusedVariables false
theorem fnRefusedParts_lifted (os:Os) (started:os.Started) (H:Type) (enc:TypeId × Value->H) :
  ReturnsInLeavingWide {} Tryz.checked os 5 .any (fun w args=>(Rows.fnRefusedPartsSpec.pre enc Tryz.prog Tryz.f5 Rows.fnRefusedPartsRow.domain false w args /\ laidMetH Tryz.prog qdq w) /\ sizedMet enc Tryz.prog Tryz.f5 (OpenSpec.ofChange Rows.fnRefusedPartsSpec) false w args) (Rows.fnRefusedPartsSpec.post enc Tryz.prog Tryz.f5 false true false false):=by
 refine qk1 (C:=Tryz.checked) (X:=fun w _=>laidMetH Tryz.prog qdq w) (fun _ _ _ hh h=>h.of_heap hh) own started (by kernel_rfl) Tryz.func5
  (ChangeSpec.witness_shaped (enc:=enc) (C:=Tryz.checked) (os:=os) (X:=fun w _=>laidMetH Tryz.prog qdq w) false (World.doorLaid Tryz.prog 400 os) #[.slice none 0 0] 8 rfl (World.shaped_of_RefB (by kernel_rfl) (by kernel_rfl)) (by kernel_rfl) (by kernel_rfl) (by kernel_rfl) (qkV os _)) ?_
 intro W base args ds gs before hval0 hW hcnd _ hL _
 have hg:=qkS hL
 have hE:=qkU hL
 have hval:∀ (j:Nat) t v,Tryz.f5.params[j]?=some t->args[j]?=some v->Value.okWide Tryz.prog W .any base t v:=hval0
 have hW':=hW
 obtain ⟨p,q,hA0,hV,rfl,hfz,hnd⟩:=hW
 have hA:DataW.TrodAll enc Tryz.prog W 0 (fun _=>true) true Tryz.f5.params.toList args.toList ds p:=hA0
 rw [Tryz.params5] at hA hval
 obtain ⟨v0,vs0,d0,ds0,p0,q0,hargs,rfl,rfl,h0,r0⟩:=trodAll_cons hA
 obtain ⟨rfl,rfl,rfl⟩:=trodAll_nil r0
 obtain rfl:args=#[v0]:=by cases args;simp_all
 obtain ⟨_,_,_,_,_,_,rfl⟩:=qk3 hV
 have k0:=h0
 have lt0:∀ x∈p0,x.block < W.heap.size:=by obtain ⟨m,hm⟩:=k0;exact DataW.trod_lt m _ _ _ hm
 obtain ⟨a0,len0,cap0,rfl⟩:=okWide_slice Tryz.underlying22 (hval 0 22 v0 rfl rfl)
 obtain ⟨hm0,hb0⟩:=qlF h0
 clear hA0 hval0
 refine (qlK a0 len0 cap0 W hm0 hb0 hg hE).mono fun e W' ⟨he,bel⟩ => ?_
 subst he
 exact ⟨_,rfl,_,_,_,[],_,_,hW',trodAll_mk1 (shut_bool Tryz.underlying4 _),(trodAll_cons_mk (Below.trod laidOut (by kernel_rfl) (of_decide_eq_true (by kernel_rfl)) k0 bel lt0) trodAll_mk0),(Below.trodVars laidOut bel (by kernel_rfl) hV),bel.frame _,fun h=>by cases h⟩
theorem fnRefusedParts_closed:joinedFacts Tryz.pinned.checked.prog 5 Tryz.f5 Rows.fnRefusedPartsSpec Rows.fnRefusedPartsRow=true :=
 qkD (by kernel_rfl) (by kernel_rfl) (by kernel_rfl) (by kernel_rfl) (by kernel_rfl) (by kernel_rfl) (by kernel_rfl) (by kernel_rfl) (by kernel_rfl) (by kernel_rfl) (by kernel_rfl) (by kernel_rfl) (by kernel_rfl) (by kernel_rfl) (by kernel_rfl) (by kernel_rfl) (by kernel_rfl) (by kernel_rfl) (by kernel_rfl) (by kernel_rfl) (by kernel_rfl) (by kernel_rfl) (by kernel_rfl) (by kernel_rfl) (by kernel_rfl) qkN (by rw [qkF];kernel_rfl) (by rw [qkH];kernel_rfl) (by kernel_rfl) (by kernel_rfl) (by kernel_rfl) (by kernel_rfl)
theorem fnRefusedParts_over:Rows.fnRefusedPartsRow.holds Tryz.pinned (OpenSpec.ofChange Rows.fnRefusedPartsSpec) :=
 OpenClaim.holds_of_wide_leaving 5 Tryz.f5 rfl rfl rfl rfl rfl rfl rfl ⟨rfl,rfl,rfl,rfl,rfl⟩ rfl rfl rfl rfl rfl (by kernel_rfl) Tryz.func5 fnRefusedParts_closed
  (of_decide_eq_true (by kernel_rfl)) (by unfold Func.isWrapper;first | (rw [if_pos (by decide +kernel)];kernel_rfl) | (rw [if_neg (by decide +kernel)];exact ⟨rfl,rfl⟩))
  (fun os started H enc _=>fnRefusedParts_lifted os started H enc)
theorem fnRefusedParts_holds:Rows.FnRefusedPartsCardSaid :=
 qk2 .later [] [.handle,.sentinel,.sentinel,.sentinel,.sentinel,.sentinel,.sentinel] true (true, "afa1f9bf75d512a2ae8aac382151a6da6cb50dc7f257615b4e2a0ddd4909fe97") true
  fnRefusedParts_over (fun _ h=>by cases h) (by kernel_rfl) (fun _ h=>by cases h) fnRefusedParts_row_tie rfl ⟨rfl,rfl⟩ (by kernel_rfl) rfl
  (fun f fn hf hfn=>by
   obtain rfl:f=5:=Option.some.inj ((show Tryz.prog.funcNamed "loop.example/g00185/laws.FnRefusedParts" = some 5 by kernel_rfl).symm.trans hf) |>.symm
   obtain rfl:fn=Tryz.f5:=(Option.some.inj (Tryz.func5.symm.trans hfn)).symm
   exact ⟨by kernel_rfl,fun j t ht=>by
    rw [Tryz.params5] at ht
    rcases j with _ | j
    ·obtain rfl:t=22:=by simpa using ht.symm
     exact (show Tryz.prog.wantsStandIn 22=false by kernel_rfl)
    simp at ht⟩)
  (by kernel_rfl)
end Go.Proofs.YteagpjlgjfaclaaGreatDoor
