/-
  Proved: for every text the law FnGhosts returns true: a task with a deadline that ends leaves its part counted until its deadline, and is gone; it is refused where it has a lock, waits, or twelve parts are kept already. No condition but that the variable errors.errorType and the program's six errors begin as their texts lay them.
-/
import Derived.Test.YteagpjlgjfaclaaGreatDoorImplTasksOk
import Derived.Test.YteagpjlgjfaclaaGreatDoorGhostsLaw
import Derived.Test.YteagpjlgjfaclaaGreatDoorFixPure
import Derived.Test.YteagpjlgjfaclaaGreatDoorLaidErrs
import Derived.Test.YteagpjlgjfaclaaGreatDoorSumSpec
import Derived.Test.YteagpjlgjfaclaaGreatDoorCards
import Derived.Test.YteagpjlgjfaclaaGreatDoorTie
namespace Go.Proofs.YteagpjlgjfaclaaGreatDoor
set_option maxRecDepth 100000
open Go.ChangeShapes Go.WideShapes Go.ChangeAt Go.RowKit
set_option linter.unusedVariables false
theorem fB (os:Os) (started:os.Started) (H:Type) (enc:TypeId × Value->H) :
  ReturnsInLeavingWide {} Tryz.checked os 4 .any (fun w args=>(Rows.fnGhostsSpec.pre enc Tryz.prog Tryz.f4 Rows.fnGhostsRow.domain false w args /\ laidMetH Tryz.prog ni w) /\ sizedMet enc Tryz.prog Tryz.f4 (OpenSpec.ofChange Rows.fnGhostsSpec) false w args) (Rows.fnGhostsSpec.post enc Tryz.prog Tryz.f4 false true false false):=by
 refine H3 (C:=Tryz.checked) (X:=fun w _=>laidMetH Tryz.prog ni w) (fun _ _ _ hh h=>h.of_heap hh) own started (by kernel_rfl) Tryz.func4
  (ChangeSpec.witness_shaped (enc:=enc) (C:=Tryz.checked) (os:=os) (X:=fun w _=>laidMetH Tryz.prog ni w) false (World.doorLaid Tryz.prog 400 os) #[.slice none 0 0] 8 rfl (World.shaped_of_RefB (by kernel_rfl) (by kernel_rfl)) (by kernel_rfl) (by kernel_rfl) (by kernel_rfl) (Hh os _)) ?_
 intro W base args ds gs before hval0 hW hcnd _ hL _
 have hg:=GW hL
 have hE:=He hL
 have hval:∀ (j:Nat) t v,Tryz.f4.params[j]?=some t->args[j]?=some v->Value.okWide Tryz.prog W .any base t v:=hval0
 have hW':=hW
 obtain ⟨p,q,hA0,hV,rfl,hfz,hnd⟩:=hW
 have hA:DataW.TrodAll enc Tryz.prog W 0 (fun _=>true) true Tryz.f4.params.toList args.toList ds p:=hA0
 rw [Tryz.params4] at hA hval
 obtain ⟨v0,bX,d0,ds0,p0,q0,hargs,rfl,rfl,h0,r0⟩:=trodAll_cons hA
 obtain ⟨rfl,rfl,rfl⟩:=trodAll_nil r0
 obtain rfl:args=#[v0]:=by cases args;simp_all
 obtain ⟨_,_,_,_,_,_,rfl⟩:=H4 hV
 have k0:=h0
 have H7:∀ x∈p0,x.block < W.heap.size:=by obtain ⟨m,hm⟩:=k0;exact DataW.trod_lt m _ _ _ hm
 obtain ⟨a0,ui,cap0,rfl⟩:=okWide_slice Tryz.underlying22 (hval 0 22 v0 rfl rfl)
 obtain ⟨hm0,hb0⟩:=Er h0
 clear hA0 hval0
 refine (Ew a0 ui cap0 W hm0 hb0 hg hE).mono fun e W' ⟨he,uj⟩ => ?_
 subst he
 exact ⟨_,rfl,_,_,_,[],_,_,hW',trodAll_mk1 (shut_bool Tryz.underlying4 _),(trodAll_cons_mk (Below.trod laidOut (by kernel_rfl) (of_decide_eq_true (by kernel_rfl)) k0 uj H7) trodAll_mk0),(Below.trodVars laidOut uj (by kernel_rfl) hV),uj.frame _,fun h=>by cases h⟩
theorem fC:joinedFacts Tryz.pinned.checked.prog 4 Tryz.f4 Rows.fnGhostsSpec Rows.fnGhostsRow=true :=
 Gq (by kernel_rfl) (by kernel_rfl) (by kernel_rfl) (by kernel_rfl) (by kernel_rfl) (by kernel_rfl) (by kernel_rfl) (by kernel_rfl) (by kernel_rfl) (by kernel_rfl) (by kernel_rfl) (by kernel_rfl) (by kernel_rfl) (by kernel_rfl) (by kernel_rfl) (by kernel_rfl) (by kernel_rfl) (by kernel_rfl) (by kernel_rfl) (by kernel_rfl) (by kernel_rfl) (by kernel_rfl) (by kernel_rfl) (by kernel_rfl) (by kernel_rfl) GB (by rw [Gt];kernel_rfl) (by rw [Gv];kernel_rfl) (by kernel_rfl) (by kernel_rfl) (by kernel_rfl) (by kernel_rfl)
theorem gp:Rows.fnGhostsRow.holds Tryz.pinned (OpenSpec.ofChange Rows.fnGhostsSpec) :=
 OpenClaim.holds_of_wide_leaving 4 Tryz.f4 rfl rfl rfl rfl rfl rfl rfl ⟨rfl,rfl,rfl,rfl,rfl⟩ rfl rfl rfl rfl rfl (by kernel_rfl) Tryz.func4 fC
  (of_decide_eq_true (by kernel_rfl)) (by unfold Func.isWrapper;first | (rw [if_pos (by decide +kernel)];kernel_rfl) | (rw [if_neg (by decide +kernel)];exact ⟨rfl,rfl⟩))
  (fun os started H enc _=>fB os started H enc)
theorem fnGhosts_holds:Rows.FnGhostsCardSaid :=
 H8 .later [] [.handle,.sentinel,.sentinel,.sentinel,.sentinel,.sentinel,.sentinel] true (true, "afa1f9bf75d512a2ae8aac382151a6da6cb50dc7f257615b4e2a0ddd4909fe97") true
  gp (fun _ h=>by cases h) (by kernel_rfl) (fun _ h=>by cases h) fnGhosts_row_tie rfl ⟨rfl,rfl⟩ (by kernel_rfl) rfl
  (fun f fn hf hfn=>by
   obtain rfl:f=4:=Option.some.inj ((show Tryz.prog.funcNamed "loop.example/g00185/laws.FnGhosts" = some 4 by kernel_rfl).symm.trans hf) |>.symm
   obtain rfl:fn=Tryz.f4:=(Option.some.inj (Tryz.func4.symm.trans hfn)).symm
   exact ⟨by kernel_rfl,fun j t ht=>by
    rw [Tryz.params4] at ht
    rcases j with _ | j
    ·obtain rfl:t=22:=by simpa using ht.symm
     exact (show Tryz.prog.wantsStandIn 22=false by kernel_rfl)
    simp at ht⟩)
  (by kernel_rfl)
end Go.Proofs.YteagpjlgjfaclaaGreatDoor
