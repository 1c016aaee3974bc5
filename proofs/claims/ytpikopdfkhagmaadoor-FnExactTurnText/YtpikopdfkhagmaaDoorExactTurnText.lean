/-
  Proved: for all lists of turns the law FnExactTurnText returns true: the program's TurnText answers as the model's TurnText, and the list that it was handed is as it was (lists beyond the law's own bound are let by). No condition but that the library's tables (math/bits, internal/strconv) begin as their texts lay them.
-/
import Derived.Test.YtpikopdfkhagmaaDoorJoined
import Derived.Test.YtpikopdfkhagmaaDoorTurnLaw
import Derived.Test.YtpikopdfkhagmaaDoorOpenSys
import Derived.Test.YtpikopdfkhagmaaDoorDeskLaid
import Derived.Test.YtpikopdfkhagmaaDoorCards
import Derived.Test.YtpikopdfkhagmaaDoorTie
namespace Go.Proofs.YtpikopdfkhagmaaDoor
open Go.ChangeShapes Go.WideShapes Go.ChangeAt Go.RowKit
set_option linter.unusedVariables false

set_option maxRecDepth 100000 in
theorem open_turns {H : Type} {enc : TypeId × Value → H} {W : World} {a : Option Addr} {len cap : Nat} {d : DataW H} {p : List MemPlace}
    (h : DataW.Trod enc Tryd.prog W 0 (fun _ => true) true 33 (.slice a len cap) d p) : ∃ xs : List Tn, xs.length = len ∧ xs.length ≤ maxLen ∧ Rs W a xs := by
  obtain ⟨fuel, hf⟩ := h
  haveI : Inhabited Tn := ⟨Tn.zero⟩
  obtain ⟨a', cap', xs, e, h1, h2⟩ := readRow (c := tnc) (sz := 3) (by omega) tnc_size Tryd.underlying33 (by kernel_rfl) (fun n cs y hh => read_turn hh) hf
  simp [Value.cells] at e
  obtain ⟨rfl, e2, rfl⟩ := e
  exact ⟨xs, e2.symm, h1, h2⟩
set_option maxRecDepth 100000 in
theorem fnExactTurnText_lifted (os : Os) (started : os.Started) (H : Type) (enc : TypeId × Value → H) :
    ReturnsInHanded {} Tryd.checked os 5 .any (fun w args => (Rows.fnExactTurnTextSpec.pre enc Tryd.prog Tryd.f5 Rows.fnExactTurnTextRow.domain false w args ∧ laidMetH Tryd.prog laidT w) ∧ sizedMet enc Tryd.prog Tryd.f5 (OpenSpec.ofChange Rows.fnExactTurnTextSpec) false w args) (Rows.fnExactTurnTextSpec.post enc Tryd.prog Tryd.f5 false true false false) := by
  refine returnsInHanded_of_change_and (C := Tryd.checked) (X := fun w _ => laidMetH Tryd.prog laidT w) (fun _ _ _ hh h => h.of_heap hh) own started (by kernel_rfl) Tryd.func5
    (ChangeSpec.witness_shaped (enc := enc) (C := Tryd.checked) (os := os) (X := fun w _ => laidMetH Tryd.prog laidT w) false (World.doorLaid Tryd.prog 400 os) #[.slice none 0 0] 8 rfl (World.shaped_of_RefB (by kernel_rfl) (by kernel_rfl)) (by kernel_rfl) (by kernel_rfl) (by kernel_rfl) (laidT_met os _)) ?_
  intro W base args ds gs before hval0 hW hcnd _ hL _
  have hg := globT_of_laidT hL
  have hval : ∀ (j : Nat) t v, Tryd.f5.params[j]? = some t → args[j]? = some v → Value.okWide Tryd.prog W .any base t v := hval0
  have hW' := hW
  obtain ⟨p, q, hA0, hV, rfl, hfz, hnd⟩ := hW
  have hA : DataW.TrodAll enc Tryd.prog W 0 (fun _ => true) true Tryd.f5.params.toList args.toList ds p := hA0
  rw [Tryd.params5] at hA hval
  obtain ⟨v0, vs0, d0, ds0, p0, q0, hargs, rfl, rfl, h0, r0⟩ := trodAll_cons hA
  obtain ⟨rfl, rfl, rfl⟩ := trodAll_nil r0
  obtain rfl : args = #[v0] := by cases args; simp_all
  obtain ⟨rfl, rfl⟩ := trodVars_none hV
  have k0 := h0
  have lt0 : ∀ x ∈ p0, x.block < W.heap.size := by obtain ⟨m, hm⟩ := k0; exact DataW.trod_lt m _ _ _ hm
  obtain ⟨a0, len0, cap0, rfl⟩ := okWide_slice Tryd.underlying33 (hval 0 33 v0 rfl rfl)
  
  obtain ⟨xs0, rfl, hm0, hs0⟩ := open_turns h0
  clear hA0 hval0
  refine (exactTurnText_walk a0 cap0 xs0 W hm0 hs0 hg).mono fun e W' ⟨he, bel⟩ => ?_
  subst he
  exact ⟨_, rfl, _, _, _, [], _, [], hW', trodAll_mk1 (shut_bool Tryd.underlying4 _), (trodAll_cons_mk (Below.trod laidOut (by kernel_rfl) (of_decide_eq_true (by kernel_rfl)) k0 bel lt0) trodAll_mk0), rfl, bel.frame _, fun h => by cases h⟩

theorem fnExactTurnText_closed : joinedFacts Tryd.pinned.checked.prog 5 Tryd.f5 Rows.fnExactTurnTextSpec Rows.fnExactTurnTextRow = true :=
  join32 (by kernel_rfl) (by kernel_rfl) (by kernel_rfl) (by kernel_rfl) (by kernel_rfl) (by kernel_rfl) (by kernel_rfl) (by kernel_rfl) (by kernel_rfl) (by kernel_rfl) (by kernel_rfl) (by kernel_rfl) (by kernel_rfl) (by kernel_rfl) (by kernel_rfl) (by kernel_rfl) (by kernel_rfl) (by kernel_rfl) (by kernel_rfl) (by kernel_rfl) (by kernel_rfl) (by kernel_rfl) (by kernel_rfl) (by kernel_rfl) (by kernel_rfl) may_enter (by rw [lifts_final]; kernel_rfl) (by rw [make_is]; kernel_rfl) (by kernel_rfl) (by kernel_rfl) (by kernel_rfl) (by kernel_rfl)

theorem fnExactTurnText_over : Rows.fnExactTurnTextRow.holds Tryd.pinned (OpenSpec.ofChange Rows.fnExactTurnTextSpec) :=
  OpenClaim.holds_of_wide 5 Tryd.f5 rfl rfl rfl rfl rfl rfl rfl ⟨rfl, rfl, rfl, rfl, rfl⟩ rfl rfl rfl rfl rfl (by kernel_rfl) Tryd.func5 fnExactTurnText_closed
    (of_decide_eq_true (by kernel_rfl)) (by unfold Func.isWrapper; first | (rw [if_pos (by decide +kernel)]; kernel_rfl) | (rw [if_neg (by decide +kernel)]; exact ⟨rfl, rfl⟩))
    (fun os started H enc _ => fnExactTurnText_lifted os started H enc)

theorem fnExactTurnText_holds : Rows.FnExactTurnTextCardSaid :=
  Claim7.holds_tied_plain_at .later [] [.data, .data, .data] true (true, "11e31a2d29421c17d827c84018f5b0fa3cae09e58f1cd0100b4f4b7544a31e94") false
    fnExactTurnText_over (fun _ h => by cases h) (by kernel_rfl) (fun _ h => by cases h) fnExactTurnText_row_tie rfl ⟨rfl, rfl⟩ (by kernel_rfl) rfl
    (fun f fn hf hfn => by
      obtain rfl : f = 5 := Option.some.inj ((show Tryd.prog.funcNamed "loop.example/g00185/laws.FnExactTurnText" = some 5 by kernel_rfl).symm.trans hf) |>.symm
      obtain rfl : fn = Tryd.f5 := (Option.some.inj (Tryd.func5.symm.trans hfn)).symm
      exact ⟨by kernel_rfl, fun j t ht => by
        rw [Tryd.params5] at ht
        rcases j with _ | j
        · obtain rfl : t = 33 := by simpa using ht.symm
          exact (show Tryd.prog.wantsStandIn 33 = false by kernel_rfl)
        simp at ht⟩)
    (by kernel_rfl)
end Go.Proofs.YtpikopdfkhagmaaDoor
