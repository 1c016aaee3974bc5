/-
  Proved: for every text the law FnInClass returns true: of two drawn tasks of one class the earlier deadline, the greater priority, the lesser had is before (texts beyond the law's own bound are let by). No condition.
-/
import Derived.Test.YtdndgacaohmdnaaChFair
import Derived.Laws.StructEq
import Derived.Deep.RegionHeld3
import Derived.Test.YtdndgacaohmdnaaFrame
import Derived.Test.YtdndgacaohmdnaaCur
import Derived.Test.YtdndgacaohmdnaaJoined
import Derived.Test.YtdndgacaohmdnaaChFix
import Derived.Test.YtdndgacaohmdnaaChDue
import Derived.Test.YtdndgacaohmdnaaImplTaskOk
import Derived.Test.YtdndgacaohmdnaaInClassLaw
namespace Go.Proofs.Ytdndgacaohmdnaa
open Go.RowKit
attribute [local go_sem] Keeps.refl Keeps.alloc Keeps.drew Keeps.drewN

/-- Two tasks that share fairly are alike, in all that their class names. -/
def eqR (a b : Tsk) : Bool := a.no == b.no && (a.cls == b.cls && (a.cpu == b.cpu && (a.st == b.st && (a.idle == b.idle && (a.nice == b.nice && (a.v == b.v))))))
set_option maxRecDepth 100000 in
theorem run_eqlIn_fair (d : Nat) (w : World) (a b : Tsk) : (Op.equalIn (d + 4) 87 (.agg (rtc a)) (.agg (rtc b))).run Try.prog w = .ok (eqR a b) w := by
  rw [run_equalIn_agg _ _ _ _ _ (by kernel_rfl) (by kernel_rfl)]
  go_simp
  unfold eqR
  by_cases h0 : a.no = b.no
  case neg => simp only [if_neg h0, beq_eq_false_iff_ne.2 h0, Bool.false_and]
  simp only [if_pos h0, beq_iff_eq.2 h0, Bool.true_and]
  by_cases h1 : a.cls = b.cls
  case neg => simp only [if_neg h1, beq_eq_false_iff_ne.2 h1, Bool.false_and]
  simp only [if_pos h1, beq_iff_eq.2 h1, Bool.true_and]
  by_cases h2 : a.cpu = b.cpu
  case neg => simp only [if_neg h2, beq_eq_false_iff_ne.2 h2, Bool.false_and]
  simp only [if_pos h2, beq_iff_eq.2 h2, Bool.true_and]
  by_cases h3 : a.st = b.st
  case neg => simp only [if_neg h3, beq_eq_false_iff_ne.2 h3, Bool.false_and]
  simp only [if_pos h3, beq_iff_eq.2 h3, Bool.true_and]
  by_cases h4 : a.idle = b.idle
  case neg => simp only [if_neg h4, beq_eq_false_iff_ne.2 h4, Bool.false_and]
  simp only [if_pos h4, beq_iff_eq.2 h4, Bool.true_and]
  by_cases h5 : a.nice = b.nice
  case neg => simp only [if_neg h5, beq_eq_false_iff_ne.2 h5, Bool.false_and]
  simp only [if_pos h5, beq_iff_eq.2 h5, Bool.true_and]
  by_cases h6 : a.v = b.v
  · simp only [if_pos h6, beq_iff_eq.2 h6]
  · simp only [if_neg h6, beq_eq_false_iff_ne.2 h6]
set_option maxRecDepth 100000 in
theorem run_neq_fair (w : World) (a b : Tsk) : (binOp .neq 87 (.agg (rtc a)) (.agg (rtc b))).run Try.prog w = .ok (.bool (!eqR a b)) w := by
  rw [run_neq_struct, run_eqlIn_fair 9996]; rfl
theorem eqR_bef (x y : Tsk) : (!eqR (if befV x y then x else y) y) = befV x y := by
  cases h : befV x y
  · simp [eqR]
  · simp only [if_true]
    rw [Bool.not_eq_true', Bool.eq_false_iff]
    intro e
    simp only [eqR, Bool.and_eq_true, beq_iff_eq] at e
    rw [befV_iff] at h
    omega
theorem two_lie (w : World) (a b : Tsk) (T : TypeId) : Ts (w.alloc (.cells (tc b ++ tc a) T)) (some ⟨w.heap.size, 0, none⟩) [b, a] := by
  have B := Blk.new w (tc b ++ tc a) T
  refine .inr ⟨_, _, rfl, B.lt, fun i x hx k hk => ?_⟩
  rw [B.cells]
  match i, hx with
  | 0, hx =>
    simp at hx; subst hx
    rw [Array.getElem?_append_left (by simp; omega)]
    simp
  | 1, hx =>
    simp at hx; subst hx
    rw [Array.getElem?_append_right (by simp)]
    simp
attribute [local go_sem high] run_neq_fair
set_option maxRecDepth 100000 in
set_option maxHeartbeats 4000000 in
theorem implFairBefore_says : SaysFairBefore := by
  intro a b w
  go_enter Try.func19, Try.ntmps19
  go_wp2_with fail
  have kW : Keeps w ((w.alloc (.cells (tc a) 25)).alloc (.cells (tc b) 25)) := ((Keeps.refl w).alloc _).alloc _
  have r1 : ∀ w', Keeps ((w.alloc (.cells (tc a) 25)).alloc (.cells (tc b) 25)) w' → ∀ k, w'.cell? ⟨w.heap.size, k, none⟩ = (tc a)[k]? := fun w' h => (((Blk.new w (tc a) 25).alloc _).keeps h).cells
  have r2 : ∀ w', Keeps ((w.alloc (.cells (tc a) 25)).alloc (.cells (tc b) 25)) w' → ∀ k, w'.cell? ⟨w.heap.size + 1, k, none⟩ = (tc b)[k]? := fun w' h => by
    have := (Blk.new (w.alloc (.cells (tc a) 25)) (tc b) 25).keeps h
    simp only [World.size_alloc] at this
    exact this.cells
  generalize (w.alloc (.cells (tc a) 25)).alloc (.cells (tc b) 25) = W at *
  refine (isFair_any a _).mono ?_
  rintro e w1 ⟨rfl, k1⟩
  cases ha : fairB a
  · have Hr : Hid (fairBefB a b = false) := by show _ = _; simp [fairBefB, ha]
    go_wp2
    go_ret
    exact ⟨by rw [Hr.out]; rfl, kW.trans k1⟩
  · go_wp2_with fail
    refine (isFair_any b _).mono ?_
    rintro e w2 ⟨rfl, k2⟩
    have K2 := k1.trans k2
    cases hb : fairB b
    · have Hr : Hid (fairBefB a b = false) := by show _ = _; simp [fairBefB, hb]
      go_wp2
      go_ret
      exact ⟨by rw [Hr.out]; rfl, kW.trans K2⟩
    · have Hr : Hid (fairBefB a b = befV a b) := by show _ = _; simp only [fairBefB, befV, ha, hb, Bool.true_and]
      clear k1 k2
      go_wp2_with fail
      have TL := two_lie w2 a b 25
      have WH := whoHadLeast_any (some ⟨w2.heap.size, 0, none⟩) 2 [b, a] _ (by simp) TL
      have K3 : Keeps W (w2.alloc (.cells (tc b ++ tc a) 25)) := K2.alloc _
      clear TL
      change Calls _ _ _ (w2.alloc (.cells (tc b ++ tc a) 25)) _
      generalize w2.alloc (.cells (tc b ++ tc a) 25) = W3 at *
      refine WH.mono ?_
      rintro e w4 ⟨⟨xs, hO, h⟩, k4⟩
      have h2 := hO.two ha hb
      have HF : Hid ((!eqR (if befV a b then a else b) b) = befV a b) := eqR_bef a b
      rcases h with ⟨rfl, -⟩ | ⟨f, hf, rfl⟩
      · simp at h2
      rw [hf] at h2
      simp only [Option.some.injEq] at h2
      rw [← h2] at HF
      clear h2 hf hO WH
      have K4 : Keeps W w4 := K3.trans k4
      go_wp2_with fail
      have K5 : Hid (Keeps W (w4.alloc (.cells (rtc f) 87))) := K4.alloc _
      have r3 : ∀ w', Keeps (w4.alloc (.cells (rtc f) 87)) w' → ∀ k, w'.cell? ⟨w4.heap.size, k, none⟩ = (rtc f)[k]? := fun w' h => ((Blk.new w4 (rtc f) 87).keeps h).cells
      have r4 : ∀ w', Keeps (w4.alloc (.cells (rtc f) 87)) w' → ∀ k, w'.cell? ⟨w.heap.size + 1, k, none⟩ = (tc b)[k]? := fun w' h => r2 w' (K5.out.trans h)
      clear r1 r2 K2 K3 K4 k4
      generalize w4.alloc (.cells (rtc f) 87) = X at *
      have K0 := Keeps.refl X
      refine wp_region_held_drew (S := (fun w' => Keeps X w')) (by kernel_rfl) ?_ (fun hHeld => ?_)
      · exact K0.drew
      refine wpAnyH_take (i := 0) (v := ?_) (by simp only [List.getElem?_toArray, List.getElem?_cons_zero]; rfl) (by kernel_rfl) (by kernel_rfl) (by kernel_rfl) (by exact fun _ _ _ h => h) (Or.inl ⟨by rfl, ?_⟩) (by assumption) ?_
      rotate_left
      · (intro w hSw; (try dsimp only at hSw); go_simp; try (with_reducible rfl))
      try simp only [Act.put, List.setIfInBounds_toArray, List.set_cons_zero, List.set_cons_succ]
      refine wpAnyH_take (i := 1) (v := ?_) (by simp only [List.getElem?_toArray, List.getElem?_cons_succ, List.getElem?_cons_zero]; rfl) (by kernel_rfl) (by kernel_rfl) (by kernel_rfl) (by exact fun _ _ _ h => h) (Or.inl ⟨by rfl, ?_⟩) (by assumption) ?_
      rotate_left
      · (intro w hSw; (try dsimp only at hSw); go_simp; try (with_reducible rfl))
      try simp only [Act.put, List.setIfInBounds_toArray, List.set_cons_zero, List.set_cons_succ]
      refine wpAnyH_ready (rs := [2]) (by kernel_rfl) (by simp) ?_
      refine AllReadyH.cons (by simp only [List.getElem?_toArray, List.getElem?_cons_succ, List.getElem?_cons_zero]; rfl) (fun K hK => ?_) AllReadyH.nil
      go_simp
      first
        | (go_at_call 58; refine (fairTaskOf_any b _).mono ?_; rintro e w6 ⟨rfl, k6⟩)
      try go_wp2_with fail
      refine hK.out _ _ ?_ (fun hHeld => ?_)
      · exact Keeps.trans (by assumption) (by assumption)
      clear hK K
      try simp only [Act.put, List.setIfInBounds_toArray, List.set_cons_zero, List.set_cons_succ]
      refine wpAnyH_take (i := 3) (v := ?_) (by simp only [List.getElem?_toArray, List.getElem?_cons_succ, List.getElem?_cons_zero]; rfl) (by kernel_rfl) (by kernel_rfl) (by kernel_rfl) (by exact fun _ _ _ h => h) (Or.inl ⟨by rfl, ?_⟩) (by assumption) ?_
      rotate_left
      · (intro w hSw; (try dsimp only at hSw); go_simp; try (with_reducible rfl))
      try simp only [Act.put, List.setIfInBounds_toArray, List.set_cons_zero, List.set_cons_succ]
      refine wpAnyH_take (i := 4) (v := ?_) (by simp only [List.getElem?_toArray, List.getElem?_cons_succ, List.getElem?_cons_zero]; rfl) (by kernel_rfl) (by kernel_rfl) (by kernel_rfl) (by exact fun _ _ _ h => h) (Or.inl ⟨by rfl, ?_⟩) (by assumption) ?_
      rotate_left
      · (intro w hSw; (try dsimp only at hSw); go_simp; try (with_reducible rfl))
      try simp only [Act.put, List.setIfInBounds_toArray, List.set_cons_zero, List.set_cons_succ]
      refine wpAnyH_done (by kernel_rfl) ?_ _
      have K6 : Keeps X w6 := by assumption
      go_wp2
      go_ret
      exact ⟨by rw [Hr.out, ← HF.out]; rfl, (kW.trans K5.out).trans K6⟩
end Go.Proofs.Ytdndgacaohmdnaa
namespace Go.Proofs.Ytdndgacaohmdnaa
open Go.ChangeShapes Go.WideShapes Go.ChangeAt Go.RowKit

theorem open_bytes {H : Type} {enc : TypeId × Value → H} {W : World} {a : Option Addr} {len cap : Nat} {d : DataW H} {p : List MemPlace}
    (h : DataW.Trod enc Try.prog W 0 (fun _ => true) true 22 (.slice a len cap) d p) : len ≤ maxLen ∧ ∀ g, W.heap.size ≤ g → Bytes g W a len := by
  obtain ⟨fuel, hf⟩ := h
  rcases open_ints Try.underlying22 Try.underlying5 (by kernel_rfl) hf with ⟨hcs, _⟩ | ⟨x, l, c, zs, hcs, _, hl, hm, hz, _, hcell, hwz⟩
  · simp [Value.cells] at hcs
    obtain ⟨rfl, rfl, rfl⟩ := hcs
    exact ⟨by simp, fun g _ => .inl rfl⟩
  · simp [Value.cells] at hcs
    obtain ⟨rfl, rfl, rfl⟩ := hcs
    have hz' : zs.length = cap := by simpa using hz
    refine ⟨by omega, fun g hg => ?_⟩
    by_cases h0 : len = 0
    · exact .inl h0
    obtain ⟨b, off, spot⟩ := x
    have hs : spot = none := by
      have := World.cell?_spot (hcell 0 (by omega))
      simpa [Addr.add] using this
    subst hs
    have hb : b < W.heap.size := by
      have := World.block_lt_of_cell? W _ (hcell 0 (by omega))
      simpa [Addr.add] using this
    refine .inr ⟨b, off, rfl, by omega, fun j hj => ?_⟩
    have hj' : j < zs.length := by omega
    have hw := hwz (zs.getD j 0) (by simp [hj'])
    have hb8 := bounds_u8 hw
    have hc := hcell j hj'
    have e : (⟨b, off, none⟩ : Addr).add j = ⟨b, off + j, none⟩ := by
      unfold Addr.add
      by_cases h : j = 0 <;> simp [h]
    rw [e] at hc
    exact ⟨_, hb8.1, hb8.2, hc⟩
end Go.Proofs.Ytdndgacaohmdnaa
namespace Go.Proofs.Ytdndgacaohmdnaa
open Go.ChangeShapes Go.WideShapes Go.ChangeAt Go.RowKit
set_option linter.unusedVariables false

set_option maxRecDepth 100000 in
theorem fnInClass_lifted (os : Os) (started : os.Started) (H : Type) (enc : TypeId × Value → H) :
    ReturnsInHanded {} Try.checked os 3 .any (Rows.fnInClassSpec.pre6 enc Try.prog Try.f3 Rows.fnInClassRow.domain false) (Rows.fnInClassSpec.post enc Try.prog Try.f3 false true false false) := by
  refine returnsInHanded_of_change (C := Try.checked) own started (by kernel_rfl) Try.func3
    (ChangeSpec.witness6 (enc := enc) (C := Try.checked) false ⟨#[], #[.slice none 0 0], []⟩ 8 (by kernel_rfl) (by kernel_rfl) (by kernel_rfl) (by kernel_rfl)) ?_
  intro W base args ds gs before hval0 hW hcnd _
  have hval : ∀ (j : Nat) t v, Try.f3.params[j]? = some t → args[j]? = some v → Value.okWide Try.prog W .any base t v := hval0
  have hW' := hW
  obtain ⟨p, q, hA0, hV, rfl, hfz, hnd⟩ := hW
  have hA : DataW.TrodAll enc Try.prog W 0 (fun _ => true) true Try.f3.params.toList args.toList ds p := hA0
  rw [Try.params3] at hA hval
  obtain ⟨v0, vs0, d0, ds0, p0, q0, hargs, rfl, rfl, h0, r0⟩ := trodAll_cons hA
  obtain ⟨rfl, rfl, rfl⟩ := trodAll_nil r0
  obtain rfl : args = #[v0] := by cases args; simp_all
  obtain ⟨rfl, rfl⟩ := trodVars_none hV
  have k0 := h0
  have lt0 : ∀ x ∈ p0, x.block < W.heap.size := by obtain ⟨m, hm⟩ := k0; exact DataW.trod_lt m _ _ _ hm
  obtain ⟨a0, len0, cap0, rfl⟩ := okWide_slice Try.underlying22 (hval 0 22 v0 rfl rfl)
  
  obtain ⟨hm0, hb0⟩ := open_bytes h0
  clear hA0 hval0
  refine (inClass_walk implTaskOk_says implDueBefore_says implFixedBefore_says implFairBefore_says a0 len0 cap0 W hm0 hb0).mono fun e W' ⟨he, bel⟩ => ?_
  subst he
  exact ⟨_, rfl, _, _, _, [], _, [], hW', trodAll_mk1 (shut_bool Try.underlying4 _), (trodAll_cons_mk (Below.trod laidOut (by kernel_rfl) (of_decide_eq_true (by kernel_rfl)) k0 bel lt0) trodAll_mk0), rfl, bel.frame _, fun h => by cases h⟩

theorem fnInClass_closed : joinedFacts Try.pinned.checked.prog 3 Try.f3 Rows.fnInClassSpec Rows.fnInClassRow = true :=
  join32 (by kernel_rfl) (by kernel_rfl) (by kernel_rfl) (by kernel_rfl) (by kernel_rfl) (by kernel_rfl) (by kernel_rfl) (by kernel_rfl) (by kernel_rfl) (by kernel_rfl) (by kernel_rfl) (by kernel_rfl) (by kernel_rfl) (by kernel_rfl) (by kernel_rfl) (by kernel_rfl) (by kernel_rfl) (by kernel_rfl) (by kernel_rfl) (by kernel_rfl) (by kernel_rfl) (by kernel_rfl) (by kernel_rfl) (by kernel_rfl) (by kernel_rfl) may_enter (by rw [lifts_final]; kernel_rfl) (by rw [make_is]; kernel_rfl) (by kernel_rfl) (by kernel_rfl) (by kernel_rfl) (by kernel_rfl)

theorem fnInClass_over : Rows.fnInClassRow.holds Try.pinned (OpenSpec.ofChange Rows.fnInClassSpec) :=
  OpenClaim.holds_of_wide 3 Try.f3 rfl rfl rfl rfl rfl rfl rfl ⟨rfl, rfl, rfl, rfl, rfl⟩ rfl rfl rfl rfl rfl (by kernel_rfl) Try.func3 fnInClass_closed
    (of_decide_eq_true (by kernel_rfl)) (by unfold Func.isWrapper; first | (rw [if_pos (by decide +kernel)]; kernel_rfl) | (rw [if_neg (by decide +kernel)]; exact ⟨rfl, rfl⟩))
    (fun os started H enc _ => fnInClass_lifted os started H enc)

theorem fnInClass_holds : Rows.FnInClassSaid := fnInClass_over
end Go.Proofs.Ytdndgacaohmdnaa
