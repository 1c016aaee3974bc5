/-
  The program's heap of two: the second one that is put.
-/
import Derived.Test.YtdndgacaohmdnaaFixHeap
namespace Go.Proofs.Ytdndgacaohmdnaa
open Go.RowKit
attribute [local go_sem] Keeps.refl Keeps.alloc Keeps.drew Keeps.drewN

/-- A row of two: at L and o its slice, at b its elements; the other rows as C has them. -/
structure TwoF (w : World) (L o : Nat) (C : Array Value) (b cap : Nat) (y x : Tsk) : Prop where
  line : w.cell? ⟨L, o, none⟩ = some (.slice (some ⟨b, 0, none⟩) 2 cap)
  others : ∀ k, k ≠ o → w.cell? ⟨L, k, none⟩ = C[k]?
  lt : b < w.heap.size
  low : L < b
  fst : ∀ k, k < 9 → w.cell? ⟨b, k, none⟩ = (ftc y)[k]?
  snd : ∀ k, k < 9 → w.cell? ⟨b, 9 + k, none⟩ = (ftc x)[k]?
  free : ∀ k, w.frozen? ⟨b, k, none⟩ = false
theorem TwoF.keeps {w w' : World} {L o b cap : Nat} {C : Array Value} {y x : Tsk} (h : TwoF w L o C b cap y x) (k : Keeps w w') : TwoF w' L o C b cap y x :=
  ⟨(k.cells _ _ (Nat.lt_trans h.low h.lt)).trans h.line, fun i hi => (k.cells _ _ (Nat.lt_trans h.low h.lt)).trans (h.others i hi), Nat.lt_of_lt_of_le h.lt k.size, h.low, fun i hi => (k.cells _ _ h.lt).trans (h.fst i hi), fun i hi => (k.cells _ _ h.lt).trans (h.snd i hi), fun i => (k.frozens _ _ h.lt).trans (h.free i)⟩

set_option maxRecDepth 100000 in
/-- Which function stands behind the interface's method. -/
theorem method_isBeforeF (x : Tsk) : ∀ (n : Nat) (w : World), 0 < n → (method n 81 (.agg (ftc x)) "loop.example/g00185/impl.isBefore").run Try.prog w = .ok (123, .agg (ftc x)) w
  | 0, _, h => absurd h (Nat.lt_irrefl 0)
  | _ + 1, _, _ => by kernel_rfl
theorem twoF_of {w : World} {L o b cap base : Nat} {C : Array Value} {y x : Tsk} {u : Value} (h : Own 81 9 ftc w base (.slice (some ⟨b, 0, none⟩) ([y] ++ [x]).length cap) ([y] ++ [x])) (B : Blk w L C) (hC : C[o]? = some u) (hL : L < base) :
    TwoF (w.setCell ⟨L, o, none⟩ (.slice (some ⟨b, 0, none⟩) ([y] ++ [x]).length cap)) L o C b cap y x := by
  obtain ⟨f1, f2, f3⟩ := h.free
  obtain ⟨a, cp, e, l, -, -⟩ := h.slice ftc_size
  simp only [Value.slice.injEq] at e
  obtain ⟨rfl, -, rfl⟩ := e
  have hne : L ≠ b := by omega
  rcases l with l | ⟨b', off, e', hb', l⟩
  · simp at l
  · simp only [Option.some.injEq, Addr.mk.injEq] at e'
    obtain ⟨rfl, rfl, -⟩ := e'
    refine ⟨setCell_same ((B.cells o).trans hC) _, fun k hk => (setCell_other (.inr (Ne.symm hk)) _).trans (B.cells k), by simpa using f2, by omega, fun k hk => ?_, fun k hk => ?_, fun k => by simpa using f3 k⟩
    · rw [setCell_other (.inl hne)]
      simpa using l 0 y rfl k hk
    · rw [setCell_other (.inl hne)]
      simpa using l 1 x rfl k hk
/-- At L and o lies a row whose first is z; the other rows are as C has them. -/
def HeadedF (W0 : World) (L o : Nat) (C : Array Value) (z : Tsk) (w' : World) : Prop :=
  ∃ b cap, w'.cell? ⟨L, o, none⟩ = some (.slice (some ⟨b, 0, none⟩) 2 cap) ∧ (∀ k, k ≠ o → w'.cell? ⟨L, k, none⟩ = C[k]?) ∧ (∀ k, k < 9 → w'.cell? ⟨b, k, none⟩ = (ftc z)[k]?) ∧ Keeps W0 w'
/-- The two change places. -/
theorem TwoF.swap {W0 w : World} {L o b cap : Nat} {C : Array Value} {y x : Tsk} (h : TwoF w L o C b cap y x) (k : Keeps W0 w) (h0 : W0.heap.size ≤ L) : HeadedF W0 L o C x (putC (putC w b 9 (ftc y).toList) b 0 (ftc x).toList).drew := by
  have hb := h.low
  have hc : ∀ i, i < 9 → ∃ u, w.cell? ⟨b, i, none⟩ = some u := fun i hi => ⟨(ftc y)[i]'hi, (h.fst i hi).trans (Array.getElem?_eq_getElem hi)⟩
  have hs := swap_cells (A := (ftc y).toList) (B := (ftc x).toList) hb hc rfl
  have hf : ∀ j, (putC (putC w b 9 (ftc y).toList) b 0 (ftc x).toList).drew.cell? ⟨L, j, none⟩ = w.cell? ⟨L, j, none⟩ := fun j => swap_far hb
  have hk := swap_keeps (ftc y).toList (ftc x).toList k (show W0.heap.size ≤ b by omega)
  have hx : ∀ i, (ftc x).toList[i]? = (ftc x)[i]? := fun i => Array.getElem?_toList
  generalize (putC (putC w b 9 (ftc y).toList) b 0 (ftc x).toList).drew = Y at hs hf hk ⊢
  exact ⟨b, cap, (hf o).trans h.line, fun i hi => (hf i).trans (h.others i hi), fun i hi => (hs.2 i hi).trans (hx i), hk⟩
/-- Who of the two comes first. -/
def befX (x y : Tsk) : Tsk := if befF x y then x else y
set_option maxRecDepth 100000 in
set_option maxHeartbeats 8000000 in
/-- The second one that is put. -/
theorem put1F_any (x y : Tsk) (L o : Nat) (C : Array Value) (v : Value) (base : Nat) (W0 w : World) (B : Blk w L C) (hC : C[o]? = some v) (hown : Own 81 9 ftc w base v [y]) (hk : Keeps W0 w) (h0 : W0.heap.size ≤ L) (h1 : L < base) (h2 : base ≤ w.heap.size) :
    Calls Try.prog 88 #[.pointer (some ⟨L, o, none⟩), .agg (ftc x)] w fun e w' => e = .returned (.tuple #[]) ∧
      HeadedF W0 L o C (befX x y) w' := by
  have hl := B.lt
  obtain ⟨b0, cap0, rfl, -, -, -⟩ := hown.some ftc_size (by simp)
  obtain ⟨f1, f2, -⟩ := hown.free
  have hCo : Hid (C[o]? = some (.slice (some ⟨b0, 0, none⟩) 1 cap0)) := hC
  have B1 : Hid (Blk (w.alloc (.cells (ftc x) 81)) L C) := B.alloc _
  have O1 : Hid (Own 81 9 ftc (w.alloc (.cells (ftc x) 81)) base (.slice (some ⟨b0, 0, none⟩) 1 cap0) [y]) := hown.alloc _
  have KW : Hid (Keeps W0 (w.alloc (.cells (ftc x) 81))) := hk.alloc _
  have X1 := Blk.new w (ftc x) 81
  have hsz : Hid ((w.alloc (.cells (ftc x) 81)).heap.size = w.heap.size + 1) := by show _ = _; simp
  go_enter Try.func88, Try.ntmps88
  go_wp2_with fail
  obtain ⟨_, z1, z2⟩ := X1
  have b1 : (w.alloc (.cells (ftc x) 81)).cell? ⟨L, o, none⟩ = some (.slice (some ⟨b0, 0, none⟩) 1 cap0) := (B1.out.cells o).trans hCo.out
  have b2 := B1.out.frozens o
  have lw0 := B1.out.lt
  clear B hown hk hC
  generalize w.alloc (.cells (ftc x) 81) = W at *
  go_cut [14] (fun c wx => c = .pointer (some ⟨L, o, none⟩) ∧ ∃ b cap, TwoF wx L o C b cap y x ∧ Keeps W0 wx)
  case first =>
    go_region_law (refine step_push rfl (.tmp 10) (.tmp 12) 72 rfl base 81 (.agg (ftc Tsk.zero)) 9 72 ftc Try.underlying72 (by kernel_rfl) rfl (by decide) ftc_size ftc_one (.slice (some ⟨b0, 0, none⟩) 1 cap0) [y] (by simp [Act.eval]) ((O1.out.alloc _).keeps (Keeps.refl _).drew) (by have := hsz.out; simp; omega) x _ 1 ((Blk.new _ _ _).keeps (Keeps.refl _).drew) (by simp [Act.eval]) (by simp [maxLen]) (by simp) ?_; intro v' w' hown hgrow; obtain ⟨bb, cap, rfl, li, -, -⟩ := hown.some ftc_size (by simp); have G : Hid (Blk w' L C) := ((B1.out.alloc _).keeps (Keeps.refl _).drew).grown hgrow (by intro k hk; simp [Value.ownBlock] at hk; omega); have g1 : w'.cell? ⟨L, o, none⟩ = some (.slice (some ⟨b0, 0, none⟩) 1 cap0) := (G.out.cells o).trans hCo.out; have g2 := G.out.frozens o; have g0 := G.out.lt)
    all_goals
      go_wp2
      go_meet
      refine ⟨rfl, bb, cap, twoF_of hown G.out hCo.out h1, ?_⟩
      exact ((KW.out.alloc _).drew.grown hgrow (by intro k hk; simp [Value.ownBlock] at hk; omega)).setCell h0 _
  case rest =>
    obtain ⟨rfl, b, cap, T, K⟩ := hcut
    generalize wc = X at *
    have TH : Hid (TwoF X L o C b cap y x) := T
    have KH : Hid (Keeps W0 X) := K
    have l1 : ∀ w', Keeps X w' → w'.cell? ⟨L, o, none⟩ = some (.slice (some ⟨b, 0, none⟩) 2 cap) := Keeps.has T.line
    have y0 : ∀ w', Keeps X w' → w'.cell? ⟨b, 0, none⟩ = some (.int .i64 y.no) := Keeps.has (T.fst 0 (by omega))
    have y1 : ∀ w', Keeps X w' → w'.cell? ⟨b, 1, none⟩ = some (.int .i64 y.cls) := Keeps.has (T.fst 1 (by omega))
    have y2 : ∀ w', Keeps X w' → w'.cell? ⟨b, 2, none⟩ = some (.int .i64 y.cpu) := Keeps.has (T.fst 2 (by omega))
    have y3 : ∀ w', Keeps X w' → w'.cell? ⟨b, 3, none⟩ = some (.int .i64 y.st) := Keeps.has (T.fst 3 (by omega))
    have y4 : ∀ w', Keeps X w' → w'.cell? ⟨b, 4, none⟩ = some (.bool y.idle) := Keeps.has (T.fst 4 (by omega))
    have y5 : ∀ w', Keeps X w' → w'.cell? ⟨b, 5, none⟩ = some (.int .i64 y.prio) := Keeps.has (T.fst 5 (by omega))
    have y6 : ∀ w', Keeps X w' → w'.cell? ⟨b, 6, none⟩ = some (.int .i64 y.round) := Keeps.has (T.fst 6 (by omega))
    have y7 : ∀ w', Keeps X w' → w'.cell? ⟨b, 7, none⟩ = some (.int .i64 y.left) := Keeps.has (T.fst 7 (by omega))
    have y8 : ∀ w', Keeps X w' → w'.cell? ⟨b, 8, none⟩ = some (.int .i64 y.seq) := Keeps.has (T.fst 8 (by omega))
    have x0 : ∀ w', Keeps X w' → w'.cell? ⟨b, 9, none⟩ = some (.int .i64 x.no) := Keeps.has (T.snd 0 (by omega))
    have x1 : ∀ w', Keeps X w' → w'.cell? ⟨b, 10, none⟩ = some (.int .i64 x.cls) := Keeps.has (T.snd 1 (by omega))
    have x2 : ∀ w', Keeps X w' → w'.cell? ⟨b, 11, none⟩ = some (.int .i64 x.cpu) := Keeps.has (T.snd 2 (by omega))
    have x3 : ∀ w', Keeps X w' → w'.cell? ⟨b, 12, none⟩ = some (.int .i64 x.st) := Keeps.has (T.snd 3 (by omega))
    have x4 : ∀ w', Keeps X w' → w'.cell? ⟨b, 13, none⟩ = some (.bool x.idle) := Keeps.has (T.snd 4 (by omega))
    have x5 : ∀ w', Keeps X w' → w'.cell? ⟨b, 14, none⟩ = some (.int .i64 x.prio) := Keeps.has (T.snd 5 (by omega))
    have x6 : ∀ w', Keeps X w' → w'.cell? ⟨b, 15, none⟩ = some (.int .i64 x.round) := Keeps.has (T.snd 6 (by omega))
    have x7 : ∀ w', Keeps X w' → w'.cell? ⟨b, 16, none⟩ = some (.int .i64 x.left) := Keeps.has (T.snd 7 (by omega))
    have x8 : ∀ w', Keeps X w' → w'.cell? ⟨b, 17, none⟩ = some (.int .i64 x.seq) := Keeps.has (T.snd 8 (by omega))
    clear T K z1 z2 b1 b2
    go_wp2_with fail
    have hm := method_isBeforeF x
    refine wp_loop_twice ?_
    go_wp2_with fail
    cases hbf : befF x y
    · have Hb : Hid (befX x y = y) := by show _ = _; simp [befX, hbf]
      refine wp_region_held_drew (S := (fun w' => Keeps X w')) (by kernel_rfl) ?_ (fun hHeld => ?_)
      · exact (Keeps.refl X).drew
      refine wpAnyH_take (i := 0) (v := ?_) (by simp only [List.getElem?_toArray, List.getElem?_cons_zero]; rfl) (by kernel_rfl) (by kernel_rfl) (by kernel_rfl) (by exact fun _ _ _ h => h) (Or.inl ⟨by rfl, ?_⟩) (by assumption) ?_
      rotate_left
      · (intro w hSw; (try dsimp only at hSw); go_simp; try (with_reducible rfl))
      try simp only [Act.put, List.setIfInBounds_toArray, List.set_cons_zero, List.set_cons_succ]
      refine wpAnyH_take (i := 1) (v := ?_) (by simp only [List.getElem?_toArray, List.getElem?_cons_succ, List.getElem?_cons_zero]; rfl) (by kernel_rfl) (by kernel_rfl) (by kernel_rfl) (by exact fun _ _ _ h => h) (Or.inl ⟨by rfl, ?_⟩) (by assumption) ?_
      rotate_left
      · (intro w hSw; (try dsimp only at hSw); go_simp; try (with_reducible rfl))
      try simp only [Act.put, List.setIfInBounds_toArray, List.set_cons_zero, List.set_cons_succ]
      refine wpAnyH_take (i := 2) (v := ?_) (by simp only [List.getElem?_toArray, List.getElem?_cons_succ, List.getElem?_cons_zero]; rfl) (by kernel_rfl) (by kernel_rfl) (by kernel_rfl) (by exact fun _ _ _ h => h) (Or.inl ⟨by rfl, ?_⟩) (by assumption) ?_
      rotate_left
      · (intro w hSw; (try dsimp only at hSw); go_simp; try (with_reducible rfl))
      try simp only [Act.put, List.setIfInBounds_toArray, List.set_cons_zero, List.set_cons_succ]
      refine wpAnyH_take (i := 3) (v := ?_) (by simp only [List.getElem?_toArray, List.getElem?_cons_succ, List.getElem?_cons_zero]; rfl) (by kernel_rfl) (by kernel_rfl) (by kernel_rfl) (by exact fun _ _ _ h => h) (Or.inl ⟨by rfl, ?_⟩) (by assumption) ?_
      rotate_left
      · (intro w hSw; (try dsimp only at hSw); go_simp; try (with_reducible rfl))
      try simp only [Act.put, List.setIfInBounds_toArray, List.set_cons_zero, List.set_cons_succ]
      refine wpAnyH_take (i := 4) (v := ?_) (by simp only [List.getElem?_toArray, List.getElem?_cons_succ, List.getElem?_cons_zero]; rfl) (by kernel_rfl) (by kernel_rfl) (by kernel_rfl) (by exact fun _ _ _ h => h) (Or.inl ⟨by rfl, ?_⟩) (by assumption) ?_
      rotate_left
      · (intro w hSw; (try dsimp only at hSw); go_simp; try (with_reducible rfl))
      try simp only [Act.put, List.setIfInBounds_toArray, List.set_cons_zero, List.set_cons_succ]
      refine wpAnyH_take (i := 5) (v := ?_) (by simp only [List.getElem?_toArray, List.getElem?_cons_succ, List.getElem?_cons_zero]; rfl) (by kernel_rfl) (by kernel_rfl) (by kernel_rfl) (by exact fun _ _ _ h => h) (Or.inl ⟨by rfl, ?_⟩) (by assumption) ?_
      rotate_left
      · (intro w hSw; (try dsimp only at hSw); go_simp; try (with_reducible rfl))
      try simp only [Act.put, List.setIfInBounds_toArray, List.set_cons_zero, List.set_cons_succ]
      refine wpAnyH_take (i := 6) (v := ?_) (by simp only [List.getElem?_toArray, List.getElem?_cons_succ, List.getElem?_cons_zero]; rfl) (by kernel_rfl) (by kernel_rfl) (by kernel_rfl) (by exact fun _ _ _ h => h) (Or.inl ⟨by rfl, ?_⟩) (by assumption) ?_
      rotate_left
      · (intro w hSw; (try dsimp only at hSw); go_simp; try (with_reducible rfl))
      try simp only [Act.put, List.setIfInBounds_toArray, List.set_cons_zero, List.set_cons_succ]
      refine wpAnyH_take (i := 7) (v := ?_) (by simp only [List.getElem?_toArray, List.getElem?_cons_succ, List.getElem?_cons_zero]; rfl) (by kernel_rfl) (by kernel_rfl) (by kernel_rfl) (by exact fun _ _ _ h => h) (Or.inl ⟨by rfl, ?_⟩) (by assumption) ?_
      rotate_left
      · (intro w hSw; (try dsimp only at hSw); go_simp; try (with_reducible rfl))
      try simp only [Act.put, List.setIfInBounds_toArray, List.set_cons_zero, List.set_cons_succ]
      refine wpAnyH_take (i := 8) (v := ?_) (by simp only [List.getElem?_toArray, List.getElem?_cons_succ, List.getElem?_cons_zero]; rfl) (by kernel_rfl) (by kernel_rfl) (by kernel_rfl) (by exact fun _ _ _ h => h) (Or.inl ⟨by rfl, ?_⟩) (by assumption) ?_
      rotate_left
      · (intro w hSw; (try dsimp only at hSw); go_simp; try (with_reducible rfl))
      try simp only [Act.put, List.setIfInBounds_toArray, List.set_cons_zero, List.set_cons_succ]
      refine wpAnyH_take (i := 9) (v := ?_) (by simp only [List.getElem?_toArray, List.getElem?_cons_succ, List.getElem?_cons_zero]; rfl) (by kernel_rfl) (by kernel_rfl) (by kernel_rfl) (by exact fun _ _ _ h => h) (Or.inl ⟨by rfl, ?_⟩) (by assumption) ?_
      rotate_left
      · (intro w hSw; (try dsimp only at hSw); go_simp; try (with_reducible rfl))
      try simp only [Act.put, List.setIfInBounds_toArray, List.set_cons_zero, List.set_cons_succ]
      refine wpAnyH_take (i := 10) (v := ?_) (by simp only [List.getElem?_toArray, List.getElem?_cons_succ, List.getElem?_cons_zero]; rfl) (by kernel_rfl) (by kernel_rfl) (by kernel_rfl) (by exact fun _ _ _ h => h) (Or.inl ⟨by rfl, ?_⟩) (by assumption) ?_
      rotate_left
      · (intro w hSw; (try dsimp only at hSw); go_simp; try (with_reducible rfl))
      try simp only [Act.put, List.setIfInBounds_toArray, List.set_cons_zero, List.set_cons_succ]
      refine wpAnyH_take (i := 11) (v := ?_) (by simp only [List.getElem?_toArray, List.getElem?_cons_succ, List.getElem?_cons_zero]; rfl) (by kernel_rfl) (by kernel_rfl) (by kernel_rfl) (by exact fun _ _ _ h => h) (Or.inl ⟨by rfl, ?_⟩) (by assumption) ?_
      rotate_left
      · (intro w hSw; (try dsimp only at hSw); go_simp; try (with_reducible rfl))
      try simp only [Act.put, List.setIfInBounds_toArray, List.set_cons_zero, List.set_cons_succ]
      refine wpAnyH_take (i := 12) (v := ?_) (by simp only [List.getElem?_toArray, List.getElem?_cons_succ, List.getElem?_cons_zero]; rfl) (by kernel_rfl) (by kernel_rfl) (by kernel_rfl) (by exact fun _ _ _ h => h) (Or.inl ⟨by rfl, ?_⟩) (by assumption) ?_
      rotate_left
      · (intro w hSw; (try dsimp only at hSw); go_simp; try (with_reducible rfl))
      try simp only [Act.put, List.setIfInBounds_toArray, List.set_cons_zero, List.set_cons_succ]
      refine wpAnyH_take (i := 13) (v := ?_) (by simp only [List.getElem?_toArray, List.getElem?_cons_succ, List.getElem?_cons_zero]; rfl) (by kernel_rfl) (by kernel_rfl) (by kernel_rfl) (by exact fun _ _ _ h => h) (Or.inl ⟨by rfl, ?_⟩) (by assumption) ?_
      rotate_left
      · (intro w hSw; (try dsimp only at hSw); go_simp; try (with_reducible rfl))
      try simp only [Act.put, List.setIfInBounds_toArray, List.set_cons_zero, List.set_cons_succ]
      refine wpAnyH_take (i := 14) (v := ?_) (by simp only [List.getElem?_toArray, List.getElem?_cons_succ, List.getElem?_cons_zero]; rfl) (by kernel_rfl) (by kernel_rfl) (by kernel_rfl) (by exact fun _ _ _ h => h) (Or.inl ⟨by rfl, ?_⟩) (by assumption) ?_
      rotate_left
      · (intro w hSw; (try dsimp only at hSw); go_simp; try (with_reducible rfl))
      try simp only [Act.put, List.setIfInBounds_toArray, List.set_cons_zero, List.set_cons_succ]
      refine wpAnyH_ready (rs := [15]) (by kernel_rfl) (by simp) ?_
      refine AllReadyH.cons (by simp only [List.getElem?_toArray, List.getElem?_cons_succ, List.getElem?_cons_zero]; rfl) (fun K hK => ?_) AllReadyH.nil
      go_simp
      first
        | (go_at_call 123; refine (isBeforeF_any x y _).mono ?_; rintro e w5 ⟨rfl, k5⟩; rw [hbf])
      try go_wp2_with fail
      refine hK.out _ _ ?_ (fun hHeld => ?_)
      · exact Keeps.trans (by assumption) (by assumption)
      clear hK K
      try simp only [Act.put, List.setIfInBounds_toArray, List.set_cons_zero, List.set_cons_succ]
      refine wpAnyH_take (i := 16) (v := ?_) (by simp only [List.getElem?_toArray, List.getElem?_cons_succ, List.getElem?_cons_zero]; rfl) (by kernel_rfl) (by kernel_rfl) (by kernel_rfl) (by exact fun _ _ _ h => h) (Or.inl ⟨by rfl, ?_⟩) (by assumption) ?_
      rotate_left
      · (intro w hSw; (try dsimp only at hSw); go_simp; try (with_reducible rfl))
      try simp only [Act.put, List.setIfInBounds_toArray, List.set_cons_zero, List.set_cons_succ]
      refine wpAnyH_done (by kernel_rfl) ?_ _
      have K5 : Keeps X w5 := by assumption
      go_wp2
      exact bodyPost_ret (v := .tuple #[]) (results_none rfl _ _ _) rfl ⟨rfl, by rw [Hb.out]; exact ⟨b, cap, l1 _ K5, (TH.out.keeps K5).others, (TH.out.keeps K5).fst, KH.out.trans K5⟩⟩
    · have Hb : Hid (befX x y = x) := by show _ = _; simp [befX, hbf]
      refine wp_region_held_drew (S := (fun w' => Keeps X w')) (by kernel_rfl) ?_ (fun hHeld => ?_)
      · exact (Keeps.refl X).drew
      refine wpAnyH_take (i := 0) (v := ?_) (by simp only [List.getElem?_toArray, List.getElem?_cons_zero]; rfl) (by kernel_rfl) (by kernel_rfl) (by kernel_rfl) (by exact fun _ _ _ h => h) (Or.inl ⟨by rfl, ?_⟩) (by assumption) ?_
      rotate_left
      · (intro w hSw; (try dsimp only at hSw); go_simp; try (with_reducible rfl))
      try simp only [Act.put, List.setIfInBounds_toArray, List.set_cons_zero, List.set_cons_succ]
      refine wpAnyH_take (i := 1) (v := ?_) (by simp only [List.getElem?_toArray, List.getElem?_cons_succ, List.getElem?_cons_zero]; rfl) (by kernel_rfl) (by kernel_rfl) (by kernel_rfl) (by exact fun _ _ _ h => h) (Or.inl ⟨by rfl, ?_⟩) (by assumption) ?_
      rotate_left
      · (intro w hSw; (try dsimp only at hSw); go_simp; try (with_reducible rfl))
      try simp only [Act.put, List.setIfInBounds_toArray, List.set_cons_zero, List.set_cons_succ]
      refine wpAnyH_take (i := 2) (v := ?_) (by simp only [List.getElem?_toArray, List.getElem?_cons_succ, List.getElem?_cons_zero]; rfl) (by kernel_rfl) (by kernel_rfl) (by kernel_rfl) (by exact fun _ _ _ h => h) (Or.inl ⟨by rfl, ?_⟩) (by assumption) ?_
      rotate_left
      · (intro w hSw; (try dsimp only at hSw); go_simp; try (with_reducible rfl))
      try simp only [Act.put, List.setIfInBounds_toArray, List.set_cons_zero, List.set_cons_succ]
      refine wpAnyH_take (i := 3) (v := ?_) (by simp only [List.getElem?_toArray, List.getElem?_cons_succ, List.getElem?_cons_zero]; rfl) (by kernel_rfl) (by kernel_rfl) (by kernel_rfl) (by exact fun _ _ _ h => h) (Or.inl ⟨by rfl, ?_⟩) (by assumption) ?_
      rotate_left
      · (intro w hSw; (try dsimp only at hSw); go_simp; try (with_reducible rfl))
      try simp only [Act.put, List.setIfInBounds_toArray, List.set_cons_zero, List.set_cons_succ]
      refine wpAnyH_take (i := 4) (v := ?_) (by simp only [List.getElem?_toArray, List.getElem?_cons_succ, List.getElem?_cons_zero]; rfl) (by kernel_rfl) (by kernel_rfl) (by kernel_rfl) (by exact fun _ _ _ h => h) (Or.inl ⟨by rfl, ?_⟩) (by assumption) ?_
      rotate_left
      · (intro w hSw; (try dsimp only at hSw); go_simp; try (with_reducible rfl))
      try simp only [Act.put, List.setIfInBounds_toArray, List.set_cons_zero, List.set_cons_succ]
      refine wpAnyH_take (i := 5) (v := ?_) (by simp only [List.getElem?_toArray, List.getElem?_cons_succ, List.getElem?_cons_zero]; rfl) (by kernel_rfl) (by kernel_rfl) (by kernel_rfl) (by exact fun _ _ _ h => h) (Or.inl ⟨by rfl, ?_⟩) (by assumption) ?_
      rotate_left
      · (intro w hSw; (try dsimp only at hSw); go_simp; try (with_reducible rfl))
      try simp only [Act.put, List.setIfInBounds_toArray, List.set_cons_zero, List.set_cons_succ]
      refine wpAnyH_take (i := 6) (v := ?_) (by simp only [List.getElem?_toArray, List.getElem?_cons_succ, List.getElem?_cons_zero]; rfl) (by kernel_rfl) (by kernel_rfl) (by kernel_rfl) (by exact fun _ _ _ h => h) (Or.inl ⟨by rfl, ?_⟩) (by assumption) ?_
      rotate_left
      · (intro w hSw; (try dsimp only at hSw); go_simp; try (with_reducible rfl))
      try simp only [Act.put, List.setIfInBounds_toArray, List.set_cons_zero, List.set_cons_succ]
      refine wpAnyH_take (i := 7) (v := ?_) (by simp only [List.getElem?_toArray, List.getElem?_cons_succ, List.getElem?_cons_zero]; rfl) (by kernel_rfl) (by kernel_rfl) (by kernel_rfl) (by exact fun _ _ _ h => h) (Or.inl ⟨by rfl, ?_⟩) (by assumption) ?_
      rotate_left
      · (intro w hSw; (try dsimp only at hSw); go_simp; try (with_reducible rfl))
      try simp only [Act.put, List.setIfInBounds_toArray, List.set_cons_zero, List.set_cons_succ]
      refine wpAnyH_take (i := 8) (v := ?_) (by simp only [List.getElem?_toArray, List.getElem?_cons_succ, List.getElem?_cons_zero]; rfl) (by kernel_rfl) (by kernel_rfl) (by kernel_rfl) (by exact fun _ _ _ h => h) (Or.inl ⟨by rfl, ?_⟩) (by assumption) ?_
      rotate_left
      · (intro w hSw; (try dsimp only at hSw); go_simp; try (with_reducible rfl))
      try simp only [Act.put, List.setIfInBounds_toArray, List.set_cons_zero, List.set_cons_succ]
      refine wpAnyH_take (i := 9) (v := ?_) (by simp only [List.getElem?_toArray, List.getElem?_cons_succ, List.getElem?_cons_zero]; rfl) (by kernel_rfl) (by kernel_rfl) (by kernel_rfl) (by exact fun _ _ _ h => h) (Or.inl ⟨by rfl, ?_⟩) (by assumption) ?_
      rotate_left
      · (intro w hSw; (try dsimp only at hSw); go_simp; try (with_reducible rfl))
      try simp only [Act.put, List.setIfInBounds_toArray, List.set_cons_zero, List.set_cons_succ]
      refine wpAnyH_take (i := 10) (v := ?_) (by simp only [List.getElem?_toArray, List.getElem?_cons_succ, List.getElem?_cons_zero]; rfl) (by kernel_rfl) (by kernel_rfl) (by kernel_rfl) (by exact fun _ _ _ h => h) (Or.inl ⟨by rfl, ?_⟩) (by assumption) ?_
      rotate_left
      · (intro w hSw; (try dsimp only at hSw); go_simp; try (with_reducible rfl))
      try simp only [Act.put, List.setIfInBounds_toArray, List.set_cons_zero, List.set_cons_succ]
      refine wpAnyH_take (i := 11) (v := ?_) (by simp only [List.getElem?_toArray, List.getElem?_cons_succ, List.getElem?_cons_zero]; rfl) (by kernel_rfl) (by kernel_rfl) (by kernel_rfl) (by exact fun _ _ _ h => h) (Or.inl ⟨by rfl, ?_⟩) (by assumption) ?_
      rotate_left
      · (intro w hSw; (try dsimp only at hSw); go_simp; try (with_reducible rfl))
      try simp only [Act.put, List.setIfInBounds_toArray, List.set_cons_zero, List.set_cons_succ]
      refine wpAnyH_take (i := 12) (v := ?_) (by simp only [List.getElem?_toArray, List.getElem?_cons_succ, List.getElem?_cons_zero]; rfl) (by kernel_rfl) (by kernel_rfl) (by kernel_rfl) (by exact fun _ _ _ h => h) (Or.inl ⟨by rfl, ?_⟩) (by assumption) ?_
      rotate_left
      · (intro w hSw; (try dsimp only at hSw); go_simp; try (with_reducible rfl))
      try simp only [Act.put, List.setIfInBounds_toArray, List.set_cons_zero, List.set_cons_succ]
      refine wpAnyH_take (i := 13) (v := ?_) (by simp only [List.getElem?_toArray, List.getElem?_cons_succ, List.getElem?_cons_zero]; rfl) (by kernel_rfl) (by kernel_rfl) (by kernel_rfl) (by exact fun _ _ _ h => h) (Or.inl ⟨by rfl, ?_⟩) (by assumption) ?_
      rotate_left
      · (intro w hSw; (try dsimp only at hSw); go_simp; try (with_reducible rfl))
      try simp only [Act.put, List.setIfInBounds_toArray, List.set_cons_zero, List.set_cons_succ]
      refine wpAnyH_take (i := 14) (v := ?_) (by simp only [List.getElem?_toArray, List.getElem?_cons_succ, List.getElem?_cons_zero]; rfl) (by kernel_rfl) (by kernel_rfl) (by kernel_rfl) (by exact fun _ _ _ h => h) (Or.inl ⟨by rfl, ?_⟩) (by assumption) ?_
      rotate_left
      · (intro w hSw; (try dsimp only at hSw); go_simp; try (with_reducible rfl))
      try simp only [Act.put, List.setIfInBounds_toArray, List.set_cons_zero, List.set_cons_succ]
      refine wpAnyH_ready (rs := [15]) (by kernel_rfl) (by simp) ?_
      refine AllReadyH.cons (by simp only [List.getElem?_toArray, List.getElem?_cons_succ, List.getElem?_cons_zero]; rfl) (fun K hK => ?_) AllReadyH.nil
      go_simp
      first
        | (go_at_call 123; refine (isBeforeF_any x y _).mono ?_; rintro e w5 ⟨rfl, k5⟩; rw [hbf])
      try go_wp2_with fail
      refine hK.out _ _ ?_ (fun hHeld => ?_)
      · exact Keeps.trans (by assumption) (by assumption)
      clear hK K
      try simp only [Act.put, List.setIfInBounds_toArray, List.set_cons_zero, List.set_cons_succ]
      refine wpAnyH_take (i := 16) (v := ?_) (by simp only [List.getElem?_toArray, List.getElem?_cons_succ, List.getElem?_cons_zero]; rfl) (by kernel_rfl) (by kernel_rfl) (by kernel_rfl) (by exact fun _ _ _ h => h) (Or.inl ⟨by rfl, ?_⟩) (by assumption) ?_
      rotate_left
      · (intro w hSw; (try dsimp only at hSw); go_simp; try (with_reducible rfl))
      try simp only [Act.put, List.setIfInBounds_toArray, List.set_cons_zero, List.set_cons_succ]
      refine wpAnyH_done (by kernel_rfl) ?_ _
      have K5 : Keeps X w5 := by assumption
      have ll : w5.cell? ⟨L, o, none⟩ = some (.slice (some ⟨b, 0, none⟩) 2 cap) := l1 _ K5
      have fr := (TH.out.keeps K5).free
      have u0 : w5.cell? ⟨b, 0, none⟩ = some (.int .i64 y.no) := y0 _ K5
      have u1 : w5.cell? ⟨b, 1, none⟩ = some (.int .i64 y.cls) := y1 _ K5
      have u2 : w5.cell? ⟨b, 2, none⟩ = some (.int .i64 y.cpu) := y2 _ K5
      have u3 : w5.cell? ⟨b, 3, none⟩ = some (.int .i64 y.st) := y3 _ K5
      have u4 : w5.cell? ⟨b, 4, none⟩ = some (.bool y.idle) := y4 _ K5
      have u5 : w5.cell? ⟨b, 5, none⟩ = some (.int .i64 y.prio) := y5 _ K5
      have u6 : w5.cell? ⟨b, 6, none⟩ = some (.int .i64 y.round) := y6 _ K5
      have u7 : w5.cell? ⟨b, 7, none⟩ = some (.int .i64 y.left) := y7 _ K5
      have u8 : w5.cell? ⟨b, 8, none⟩ = some (.int .i64 y.seq) := y8 _ K5
      have v0 : w5.cell? ⟨b, 9, none⟩ = some (.int .i64 x.no) := x0 _ K5
      have v1 : w5.cell? ⟨b, 10, none⟩ = some (.int .i64 x.cls) := x1 _ K5
      have v2 : w5.cell? ⟨b, 11, none⟩ = some (.int .i64 x.cpu) := x2 _ K5
      have v3 : w5.cell? ⟨b, 12, none⟩ = some (.int .i64 x.st) := x3 _ K5
      have v4 : w5.cell? ⟨b, 13, none⟩ = some (.bool x.idle) := x4 _ K5
      have v5 : w5.cell? ⟨b, 14, none⟩ = some (.int .i64 x.prio) := x5 _ K5
      have v6 : w5.cell? ⟨b, 15, none⟩ = some (.int .i64 x.round) := x6 _ K5
      have v7 : w5.cell? ⟨b, 16, none⟩ = some (.int .i64 x.left) := x7 _ K5
      have v8 : w5.cell? ⟨b, 17, none⟩ = some (.int .i64 x.seq) := x8 _ K5
      clear l1 y0 y1 y2 y3 y4 y5 y6 y7 y8 x0 x1 x2 x3 x4 x5 x6 x7 x8 k5 hHeld
      go_wp2_with fail
      go_region
      have D := (TH.out.keeps K5).swap (KH.out.trans K5) h0
      change Exit.then _ _ _ _ (putC (putC w5 b 9 (ftc y).toList) b 0 (ftc x).toList).drew
      clear u0 u1 u2 u3 u4 u5 u6 u7 u8 v0 v1 v2 v3 v4 v5 v6 v7 v8 fr ll
      generalize (putC (putC w5 b 9 (ftc y).toList) b 0 (ftc x).toList).drew = Y at D ⊢
      have DH : Hid (HeadedF W0 L o C x Y) := D
      clear D
      go_wp2
      go_end0
      exact ⟨rfl, by rw [Hb.out]; exact DH.out⟩
end Go.Proofs.Ytdndgacaohmdnaa
