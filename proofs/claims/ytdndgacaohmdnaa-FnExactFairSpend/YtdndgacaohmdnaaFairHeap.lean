/-
  The program's heap of those that share fairly: one more is put into it.
-/
import Derived.Test.YtdndgacaohmdnaaImplTask
import Derived.Test.YtdndgacaohmdnaaHeap
import Derived.Test.YtdndgacaohmdnaaRowSet
import Derived.Test.YtdndgacaohmdnaaFairHeapP
namespace Go.Proofs.Ytdndgacaohmdnaa
open Go.RowKit
attribute [local go_sem] Keeps.refl Keeps.alloc Keeps.drew Keeps.drewN

theorem rtc_size (t : Tsk) : (rtc t).size = 7 := rfl
theorem rtc_one (t : Tsk) : ∀ u ∈ (rtc t).toList, u.oneCell' = true := by
  intro u hu
  simp at hu
  rcases hu with rfl | rfl | rfl | rfl | rfl | rfl | rfl <;> rfl
set_option maxRecDepth 100000 in
set_option maxHeartbeats 1000000 in
theorem isBeforeR_any (a b : Tsk) (w : World) :
    Calls Try.prog 124 #[.agg (rtc a), .agg (rtc b)] w fun e w' => e = .returned (.bool (befV a b)) ∧ Keeps w w' := by
  cases h1 : decide (a.v < b.v)
  · cases h2 : (a.v == b.v)
    · have Hr : Hid (befV a b = false) := by show _ = _; simp only [befV, h1, h2, Bool.false_and, Bool.or_false]
      go_enter Try.func124, Try.ntmps124
      go_wp2
      go_ret
      exact ⟨by rw [Hr.out]; rfl, ((Keeps.refl _).alloc _).alloc _⟩
    · have Hr : Hid (befV a b = decide (a.no < b.no)) := by show _ = _; simp only [befV, h1, h2, Bool.true_and, Bool.false_or]
      go_enter Try.func124, Try.ntmps124
      go_wp2
      go_ret
      exact ⟨by rw [Hr.out]; rfl, ((Keeps.refl _).alloc _).alloc _⟩
  · have Hr : Hid (befV a b = true) := by show _ = _; simp only [befV, h1, Bool.true_or]
    go_enter Try.func124, Try.ntmps124
    go_wp2
    go_ret
    exact ⟨by rw [Hr.out]; rfl, ((Keeps.refl _).alloc _).alloc _⟩
set_option maxRecDepth 100000 in
/-- Which function stands behind the interface's method. -/
theorem method_isBeforeR (x : Tsk) : ∀ (n : Nat) (w : World), 0 < n → (method n 87 (.agg (rtc x)) "loop.example/g00185/impl.isBefore").run Try.prog w = .ok (124, .agg (rtc x)) w
  | 0, _, h => absurd h (Nat.lt_irrefl 0)
  | _ + 1, _, _ => by kernel_rfl
/-- The row v of xs, at or above base. -/
abbrev OwnR (w : World) (base : Nat) (v : Value) (xs : List Tsk) : Prop := Own 87 7 rtc w base v xs
/-- At L lies a heap: its row lies above, and nothing of W0 has turned. -/
structure Line (W0 : World) (L base : Nat) (v : Value) (xs : List Tsk) (w : World) : Prop where
  line : Blk w L #[v]
  own : OwnR w base v xs
  keeps : Keeps W0 w
theorem Line.go {W0 w w' : World} {L base : Nat} {v : Value} {xs : List Tsk} (h : Line W0 L base v xs w) (k : Keeps w w') : Line W0 L base v xs w' := ⟨h.line.keeps k, h.own.keeps k, h.keeps.trans k⟩
theorem Line.at {W0 w : World} {L base b n cap : Nat} {xs : List Tsk} (h : Line W0 L base (.slice (some ⟨b, 0, none⟩) n cap) xs w) {i : Nat} {x : Tsk} (hx : xs[i]? = some x) : (w.cell? ⟨b, i * 7, none⟩ = (rtc x)[0]?) ∧ ∀ j, j < 7 → w.cell? ⟨b, i * 7 + j, none⟩ = (rtc x)[j]? := by
  obtain ⟨a, cp, e, l, -, -⟩ := h.own.slice rtc_size
  simp only [Value.slice.injEq] at e
  obtain ⟨rfl, -, -⟩ := e
  rcases l with rfl | ⟨b', off, e', -, l⟩
  · simp at hx
  · simp only [Option.some.injEq, Addr.mk.injEq] at e'
    obtain ⟨rfl, rfl, -⟩ := e'
    exact ⟨by simpa using l i x hx 0 (by omega), fun j hj => by simpa using l i x hx j hj⟩
theorem putC_frozen {b : Nat} : ∀ (Ls : List Value) (w : World) (k : Nat) (a : Addr), (putC w b k Ls).frozen? a = w.frozen? a
  | [], _, _, _ => rfl
  | v :: r, w, k, a => (putC_frozen r (w.setCell ⟨b, k, none⟩ v) (k + 1) a).trans (by simp)
/-- Two change places. -/
theorem Line.swap {W0 w : World} {L base b n cap : Nat} {ys : List Tsk} (h : Line W0 L base (.slice (some ⟨b, 0, none⟩) n cap) ys w) {k m : Nat} (hk : k < ys.length) (hm : m < ys.length) (hn : ys.length = n) (hL : L < base) (h0 : W0.heap.size ≤ L) (x y : Tsk) :
    Line W0 L base (.slice (some ⟨b, 0, none⟩) n cap) ((ys.set k y).set m x) (putC (putC w b (k * 7) (rtc y).toList) b (m * 7) (rtc x).toList).drew := by
  subst hn
  obtain ⟨f1, f2, -⟩ := h.own.free
  have o1 := h.own.put rtc_size hk y
  rw [List.length_set] at o1
  have o2 : OwnR (putC (putC w b (k * 7) (rtc y).toList) b (m * 7) (rtc x).toList) base (.slice (some ⟨b, 0, none⟩) ys.length cap) ((ys.set k y).set m x) := by
    have := Own.put (xs := ys.set k y) (i := m) rtc_size (by rw [List.length_set]; exact o1) (by simpa using hm) x
    rw [List.length_set, List.length_set] at this
    exact this
  exact ⟨(Blk.farC (by omega) _ _ (Blk.farC (by omega) _ _ h.line)).keeps (Keeps.refl _).drew, o2.keeps (Keeps.refl _).drew, (Keeps.putC (b := b) (by omega) _ _ (Keeps.putC (b := b) (by omega) _ _ h.keeps)).drew⟩
/-- What is there when x has been put. -/
def PutR (W0 : World) (L base : Nat) (xs : List Tsk) (x : Tsk) (w' : World) : Prop := ∃ v' ys, Line W0 L base v' ys w' ∧ Sifted xs x ys
set_option maxRecDepth 100000 in
set_option maxHeartbeats 8000000 in
/-- One more is put. -/
theorem putR_any (x : Tsk) (L : Nat) (v : Value) (xs : List Tsk) (base : Nat) (W0 w : World) (hi : Line W0 L base v xs w) (hh : HeapL xs) (h0 : W0.heap.size ≤ L) (h1 : L < base) (h2 : base ≤ w.heap.size) (hlen : xs.length < 1048576) :
    Calls Try.prog 100 #[.pointer (some ⟨L, 0, none⟩), .agg (rtc x)] w fun e w' => e = .returned (.tuple #[]) ∧ PutR W0 L base xs x w' := by
  obtain ⟨B, hown, hk⟩ := hi
  obtain ⟨a0, cap0, rfl, -, -, -⟩ := hown.slice rtc_size
  have hob : ∀ k, (Value.slice a0 xs.length cap0).ownBlock = some k → base ≤ k := fun k hk => (World.ownsRow.lt hown k hk).1
  generalize hn0 : xs.length = n0 at *
  have Hn0 : Hid (xs.length = n0) := hn0
  clear hn0
  have B1 : Hid (Blk (w.alloc (.cells (rtc x) 87)) L #[.slice a0 n0 cap0]) := B.alloc _
  have O1 : Hid (OwnR (w.alloc (.cells (rtc x) 87)) base (.slice a0 n0 cap0) xs) := hown.alloc _
  have KW : Hid (Keeps W0 (w.alloc (.cells (rtc x) 87))) := hk.alloc _
  have X1 := Blk.new w (rtc x) 87
  have hsz : Hid ((w.alloc (.cells (rtc x) 87)).heap.size = w.heap.size + 1) := by show _ = _; simp
  go_enter Try.func100, Try.ntmps100
  go_wp2_with fail
  obtain ⟨_, z1, z2⟩ := X1
  have b1 : (w.alloc (.cells (rtc x) 87)).cell? ⟨L, 0, none⟩ = some (.slice a0 n0 cap0) := B1.out.cells 0
  have b2 := B1.out.frozens 0
  have lw0 := B1.out.lt
  clear B hown hk
  generalize w.alloc (.cells (rtc x) 87) = W at *
  go_cut [14] (fun c wx => c = .pointer (some ⟨L, 0, none⟩) ∧ ∃ b cap, Line W0 L base (.slice (some ⟨b, 0, none⟩) (n0 + 1) cap) (xs ++ [x]) wx)
  case first =>
    go_region_law (refine step_push rfl (.tmp 10) (.tmp 12) 116 rfl base 87 (.agg (rtc Tsk.zero)) 7 56 rtc Try.underlying116 (by kernel_rfl) rfl (by decide) rtc_size rtc_one (.slice a0 n0 cap0) xs (by simp [Act.eval]) ((O1.out.alloc _).keeps (Keeps.refl _).drew) (by have := hsz.out; simp; omega) x _ 1 ((Blk.new _ _ _).keeps (Keeps.refl _).drew) (by simp [Act.eval]) (by have := Hn0.out; unfold maxLen; omega) (by have := Hn0.out; omega) ?_; intro v' w' hown hgrow; obtain ⟨bb, cap, rfl, li, -, -⟩ := hown.some rtc_size (by simp); have G : Hid (Blk w' L #[.slice a0 n0 cap0]) := ((B1.out.alloc _).keeps (Keeps.refl _).drew).grown hgrow (by intro k hk; have := hob k hk; omega); have g1 : w'.cell? ⟨L, 0, none⟩ = some (.slice a0 n0 cap0) := G.out.cells 0; have g2 := G.out.frozens 0; have g0 := G.out.lt)
    all_goals
      go_wp2
      go_meet
      have e1 : (xs ++ [x]).length = n0 + 1 := by have := Hn0.out; simp; omega
      rw [e1] at hown
      refine ⟨rfl, bb, cap, ⟨?_, ?_, ?_⟩⟩
      · have := G.out.set 0 (by simp) (.slice (some ⟨bb, 0, none⟩) (n0 + 1) cap)
        simpa [e1, Hn0.out] using this
      · have := hown.butG ((KeepsBut.refl L w').setCell 0 (.slice (some ⟨bb, 0, none⟩) (n0 + 1) cap)) h1
        simpa [e1, Hn0.out] using this
      · exact ((KW.out.alloc _).drew.grown hgrow (by intro k hk; have := hob k hk; omega)).setCell h0 _
  case rest =>
    obtain ⟨rfl, b, cap, T⟩ := hcut
    generalize wc = X at *
    have TH : Hid (Line W0 L base (.slice (some ⟨b, 0, none⟩) (n0 + 1) cap) (xs ++ [x]) X) := T
    have l1 : X.cell? ⟨L, 0, none⟩ = some (.slice (some ⟨b, 0, none⟩) (n0 + 1) cap) := T.line.cells 0
    clear T z1 z2 b1 b2
    go_wp2_with fail
    go_loopw [4] (fun a wr => ∃ k : Nat, a = .int .i64 k ∧ ∃ ys, Sift xs x k ys ∧ Line W0 L base (.slice (some ⟨b, 0, none⟩) (n0 + 1) cap) ys wr) (fun a _ => (intOf a).toNat)
    case atStart => exact ⟨n0, by go_num, xs ++ [x], by have := Sift.start hh x; rw [Hn0.out] at this; exact this, TH.out⟩
    case round =>
      obtain ⟨k, rfl, ys, hS, hL⟩ := hrel
      have SH : Hid (Sift xs x k ys) := hS
      have LH : Hid (Line W0 L base (.slice (some ⟨b, 0, none⟩) (n0 + 1) cap) ys wr) := hL
      have Hl : Hid (ys.length = n0 + 1) := by show _ = _; rw [hS.len, Hn0.out]
      have hkn : k < n0 + 1 := by have := hS.lt; rw [Hl.out] at this; exact this
      clear l1 TH hS hL
      by_cases hk0 : k = 0
      · have hg : decide (0 < k) = false := by simp; omega
        have S0 : Sift xs x 0 ys := by have := SH.out; rw [hk0] at this; exact this
        have SE : Hid (Sifted xs x ys) := S0.atTop
        clear S0 hk0
        go_wp2
        go_end0
        exact ⟨rfl, _, ys, LH.out, SE.out⟩
      · have hg : decide (0 < k) = true := by simp; omega
        obtain ⟨m, hm⟩ : ∃ m, m = k - 1 := ⟨_, rfl⟩
        obtain ⟨p, hp⟩ : ∃ p, p = (k - 1) / 2 := ⟨_, rfl⟩
        have hp7 : p < k := by omega
        obtain ⟨y, hy⟩ : ∃ y, ys[(k - 1) / 2]? = some y := ⟨_, List.getElem?_eq_getElem (by have := Hl.out; omega)⟩
        have HY : Hid (ys[(k - 1) / 2]? = some y) := hy
        have HP : Hid (p = (k - 1) / 2) := hp
        have hpn : p < n0 + 1 := by omega
        have hki : (k : Int) < (n0 : Int) + 1 := by omega
        have hpi : (p : Int) < (n0 : Int) + 1 := by omega
        have e1 : (k : Int) - 1 = (m : Int) := by omega
        have e2 : IntKind.i64.wrap (m : Int) = (m : Int) := Go.IntWalk.i64_in _ (by omega)
        have e3 : Int.tdiv (m : Int) 2 = (p : Int) := by
          have : (m : Int).tdiv 2 = ((m / 2 : Nat) : Int) := rfl
          rw [this, hp, hm]
        have e4 : IntKind.i64.wrap (p : Int) = (p : Int) := Go.IntWalk.i64_in _ (by omega)
        obtain ⟨x00, x01⟩ := LH.out.at SH.out.me
        obtain ⟨y00, y01⟩ := LH.out.at hy
        rw [← hp] at y00 y01
        clear hm hp hy
        generalize wr = X at *
        have l1 : ∀ w', Keeps X w' → w'.cell? ⟨L, 0, none⟩ = some (.slice (some ⟨b, 0, none⟩) (n0 + 1) cap) := Keeps.has (LH.out.line.cells 0)
        have x0 : ∀ w', Keeps X w' → w'.cell? ⟨b, k * 7, none⟩ = some (.int .i64 x.no) := Keeps.has x00
        have x1 : ∀ w', Keeps X w' → w'.cell? ⟨b, k * 7 + 1, none⟩ = some (.int .i64 x.cls) := Keeps.has (x01 1 (by omega))
        have x2 : ∀ w', Keeps X w' → w'.cell? ⟨b, k * 7 + 2, none⟩ = some (.int .i64 x.cpu) := Keeps.has (x01 2 (by omega))
        have x3 : ∀ w', Keeps X w' → w'.cell? ⟨b, k * 7 + 3, none⟩ = some (.int .i64 x.st) := Keeps.has (x01 3 (by omega))
        have x4 : ∀ w', Keeps X w' → w'.cell? ⟨b, k * 7 + 4, none⟩ = some (.bool x.idle) := Keeps.has (x01 4 (by omega))
        have x5 : ∀ w', Keeps X w' → w'.cell? ⟨b, k * 7 + 5, none⟩ = some (.int .i64 x.nice) := Keeps.has (x01 5 (by omega))
        have x6 : ∀ w', Keeps X w' → w'.cell? ⟨b, k * 7 + 6, none⟩ = some (.int .i64 x.v) := Keeps.has (x01 6 (by omega))
        have y0 : ∀ w', Keeps X w' → w'.cell? ⟨b, p * 7, none⟩ = some (.int .i64 y.no) := Keeps.has y00
        have y1 : ∀ w', Keeps X w' → w'.cell? ⟨b, p * 7 + 1, none⟩ = some (.int .i64 y.cls) := Keeps.has (y01 1 (by omega))
        have y2 : ∀ w', Keeps X w' → w'.cell? ⟨b, p * 7 + 2, none⟩ = some (.int .i64 y.cpu) := Keeps.has (y01 2 (by omega))
        have y3 : ∀ w', Keeps X w' → w'.cell? ⟨b, p * 7 + 3, none⟩ = some (.int .i64 y.st) := Keeps.has (y01 3 (by omega))
        have y4 : ∀ w', Keeps X w' → w'.cell? ⟨b, p * 7 + 4, none⟩ = some (.bool y.idle) := Keeps.has (y01 4 (by omega))
        have y5 : ∀ w', Keeps X w' → w'.cell? ⟨b, p * 7 + 5, none⟩ = some (.int .i64 y.nice) := Keeps.has (y01 5 (by omega))
        have y6 : ∀ w', Keeps X w' → w'.cell? ⟨b, p * 7 + 6, none⟩ = some (.int .i64 y.v) := Keeps.has (y01 6 (by omega))
        clear x00 x01 y00 y01
        have hm := method_isBeforeR x
        go_wp2_with fail
        cases hbf : befV x y
        · have SE : Hid (Sifted xs x ys) := SH.out.stay (by omega) HY.out hbf
          refine wp_region_held_drew (S := (fun w' => Keeps X w')) (by kernel_rfl) ?_ (fun hHeld => ?_)
          · exact (Keeps.refl X).drew
          refine wpAnyH_take (i := 0) (v := ?_) (by simp only [List.getElem?_toArray, List.getElem?_cons_zero]; rfl) (by kernel_rfl) (by kernel_rfl) (by kernel_rfl) (by exact fun _ _ _ h => h) (Or.inl ⟨by rfl, ?_⟩) (by assumption) ?_
          rotate_left
          · (intro w hSw; (try dsimp only at hSw); go_simp; try (with_reducible rfl))
          try simp only [Act.put, List.setIfInBounds_toArray, List.set_cons_zero, List.set_cons_succ]
          refine wpAnyH_take (i := 1) (v := ?_) (by simp only [List.getElem?_toArray, List.getElem?_cons_succ, List.getElem?_cons_zero]; rfl) (by kernel_rfl) (by kernel_rfl) (by kernel_rfl) (by exact fun _ _ _ h => h) (Or.inl ⟨by rfl, ?_⟩) (by assumption) ?_
          rotate_left
          · (intro w hSw; (try dsimp only at hSw); go_simp; try (with_reducible rfl))
          try simp only [Act.put, List.setIfInBounds_toArray, List.set_cons_zero, List.set_cons_succ]
          refine wpAnyH_take (i := 2) (v := ?_) (by simp only [List.getElem?_toArray, List.getElem?_cons_succ, List.getElem?_cons_zero]; rfl) (by kernel_rfl) (by kernel_rfl) (by kernel_rfl) (by exact fun _ _ _ h => h) (Or.inl ⟨by rfl, ?_⟩) (by assumption) ?_
          rotate_left
          · (intro w hSw; (try dsimp only at hSw); go_simp; try (with_reducible rfl))
          try simp only [Act.put, List.setIfInBounds_toArray, List.set_cons_zero, List.set_cons_succ]
          refine wpAnyH_take (i := 3) (v := ?_) (by simp only [List.getElem?_toArray, List.getElem?_cons_succ, List.getElem?_cons_zero]; rfl) (by kernel_rfl) (by kernel_rfl) (by kernel_rfl) (by exact fun _ _ _ h => h) (Or.inl ⟨by rfl, ?_⟩) (by assumption) ?_
          rotate_left
          · (intro w hSw; (try dsimp only at hSw); go_simp; try (with_reducible rfl))
          try simp only [Act.put, List.setIfInBounds_toArray, List.set_cons_zero, List.set_cons_succ]
          refine wpAnyH_take (i := 4) (v := ?_) (by simp only [List.getElem?_toArray, List.getElem?_cons_succ, List.getElem?_cons_zero]; rfl) (by kernel_rfl) (by kernel_rfl) (by kernel_rfl) (by exact fun _ _ _ h => h) (Or.inl ⟨by rfl, ?_⟩) (by assumption) ?_
          rotate_left
          · (intro w hSw; (try dsimp only at hSw); go_simp; try (with_reducible rfl))
          try simp only [Act.put, List.setIfInBounds_toArray, List.set_cons_zero, List.set_cons_succ]
          refine wpAnyH_take (i := 5) (v := ?_) (by simp only [List.getElem?_toArray, List.getElem?_cons_succ, List.getElem?_cons_zero]; rfl) (by kernel_rfl) (by kernel_rfl) (by kernel_rfl) (by exact fun _ _ _ h => h) (Or.inl ⟨by rfl, ?_⟩) (by assumption) ?_
          rotate_left
          · (intro w hSw; (try dsimp only at hSw); go_simp; try (with_reducible rfl))
          try simp only [Act.put, List.setIfInBounds_toArray, List.set_cons_zero, List.set_cons_succ]
          refine wpAnyH_take (i := 6) (v := ?_) (by simp only [List.getElem?_toArray, List.getElem?_cons_succ, List.getElem?_cons_zero]; rfl) (by kernel_rfl) (by kernel_rfl) (by kernel_rfl) (by exact fun _ _ _ h => h) (Or.inl ⟨by rfl, ?_⟩) (by assumption) ?_
          rotate_left
          · (intro w hSw; (try dsimp only at hSw); go_simp; try (with_reducible rfl))
          try simp only [Act.put, List.setIfInBounds_toArray, List.set_cons_zero, List.set_cons_succ]
          refine wpAnyH_take (i := 7) (v := ?_) (by simp only [List.getElem?_toArray, List.getElem?_cons_succ, List.getElem?_cons_zero]; rfl) (by kernel_rfl) (by kernel_rfl) (by kernel_rfl) (by exact fun _ _ _ h => h) (Or.inl ⟨by rfl, ?_⟩) (by assumption) ?_
          rotate_left
          · (intro w hSw; (try dsimp only at hSw); go_simp; try (with_reducible rfl))
          try simp only [Act.put, List.setIfInBounds_toArray, List.set_cons_zero, List.set_cons_succ]
          refine wpAnyH_take (i := 8) (v := ?_) (by simp only [List.getElem?_toArray, List.getElem?_cons_succ, List.getElem?_cons_zero]; rfl) (by kernel_rfl) (by kernel_rfl) (by kernel_rfl) (by exact fun _ _ _ h => h) (Or.inl ⟨by rfl, ?_⟩) (by assumption) ?_
          rotate_left
          · (intro w hSw; (try dsimp only at hSw); go_simp; try (with_reducible rfl))
          try simp only [Act.put, List.setIfInBounds_toArray, List.set_cons_zero, List.set_cons_succ]
          refine wpAnyH_take (i := 9) (v := ?_) (by simp only [List.getElem?_toArray, List.getElem?_cons_succ, List.getElem?_cons_zero]; rfl) (by kernel_rfl) (by kernel_rfl) (by kernel_rfl) (by exact fun _ _ _ h => h) (Or.inl ⟨by rfl, ?_⟩) (by assumption) ?_
          rotate_left
          · (intro w hSw; (try dsimp only at hSw); go_simp; try (with_reducible rfl))
          try simp only [Act.put, List.setIfInBounds_toArray, List.set_cons_zero, List.set_cons_succ]
          refine wpAnyH_take (i := 10) (v := ?_) (by simp only [List.getElem?_toArray, List.getElem?_cons_succ, List.getElem?_cons_zero]; rfl) (by kernel_rfl) (by kernel_rfl) (by kernel_rfl) (by exact fun _ _ _ h => h) (Or.inl ⟨by rfl, ?_⟩) (by assumption) ?_
          rotate_left
          · (intro w hSw; (try dsimp only at hSw); go_simp; try (with_reducible rfl))
          try simp only [Act.put, List.setIfInBounds_toArray, List.set_cons_zero, List.set_cons_succ]
          refine wpAnyH_take (i := 11) (v := ?_) (by simp only [List.getElem?_toArray, List.getElem?_cons_succ, List.getElem?_cons_zero]; rfl) (by kernel_rfl) (by kernel_rfl) (by kernel_rfl) (by exact fun _ _ _ h => h) (Or.inl ⟨by rfl, ?_⟩) (by assumption) ?_
          rotate_left
          · (intro w hSw; (try dsimp only at hSw); go_simp; try (with_reducible rfl))
          try simp only [Act.put, List.setIfInBounds_toArray, List.set_cons_zero, List.set_cons_succ]
          refine wpAnyH_take (i := 12) (v := ?_) (by simp only [List.getElem?_toArray, List.getElem?_cons_succ, List.getElem?_cons_zero]; rfl) (by kernel_rfl) (by kernel_rfl) (by kernel_rfl) (by exact fun _ _ _ h => h) (Or.inl ⟨by rfl, ?_⟩) (by assumption) ?_
          rotate_left
          · (intro w hSw; (try dsimp only at hSw); go_simp; try (with_reducible rfl))
          try simp only [Act.put, List.setIfInBounds_toArray, List.set_cons_zero, List.set_cons_succ]
          refine wpAnyH_take (i := 13) (v := ?_) (by simp only [List.getElem?_toArray, List.getElem?_cons_succ, List.getElem?_cons_zero]; rfl) (by kernel_rfl) (by kernel_rfl) (by kernel_rfl) (by exact fun _ _ _ h => h) (Or.inl ⟨by rfl, ?_⟩) (by assumption) ?_
          rotate_left
          · (intro w hSw; (try dsimp only at hSw); go_simp; try (with_reducible rfl))
          try simp only [Act.put, List.setIfInBounds_toArray, List.set_cons_zero, List.set_cons_succ]
          refine wpAnyH_take (i := 14) (v := ?_) (by simp only [List.getElem?_toArray, List.getElem?_cons_succ, List.getElem?_cons_zero]; rfl) (by kernel_rfl) (by kernel_rfl) (by kernel_rfl) (by exact fun _ _ _ h => h) (Or.inl ⟨by rfl, ?_⟩) (by assumption) ?_
          rotate_left
          · (intro w hSw; (try dsimp only at hSw); go_simp; try (with_reducible rfl))
          try simp only [Act.put, List.setIfInBounds_toArray, List.set_cons_zero, List.set_cons_succ]
          refine wpAnyH_ready (rs := [15]) (by kernel_rfl) (by simp) ?_
          refine AllReadyH.cons (by simp only [List.getElem?_toArray, List.getElem?_cons_succ, List.getElem?_cons_zero]; rfl) (fun K hK => ?_) AllReadyH.nil
          go_simp
          first
            | (go_at_call 124; refine (isBeforeR_any x y _).mono ?_; rintro e w5 ⟨rfl, k5⟩; rw [hbf])
          try go_wp2_with fail
          refine hK.out _ _ ?_ (fun hHeld => ?_)
          · exact Keeps.trans (by assumption) (by assumption)
          clear hK K
          try simp only [Act.put, List.setIfInBounds_toArray, List.set_cons_zero, List.set_cons_succ]
          refine wpAnyH_take (i := 16) (v := ?_) (by simp only [List.getElem?_toArray, List.getElem?_cons_succ, List.getElem?_cons_zero]; rfl) (by kernel_rfl) (by kernel_rfl) (by kernel_rfl) (by exact fun _ _ _ h => h) (Or.inl ⟨by rfl, ?_⟩) (by assumption) ?_
          rotate_left
          · (intro w hSw; (try dsimp only at hSw); go_simp; try (with_reducible rfl))
          try simp only [Act.put, List.setIfInBounds_toArray, List.set_cons_zero, List.set_cons_succ]
          refine wpAnyH_done (by kernel_rfl) ?_ _
          have K5 : Keeps X w5 := by assumption
          go_wp2
          exact bodyPost_ret (v := .tuple #[]) (results_none rfl _ _ _) rfl ⟨rfl, _, ys, LH.out.go K5, SE.out⟩
        · have SU : Hid (Sift xs x p ((ys.set k y).set p x)) := by have := SH.out.up (by omega) HY.out hbf; rw [← HP.out] at this; exact this
          refine wp_region_held_drew (S := (fun w' => Keeps X w')) (by kernel_rfl) ?_ (fun hHeld => ?_)
          · exact (Keeps.refl X).drew
          refine wpAnyH_take (i := 0) (v := ?_) (by simp only [List.getElem?_toArray, List.getElem?_cons_zero]; rfl) (by kernel_rfl) (by kernel_rfl) (by kernel_rfl) (by exact fun _ _ _ h => h) (Or.inl ⟨by rfl, ?_⟩) (by assumption) ?_
          rotate_left
          · (intro w hSw; (try dsimp only at hSw); go_simp; try (with_reducible rfl))
          try simp only [Act.put, List.setIfInBounds_toArray, List.set_cons_zero, List.set_cons_succ]
          refine wpAnyH_take (i := 1) (v := ?_) (by simp only [List.getElem?_toArray, List.getElem?_cons_succ, List.getElem?_cons_zero]; rfl) (by kernel_rfl) (by kernel_rfl) (by kernel_rfl) (by exact fun _ _ _ h => h) (Or.inl ⟨by rfl, ?_⟩) (by assumption) ?_
          rotate_left
          · (intro w hSw; (try dsimp only at hSw); go_simp; try (with_reducible rfl))
          try simp only [Act.put, List.setIfInBounds_toArray, List.set_cons_zero, List.set_cons_succ]
          refine wpAnyH_take (i := 2) (v := ?_) (by simp only [List.getElem?_toArray, List.getElem?_cons_succ, List.getElem?_cons_zero]; rfl) (by kernel_rfl) (by kernel_rfl) (by kernel_rfl) (by exact fun _ _ _ h => h) (Or.inl ⟨by rfl, ?_⟩) (by assumption) ?_
          rotate_left
          · (intro w hSw; (try dsimp only at hSw); go_simp; try (with_reducible rfl))
          try simp only [Act.put, List.setIfInBounds_toArray, List.set_cons_zero, List.set_cons_succ]
          refine wpAnyH_take (i := 3) (v := ?_) (by simp only [List.getElem?_toArray, List.getElem?_cons_succ, List.getElem?_cons_zero]; rfl) (by kernel_rfl) (by kernel_rfl) (by kernel_rfl) (by exact fun _ _ _ h => h) (Or.inl ⟨by rfl, ?_⟩) (by assumption) ?_
          rotate_left
          · (intro w hSw; (try dsimp only at hSw); go_simp; try (with_reducible rfl))
          try simp only [Act.put, List.setIfInBounds_toArray, List.set_cons_zero, List.set_cons_succ]
          refine wpAnyH_take (i := 4) (v := ?_) (by simp only [List.getElem?_toArray, List.getElem?_cons_succ, List.getElem?_cons_zero]; rfl) (by kernel_rfl) (by kernel_rfl) (by kernel_rfl) (by exact fun _ _ _ h => h) (Or.inl ⟨by rfl, ?_⟩) (by assumption) ?_
          rotate_left
          · (intro w hSw; (try dsimp only at hSw); go_simp; try (with_reducible rfl))
          try simp only [Act.put, List.setIfInBounds_toArray, List.set_cons_zero, List.set_cons_succ]
          refine wpAnyH_take (i := 5) (v := ?_) (by simp only [List.getElem?_toArray, List.getElem?_cons_succ, List.getElem?_cons_zero]; rfl) (by kernel_rfl) (by kernel_rfl) (by kernel_rfl) (by exact fun _ _ _ h => h) (Or.inl ⟨by rfl, ?_⟩) (by assumption) ?_
          rotate_left
          · (intro w hSw; (try dsimp only at hSw); go_simp; try (with_reducible rfl))
          try simp only [Act.put, List.setIfInBounds_toArray, List.set_cons_zero, List.set_cons_succ]
          refine wpAnyH_take (i := 6) (v := ?_) (by simp only [List.getElem?_toArray, List.getElem?_cons_succ, List.getElem?_cons_zero]; rfl) (by kernel_rfl) (by kernel_rfl) (by kernel_rfl) (by exact fun _ _ _ h => h) (Or.inl ⟨by rfl, ?_⟩) (by assumption) ?_
          rotate_left
          · (intro w hSw; (try dsimp only at hSw); go_simp; try (with_reducible rfl))
          try simp only [Act.put, List.setIfInBounds_toArray, List.set_cons_zero, List.set_cons_succ]
          refine wpAnyH_take (i := 7) (v := ?_) (by simp only [List.getElem?_toArray, List.getElem?_cons_succ, List.getElem?_cons_zero]; rfl) (by kernel_rfl) (by kernel_rfl) (by kernel_rfl) (by exact fun _ _ _ h => h) (Or.inl ⟨by rfl, ?_⟩) (by assumption) ?_
          rotate_left
          · (intro w hSw; (try dsimp only at hSw); go_simp; try (with_reducible rfl))
          try simp only [Act.put, List.setIfInBounds_toArray, List.set_cons_zero, List.set_cons_succ]
          refine wpAnyH_take (i := 8) (v := ?_) (by simp only [List.getElem?_toArray, List.getElem?_cons_succ, List.getElem?_cons_zero]; rfl) (by kernel_rfl) (by kernel_rfl) (by kernel_rfl) (by exact fun _ _ _ h => h) (Or.inl ⟨by rfl, ?_⟩) (by assumption) ?_
          rotate_left
          · (intro w hSw; (try dsimp only at hSw); go_simp; try (with_reducible rfl))
          try simp only [Act.put, List.setIfInBounds_toArray, List.set_cons_zero, List.set_cons_succ]
          refine wpAnyH_take (i := 9) (v := ?_) (by simp only [List.getElem?_toArray, List.getElem?_cons_succ, List.getElem?_cons_zero]; rfl) (by kernel_rfl) (by kernel_rfl) (by kernel_rfl) (by exact fun _ _ _ h => h) (Or.inl ⟨by rfl, ?_⟩) (by assumption) ?_
          rotate_left
          · (intro w hSw; (try dsimp only at hSw); go_simp; try (with_reducible rfl))
          try simp only [Act.put, List.setIfInBounds_toArray, List.set_cons_zero, List.set_cons_succ]
          refine wpAnyH_take (i := 10) (v := ?_) (by simp only [List.getElem?_toArray, List.getElem?_cons_succ, List.getElem?_cons_zero]; rfl) (by kernel_rfl) (by kernel_rfl) (by kernel_rfl) (by exact fun _ _ _ h => h) (Or.inl ⟨by rfl, ?_⟩) (by assumption) ?_
          rotate_left
          · (intro w hSw; (try dsimp only at hSw); go_simp; try (with_reducible rfl))
          try simp only [Act.put, List.setIfInBounds_toArray, List.set_cons_zero, List.set_cons_succ]
          refine wpAnyH_take (i := 11) (v := ?_) (by simp only [List.getElem?_toArray, List.getElem?_cons_succ, List.getElem?_cons_zero]; rfl) (by kernel_rfl) (by kernel_rfl) (by kernel_rfl) (by exact fun _ _ _ h => h) (Or.inl ⟨by rfl, ?_⟩) (by assumption) ?_
          rotate_left
          · (intro w hSw; (try dsimp only at hSw); go_simp; try (with_reducible rfl))
          try simp only [Act.put, List.setIfInBounds_toArray, List.set_cons_zero, List.set_cons_succ]
          refine wpAnyH_take (i := 12) (v := ?_) (by simp only [List.getElem?_toArray, List.getElem?_cons_succ, List.getElem?_cons_zero]; rfl) (by kernel_rfl) (by kernel_rfl) (by kernel_rfl) (by exact fun _ _ _ h => h) (Or.inl ⟨by rfl, ?_⟩) (by assumption) ?_
          rotate_left
          · (intro w hSw; (try dsimp only at hSw); go_simp; try (with_reducible rfl))
          try simp only [Act.put, List.setIfInBounds_toArray, List.set_cons_zero, List.set_cons_succ]
          refine wpAnyH_take (i := 13) (v := ?_) (by simp only [List.getElem?_toArray, List.getElem?_cons_succ, List.getElem?_cons_zero]; rfl) (by kernel_rfl) (by kernel_rfl) (by kernel_rfl) (by exact fun _ _ _ h => h) (Or.inl ⟨by rfl, ?_⟩) (by assumption) ?_
          rotate_left
          · (intro w hSw; (try dsimp only at hSw); go_simp; try (with_reducible rfl))
          try simp only [Act.put, List.setIfInBounds_toArray, List.set_cons_zero, List.set_cons_succ]
          refine wpAnyH_take (i := 14) (v := ?_) (by simp only [List.getElem?_toArray, List.getElem?_cons_succ, List.getElem?_cons_zero]; rfl) (by kernel_rfl) (by kernel_rfl) (by kernel_rfl) (by exact fun _ _ _ h => h) (Or.inl ⟨by rfl, ?_⟩) (by assumption) ?_
          rotate_left
          · (intro w hSw; (try dsimp only at hSw); go_simp; try (with_reducible rfl))
          try simp only [Act.put, List.setIfInBounds_toArray, List.set_cons_zero, List.set_cons_succ]
          refine wpAnyH_ready (rs := [15]) (by kernel_rfl) (by simp) ?_
          refine AllReadyH.cons (by simp only [List.getElem?_toArray, List.getElem?_cons_succ, List.getElem?_cons_zero]; rfl) (fun K hK => ?_) AllReadyH.nil
          go_simp
          first
            | (go_at_call 124; refine (isBeforeR_any x y _).mono ?_; rintro e w5 ⟨rfl, k5⟩; rw [hbf])
          try go_wp2_with fail
          refine hK.out _ _ ?_ (fun hHeld => ?_)
          · exact Keeps.trans (by assumption) (by assumption)
          clear hK K
          try simp only [Act.put, List.setIfInBounds_toArray, List.set_cons_zero, List.set_cons_succ]
          refine wpAnyH_take (i := 16) (v := ?_) (by simp only [List.getElem?_toArray, List.getElem?_cons_succ, List.getElem?_cons_zero]; rfl) (by kernel_rfl) (by kernel_rfl) (by kernel_rfl) (by exact fun _ _ _ h => h) (Or.inl ⟨by rfl, ?_⟩) (by assumption) ?_
          rotate_left
          · (intro w hSw; (try dsimp only at hSw); go_simp; try (with_reducible rfl))
          try simp only [Act.put, List.setIfInBounds_toArray, List.set_cons_zero, List.set_cons_succ]
          refine wpAnyH_done (by kernel_rfl) ?_ _
          have K5 : Keeps X w5 := by assumption
          have ll : w5.cell? ⟨L, 0, none⟩ = some (.slice (some ⟨b, 0, none⟩) (n0 + 1) cap) := l1 _ K5
          obtain ⟨-, -, fr⟩ := (LH.out.go K5).own.free
          have v0 : w5.cell? ⟨b, k * 7, none⟩ = some (.int .i64 x.no) := x0 _ K5
          have v1 : w5.cell? ⟨b, k * 7 + 1, none⟩ = some (.int .i64 x.cls) := x1 _ K5
          have v2 : w5.cell? ⟨b, k * 7 + 2, none⟩ = some (.int .i64 x.cpu) := x2 _ K5
          have v3 : w5.cell? ⟨b, k * 7 + 3, none⟩ = some (.int .i64 x.st) := x3 _ K5
          have v4 : w5.cell? ⟨b, k * 7 + 4, none⟩ = some (.bool x.idle) := x4 _ K5
          have v5 : w5.cell? ⟨b, k * 7 + 5, none⟩ = some (.int .i64 x.nice) := x5 _ K5
          have v6 : w5.cell? ⟨b, k * 7 + 6, none⟩ = some (.int .i64 x.v) := x6 _ K5
          have u0 : w5.cell? ⟨b, p * 7, none⟩ = some (.int .i64 y.no) := y0 _ K5
          have u1 : w5.cell? ⟨b, p * 7 + 1, none⟩ = some (.int .i64 y.cls) := y1 _ K5
          have u2 : w5.cell? ⟨b, p * 7 + 2, none⟩ = some (.int .i64 y.cpu) := y2 _ K5
          have u3 : w5.cell? ⟨b, p * 7 + 3, none⟩ = some (.int .i64 y.st) := y3 _ K5
          have u4 : w5.cell? ⟨b, p * 7 + 4, none⟩ = some (.bool y.idle) := y4 _ K5
          have u5 : w5.cell? ⟨b, p * 7 + 5, none⟩ = some (.int .i64 y.nice) := y5 _ K5
          have u6 : w5.cell? ⟨b, p * 7 + 6, none⟩ = some (.int .i64 y.v) := y6 _ K5
          clear l1 x0 x1 x2 x3 x4 x5 x6 y0 y1 y2 y3 y4 y5 y6 k5 hHeld
          go_wp2_with fail
          go_region
          have D := (LH.out.go K5).swap (k := k) (m := p) (by have := Hl.out; omega) (by have := Hl.out; omega) Hl.out h1 h0 x y
          change Exit.then _ _ _ _ (putC (putC w5 b (k * 7) (rtc y).toList) b (p * 7) (rtc x).toList).drew
          clear u0 u1 u2 u3 u4 u5 u6 v0 v1 v2 v3 v4 v5 v6 fr ll
          generalize (putC (putC w5 b (k * 7) (rtc y).toList) b (p * 7) (rtc x).toList).drew = Y at D ⊢
          have DH : Hid (Line W0 L base (.slice (some ⟨b, 0, none⟩) (n0 + 1) cap) ((ys.set k y).set p x) Y) := D
          clear D
          go_wp2
          go_roundw
          case rel => exact ⟨p, rfl, _, SU.out, DH.out⟩
          case measure => simp only [intOf]; omega
end Go.Proofs.Ytdndgacaohmdnaa
