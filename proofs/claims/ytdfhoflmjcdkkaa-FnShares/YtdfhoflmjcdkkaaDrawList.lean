/-
  A drawn list of parts of time: the contracts of the model's draws.
-/
import Derived.Test.YtdfhoflmjcdkkaaDraw1
namespace Go.Proofs.Ytdfhoflmjcdkkaa
open Go.RowKit
attribute [local go_sem] Keeps.refl Keeps.alloc Keeps.drew Keeps.drewN KeepsBut.refl KeepsBut.drew

/-- The cells of a list of parts. -/
def flat (xs : List (Int × Int)) : List Value := xs.flatMap fun x => [.int .i64 x.1, .int .i64 x.2]
theorem flat_snoc (xs : List (Int × Int)) (x : Int × Int) : flat (xs ++ [x]) = flat xs ++ [.int .i64 x.1, .int .i64 x.2] := by simp [flat]
theorem flat_length (xs : List (Int × Int)) : (flat xs).length = xs.length * 2 := by
  induction xs with
  | nil => rfl
  | cons x r ih => simp [flat] at *; omega
theorem flat_at : ∀ (xs : List (Int × Int)) (i : Nat), i < xs.length → (flat xs)[i * 2]? = some (.int .i64 (xs.getD i (0, 0)).1) ∧ (flat xs)[i * 2 + 1]? = some (.int .i64 (xs.getD i (0, 0)).2)
  | [], i, h => by simp at h
  | x :: r, 0, _ => by simp [flat]
  | x :: r, i + 1, h => by
    have ih := flat_at r i (by simpa using h)
    have e1 : (i + 1) * 2 = i * 2 + 2 := by omega
    rw [e1, show i * 2 + 2 + 1 = (i * 2 + 1) + 2 from by omega]
    simpa [flat] using ih

theorem ownsRow_but {g : Nat} {w w' : World} {base : Nat} {e : TypeId} {size : Nat} {v : Value} {n : Nat} {xs : List Value} (h : w.ownsRow base e size v n xs) (k : KeepsBut g w w') (hg : g < base) : w'.ownsRow base e size v n xs := by
  obtain ⟨h1, h2⟩ := h
  refine ⟨h1, ?_⟩
  rcases h2 with h2 | ⟨b, cap, cur, hv, hb, hh, r⟩
  · exact .inl h2
  · refine .inr ⟨b, cap, cur, hv, hb, ?_, r⟩
    have hlt : b < w.heap.size := by
      rcases Nat.lt_or_ge b w.heap.size with hlt | hge
      · exact hlt
      · rw [Array.getElem?_eq_none hge] at hh; cases hh
    rw [k.block b hlt (by omega)]; exact hh
theorem ownsRow_sh {w : World} {base : Nat} {e : TypeId} {v : Value} {xs : List (Int × Int)} (h : w.ownsRow base e 2 v xs.length (flat xs)) : ∃ a cap, v = .slice a xs.length cap ∧ Sh w a xs ∧ xs.length ≤ cap ∧ cap ≤ maxLen ∧ ∀ b, a = some b → ∃ g, b = ⟨g, 0, none⟩ := by
  obtain ⟨_, ⟨rfl, hn⟩ | ⟨b, cap, cur, rfl, hb, hh, hl, hm, hs, hx⟩⟩ := h
  · have : xs = [] := List.length_eq_zero_iff.1 hn
    subst this
    exact ⟨none, 0, rfl, .inl rfl, by simp, by simp, by simp⟩
  · refine ⟨_, cap, rfl, .inr ⟨b, 0, rfl, fun i hi => ?_⟩, hl, hm, fun x hx => ⟨b, by simpa using hx.symm⟩⟩
    have hf := flat_at xs i hi
    have hc : ∀ j, j < xs.length * 2 → w.cell? ⟨b, j, none⟩ = (flat xs)[j]? := by
      intro j hj
      rw [← hx]
      simp [World.cell?, hh, hj]
    simp only [Nat.zero_add]
    rw [hc _ (by omega), hc _ (by omega)]
    exact hf

/-- An append behind a draw: nothing has turned but block g and the list's own row. -/
theorem KeepsBut.grown {g : Nat} {w a b : World} {row : Option Nat} (h : KeepsBut g w a) (hg : a.grownBy b row) (hr : ∀ k, row = some k → w.heap.size ≤ k) : KeepsBut g w b :=
  ⟨hg.os.trans h.os, hg.tape.trans h.tape, hg.output.trans h.output, Nat.le_trans h.size hg.size, fun k hk hne => (hg.block k (Nat.lt_of_lt_of_le hk h.size) (fun e => by have := hr k e.symm; omega)).trans (h.block k hk hne)⟩
theorem Cur.grown {g : Nat} {a b : World} {row : Option Nat} (h : Cur a g) (hg : a.grownBy b row) (hr : ∀ k, row = some k → g < k) : Cur b g := by
  have hl := h.lt
  have hbk : ∀ k, k ≤ g → b.heap[k]? = a.heap[k]? := fun k hk => hg.block k (by omega) (fun e => by have := hr k e.symm; omega)
  obtain ⟨ad, n, cap, i, h, c0, c1, c2, f1, f2, hi, hn, hB⟩ := h
  refine ⟨ad, n, cap, i, h, (World.cell?_of_block (w := a) (hbk g (by simp))).trans c0, (World.cell?_of_block (w := a) (hbk g (by simp))).trans c1, (World.cell?_of_block (w := a) (hbk g (by simp))).trans c2,
    (World.frozen?_of_block (w := a) (hbk g (by simp))).trans f1, (World.frozen?_of_block (w := a) (hbk g (by simp))).trans f2, hi, hn, ?_⟩
  rcases hB with hB | ⟨b', off, rfl, hg', hB⟩
  · exact .inl hB
  · exact .inr ⟨b', off, rfl, hg', fun j hj => by obtain ⟨z, h0, h1, hc⟩ := hB j hj; exact ⟨z, h0, h1, (World.cell?_of_block (w := a) (hbk b' (by omega))).trans hc⟩⟩

set_option maxHeartbeats 3200000 in
theorem drawShares_any (g : Nat) (w : World) (hc : Cur w g) :
    Calls Try.prog 30 #[.pointer (some ⟨g, 0, none⟩)] w fun e w' => ∃ a cap xs, e = .returned (.slice a xs.length cap) ∧ Sh w' a xs ∧ xs.length ≤ 8 ∧ xs.length ≤ cap ∧ cap ≤ maxLen ∧ (∀ b, a = some b → ∃ h, b = ⟨h, 0, none⟩) ∧ Cur w' g ∧ KeepsBut g w w' := by
  have hgl := hc.lt
  obtain ⟨i0, hi, hzz⟩ := Option.map_eq_some_iff.1 (show (Try.prog.info? 31).map (fun i => (i.zero, i.size, i.bytes)) = some (some (.agg #[.int .i64 0, .int .i64 0]), 2, 16) from by kernel_rfl)
  simp only [Prod.mk.injEq] at hzz
  obtain ⟨hz0, hz1, hz2⟩ := hzz
  go_enter Try.func30, Try.ntmps30
  go_wp2_with fail
  have own0 : (w.alloc (.cells #[] 31)).ownsRow w.heap.size 31 2 (.slice (some ⟨w.heap.size, 0, none⟩) 0 0) 0 (flat []) := World.ownsRow_made w #[] 0 (Nat.le_refl _) (by simp) rfl
  have kw0 : KeepsBut g w (w.alloc (.cells #[] 31)) := (KeepsBut.refl g w).alloc _
  have hc0 : Cur (w.alloc (.cells #[] 31)) g := hc.keeps ((Keeps.refl _).alloc _)
  generalize w.alloc (.cells #[] 31) = W at *
  refine (l1Below_any g _ _ hc0 (by omega) (by omega)).mono ?_
  rintro e w1 ⟨x, rfl, hx0, hx1, hc1, k1⟩
  go_wp2_with fail
  refine (l1Once_any g _ _ hc1 (by omega) (by omega)).mono ?_
  rintro e w2 ⟨b, rfl, hc2, k2⟩
  have own2 := ownsRow_but own0 (k1.trans k2) hgl
  have kw2 := kw0.trans (k1.trans k2)
  clear own0 kw0 hc0 hc1 k1 k2
  cases b
  · obtain ⟨N, rfl⟩ := Int.eq_ofNat_of_zero_le hx0
    have hN : N ≤ 8 := by omega
    go_wp2
    go_loopw [3, 5] (fun o i wr => ∃ xs : List (Int × Int), xs.length ≤ N ∧ i = .int .i64 xs.length ∧ wr.ownsRow w.heap.size 31 2 o xs.length (flat xs) ∧ Cur wr g ∧ KeepsBut g w wr) (fun _ i _ => N - (intOf i).toNat)
    case atStart => exact ⟨[], Nat.zero_le _, rfl, own2, hc2, kw2⟩
    case round =>
      obtain ⟨xs, hk, rfl, hown, hcr, kr⟩ := hrel
      generalize hkn : xs.length = k at *
      have Hk : Hid (xs.length = k) := hkn
      clear hkn
      by_cases hlt : k < N
      · have hlt' : (k : Int) < (N : Int) := by omega
        go_wp2_with fail
        refine (drawShare_any g _ hcr).mono ?_
        rintro e w5 ⟨q, p, rfl, hc5, k5⟩
        have hown5 := ownsRow_but hown k5 hgl
        have kw5 := kr.trans k5
        clear hown k5 hcr kr
        by_cases h2 : 2 < N
        · have h2' : (2 : Int) < (N : Int) := by omega
          cases ho : okB q p
          · skip
            go_wp2_with (first
              | (at_builtin; (refine wpList_append_own _ rfl _ _ 24 rfl w.heap.size 31 i0 (.agg #[.int .i64 0, .int .i64 0]) 2 16 Try.underlying24 hi hz0 hz1 hz2 rfl (by decide) _ _ _ rfl (((hown5.alloc _).alloc _).alloc _) _ 1 1 [.int .i64 q, .int .i64 p] rfl rfl ?c1 ?c2 ?c3 ?c4 ?c5 ?_))
              | (go_at_call 22; refine (specShareOk_any _ _ _).mono ?_; rintro e w6 ⟨rfl, rfl⟩))
            case c1 =>
              intro j u hj
              match j, hj with
              | 0, hj => simp at hj; subst hj; simp [Addr.add, go_sem]
              | 1, hj => simp at hj; subst hj; simp [Addr.add, go_sem]
            case c2 => intro u hu; simp at hu; rcases hu with rfl | rfl <;> rfl
            case c3 => unfold maxLen; omega
            case c4 => omega
            case c5 => have := kw5.size; simp; omega
            intro v' w7 hown' hgrow _
            have hrow := fun j hj => (hown5.lt j hj).1
            have hc7 := (((hc5.keeps ((Keeps.refl _).alloc _)).keeps ((Keeps.refl _).alloc _)).keeps ((Keeps.refl _).alloc _)).grown hgrow (fun j hj => by have := hrow j hj; omega)
            have kw7 := (((kw5.alloc _).alloc _).alloc _).grown hgrow hrow
            have HO : Hid (w7.ownsRow w.heap.size 31 2 v' (k + 1) (flat xs ++ [.int .i64 q, .int .i64 p])) := hown'
            clear hown' hgrow hown5
            go_wp2
            refine ⟨⟨xs ++ [(q, p)], ?_, ?_, ?_, hc7, kw7⟩, by simp only [intOf]; omega⟩
            · simp [Hk.out]; omega
            · simp [Hk.out]
            · rw [flat_snoc]; simp only [List.length_append, Hk.out]; exact HO.out
          · skip
            go_wp2_with (first
              | (at_builtin; (refine wpList_append_own _ rfl _ _ 24 rfl w.heap.size 31 i0 (.agg #[.int .i64 0, .int .i64 0]) 2 16 Try.underlying24 hi hz0 hz1 hz2 rfl (by decide) _ _ _ rfl (((hown5.alloc _).alloc _).alloc _) _ 1 1 [.int .i64 1, .int .i64 p] rfl rfl ?c1 ?c2 ?c3 ?c4 ?c5 ?_))
              | (go_at_call 22; refine (specShareOk_any _ _ _).mono ?_; rintro e w6 ⟨rfl, rfl⟩))
            case c1 =>
              intro j u hj
              match j, hj with
              | 0, hj => simp at hj; subst hj; simp [Addr.add, go_sem]
              | 1, hj => simp at hj; subst hj; simp [Addr.add, go_sem]
            case c2 => intro u hu; simp at hu; rcases hu with rfl | rfl <;> rfl
            case c3 => unfold maxLen; omega
            case c4 => omega
            case c5 => have := kw5.size; simp; omega
            intro v' w7 hown' hgrow _
            have hrow := fun j hj => (hown5.lt j hj).1
            have hc7 := (((hc5.keeps ((Keeps.refl _).alloc _)).keeps ((Keeps.refl _).alloc _)).keeps ((Keeps.refl _).alloc _)).grown hgrow (fun j hj => by have := hrow j hj; omega)
            have kw7 := (((kw5.alloc _).alloc _).alloc _).grown hgrow hrow
            have HO : Hid (w7.ownsRow w.heap.size 31 2 v' (k + 1) (flat xs ++ [.int .i64 1, .int .i64 p])) := hown'
            clear hown' hgrow hown5
            go_wp2
            refine ⟨⟨xs ++ [(1, p)], ?_, ?_, ?_, hc7, kw7⟩, by simp only [intOf]; omega⟩
            · simp [Hk.out]; omega
            · simp [Hk.out]
            · rw [flat_snoc]; simp only [List.length_append, Hk.out]; exact HO.out
        · have h2' : decide ((2 : Int) < (N : Int)) = false := by simp; omega
          go_wp2_with (first
            | (at_builtin; (refine wpList_append_own _ rfl _ _ 24 rfl w.heap.size 31 i0 (.agg #[.int .i64 0, .int .i64 0]) 2 16 Try.underlying24 hi hz0 hz1 hz2 rfl (by decide) _ _ _ rfl ((hown5.alloc _).alloc _) _ 1 1 [.int .i64 q, .int .i64 p] rfl rfl ?c1 ?c2 ?c3 ?c4 ?c5 ?_))
            | (go_at_call 22; refine (specShareOk_any _ _ _).mono ?_; rintro e w6 ⟨rfl, rfl⟩))
          case c1 =>
            intro j u hj
            match j, hj with
            | 0, hj => simp at hj; subst hj; simp [Addr.add, go_sem]
            | 1, hj => simp at hj; subst hj; simp [Addr.add, go_sem]
          case c2 => intro u hu; simp at hu; rcases hu with rfl | rfl <;> rfl
          case c3 => unfold maxLen; omega
          case c4 => omega
          case c5 => have := kw5.size; simp; omega
          intro v' w7 hown' hgrow _
          have hrow := fun j hj => (hown5.lt j hj).1
          have hc7 := ((hc5.keeps ((Keeps.refl _).alloc _)).keeps ((Keeps.refl _).alloc _)).grown hgrow (fun j hj => by have := hrow j hj; omega)
          have kw7 := ((kw5.alloc _).alloc _).grown hgrow hrow
          have HO : Hid (w7.ownsRow w.heap.size 31 2 v' (k + 1) (flat xs ++ [.int .i64 q, .int .i64 p])) := hown'
          clear hown' hgrow hown5
          go_wp2
          refine ⟨⟨xs ++ [(q, p)], ?_, ?_, ?_, hc7, kw7⟩, by simp only [intOf]; omega⟩
          · simp [Hk.out]; omega
          · simp [Hk.out]
          · rw [flat_snoc]; simp only [List.length_append, Hk.out]; exact HO.out
      · have hd : decide ((k : Int) < (N : Int)) = false := by simp; omega
        go_wp2
        go_ret
        obtain ⟨a, cap, rfl, hs, hl1, hl2, ha⟩ := ownsRow_sh (by rw [Hk.out]; exact hown)
        exact ⟨a, cap, xs, by rw [Hk.out]; rfl, hs, by rw [Hk.out]; omega, hl1, hl2, ha, hcr, kr⟩
  · go_wp2_with fail
    refine (l1Below_any g _ _ hc2 (by omega) (by omega)).mono ?_
    rintro e w3 ⟨y, rfl, hy0, hy1, hc3, k3⟩
    have own3 := ownsRow_but own2 k3 hgl
    have kw3 := kw2.trans k3
    clear own2 kw2 hc2 k3
    go_wp2
    obtain ⟨N, hNe⟩ := Int.eq_ofNat_of_zero_le (show 0 ≤ 7 + y by omega)
    have hN : N ≤ 8 := by omega
    rw [hNe]
    clear hNe hy0 hy1 hx0 hx1
    go_loopw [3, 5] (fun o i wr => ∃ xs : List (Int × Int), xs.length ≤ N ∧ i = .int .i64 xs.length ∧ wr.ownsRow w.heap.size 31 2 o xs.length (flat xs) ∧ Cur wr g ∧ KeepsBut g w wr) (fun _ i _ => N - (intOf i).toNat)
    case atStart => exact ⟨[], Nat.zero_le _, rfl, own3, hc3, kw3⟩
    case round =>
      obtain ⟨xs, hk, rfl, hown, hcr, kr⟩ := hrel
      generalize hkn : xs.length = k at *
      have Hk : Hid (xs.length = k) := hkn
      clear hkn
      by_cases hlt : k < N
      · have hlt' : (k : Int) < (N : Int) := by omega
        go_wp2_with fail
        refine (drawShare_any g _ hcr).mono ?_
        rintro e w5 ⟨q, p, rfl, hc5, k5⟩
        have hown5 := ownsRow_but hown k5 hgl
        have kw5 := kr.trans k5
        clear hown k5 hcr kr
        by_cases h2 : 2 < N
        · have h2' : (2 : Int) < (N : Int) := by omega
          cases ho : okB q p
          · skip
            go_wp2_with (first
              | (at_builtin; (refine wpList_append_own _ rfl _ _ 24 rfl w.heap.size 31 i0 (.agg #[.int .i64 0, .int .i64 0]) 2 16 Try.underlying24 hi hz0 hz1 hz2 rfl (by decide) _ _ _ rfl (((hown5.alloc _).alloc _).alloc _) _ 1 1 [.int .i64 q, .int .i64 p] rfl rfl ?c1 ?c2 ?c3 ?c4 ?c5 ?_))
              | (go_at_call 22; refine (specShareOk_any _ _ _).mono ?_; rintro e w6 ⟨rfl, rfl⟩))
            case c1 =>
              intro j u hj
              match j, hj with
              | 0, hj => simp at hj; subst hj; simp [Addr.add, go_sem]
              | 1, hj => simp at hj; subst hj; simp [Addr.add, go_sem]
            case c2 => intro u hu; simp at hu; rcases hu with rfl | rfl <;> rfl
            case c3 => unfold maxLen; omega
            case c4 => omega
            case c5 => have := kw5.size; simp; omega
            intro v' w7 hown' hgrow _
            have hrow := fun j hj => (hown5.lt j hj).1
            have hc7 := (((hc5.keeps ((Keeps.refl _).alloc _)).keeps ((Keeps.refl _).alloc _)).keeps ((Keeps.refl _).alloc _)).grown hgrow (fun j hj => by have := hrow j hj; omega)
            have kw7 := (((kw5.alloc _).alloc _).alloc _).grown hgrow hrow
            have HO : Hid (w7.ownsRow w.heap.size 31 2 v' (k + 1) (flat xs ++ [.int .i64 q, .int .i64 p])) := hown'
            clear hown' hgrow hown5
            go_wp2
            refine ⟨⟨xs ++ [(q, p)], ?_, ?_, ?_, hc7, kw7⟩, by simp only [intOf]; omega⟩
            · simp [Hk.out]; omega
            · simp [Hk.out]
            · rw [flat_snoc]; simp only [List.length_append, Hk.out]; exact HO.out
          · skip
            go_wp2_with (first
              | (at_builtin; (refine wpList_append_own _ rfl _ _ 24 rfl w.heap.size 31 i0 (.agg #[.int .i64 0, .int .i64 0]) 2 16 Try.underlying24 hi hz0 hz1 hz2 rfl (by decide) _ _ _ rfl (((hown5.alloc _).alloc _).alloc _) _ 1 1 [.int .i64 1, .int .i64 p] rfl rfl ?c1 ?c2 ?c3 ?c4 ?c5 ?_))
              | (go_at_call 22; refine (specShareOk_any _ _ _).mono ?_; rintro e w6 ⟨rfl, rfl⟩))
            case c1 =>
              intro j u hj
              match j, hj with
              | 0, hj => simp at hj; subst hj; simp [Addr.add, go_sem]
              | 1, hj => simp at hj; subst hj; simp [Addr.add, go_sem]
            case c2 => intro u hu; simp at hu; rcases hu with rfl | rfl <;> rfl
            case c3 => unfold maxLen; omega
            case c4 => omega
            case c5 => have := kw5.size; simp; omega
            intro v' w7 hown' hgrow _
            have hrow := fun j hj => (hown5.lt j hj).1
            have hc7 := (((hc5.keeps ((Keeps.refl _).alloc _)).keeps ((Keeps.refl _).alloc _)).keeps ((Keeps.refl _).alloc _)).grown hgrow (fun j hj => by have := hrow j hj; omega)
            have kw7 := (((kw5.alloc _).alloc _).alloc _).grown hgrow hrow
            have HO : Hid (w7.ownsRow w.heap.size 31 2 v' (k + 1) (flat xs ++ [.int .i64 1, .int .i64 p])) := hown'
            clear hown' hgrow hown5
            go_wp2
            refine ⟨⟨xs ++ [(1, p)], ?_, ?_, ?_, hc7, kw7⟩, by simp only [intOf]; omega⟩
            · simp [Hk.out]; omega
            · simp [Hk.out]
            · rw [flat_snoc]; simp only [List.length_append, Hk.out]; exact HO.out
        · have h2' : decide ((2 : Int) < (N : Int)) = false := by simp; omega
          go_wp2_with (first
            | (at_builtin; (refine wpList_append_own _ rfl _ _ 24 rfl w.heap.size 31 i0 (.agg #[.int .i64 0, .int .i64 0]) 2 16 Try.underlying24 hi hz0 hz1 hz2 rfl (by decide) _ _ _ rfl ((hown5.alloc _).alloc _) _ 1 1 [.int .i64 q, .int .i64 p] rfl rfl ?c1 ?c2 ?c3 ?c4 ?c5 ?_))
            | (go_at_call 22; refine (specShareOk_any _ _ _).mono ?_; rintro e w6 ⟨rfl, rfl⟩))
          case c1 =>
            intro j u hj
            match j, hj with
            | 0, hj => simp at hj; subst hj; simp [Addr.add, go_sem]
            | 1, hj => simp at hj; subst hj; simp [Addr.add, go_sem]
          case c2 => intro u hu; simp at hu; rcases hu with rfl | rfl <;> rfl
          case c3 => unfold maxLen; omega
          case c4 => omega
          case c5 => have := kw5.size; simp; omega
          intro v' w7 hown' hgrow _
          have hrow := fun j hj => (hown5.lt j hj).1
          have hc7 := ((hc5.keeps ((Keeps.refl _).alloc _)).keeps ((Keeps.refl _).alloc _)).grown hgrow (fun j hj => by have := hrow j hj; omega)
          have kw7 := ((kw5.alloc _).alloc _).grown hgrow hrow
          have HO : Hid (w7.ownsRow w.heap.size 31 2 v' (k + 1) (flat xs ++ [.int .i64 q, .int .i64 p])) := hown'
          clear hown' hgrow hown5
          go_wp2
          refine ⟨⟨xs ++ [(q, p)], ?_, ?_, ?_, hc7, kw7⟩, by simp only [intOf]; omega⟩
          · simp [Hk.out]; omega
          · simp [Hk.out]
          · rw [flat_snoc]; simp only [List.length_append, Hk.out]; exact HO.out
      · have hd : decide ((k : Int) < (N : Int)) = false := by simp; omega
        go_wp2
        go_ret
        obtain ⟨a, cap, rfl, hs, hl1, hl2, ha⟩ := ownsRow_sh (by rw [Hk.out]; exact hown)
        exact ⟨a, cap, xs, by rw [Hk.out]; rfl, hs, by rw [Hk.out]; omega, hl1, hl2, ha, hcr, kr⟩
end Go.Proofs.Ytdfhoflmjcdkkaa
