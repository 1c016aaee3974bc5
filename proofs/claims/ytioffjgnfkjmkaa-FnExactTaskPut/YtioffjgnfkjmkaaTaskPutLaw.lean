/-
  The walk of the exact law over TaskPut, over a contract of the program's function.
-/
import Derived.Test.YtioffjgnfkjmkaaGTask3
namespace Go.Proofs.Ytioffjgnfkjmkaa
open Go.RowKit
attribute [local go_sem] Keeps.refl Keeps.alloc Keeps.drew Keeps.drewN

theorem Keeps.below_trans {w0 w w' : World} {B : Nat} (k : Keeps w0 w) (h : Below B w w') (hB : w0.heap.size ≤ B) : Keeps w0 w' := Below.trans k (Below.mono h hB)
theorem KeepsBut.to_below {g : Nat} {w w' : World} (h : KeepsBut g w w') {B : Nat} (hB : B ≤ g) (hw : B ≤ w.heap.size) : Below B w w' := ⟨h.os, h.tape, h.output, h.size, fun i hi => h.block i (by omega) (by omega)⟩
theorem Own.but {α : Type} {e : TypeId} {sz : Nat} {c : α → Array Value} {g : Nat} {w w' : World} {base : Nat} {v : Value} {xs : List α} (h : Own e sz c w base v xs) (k : KeepsBut g w w') (hg : g < base) : Own e sz c w' base v xs := by
  obtain ⟨h1, h2⟩ := h
  refine ⟨h1, ?_⟩
  rcases h2 with h2 | ⟨b, cap, cur, hv, hb, hh, r⟩
  · exact .inl h2
  · refine .inr ⟨b, cap, cur, hv, hb, ?_, r⟩
    have hlt : b < w.heap.size := by
      rcases Nat.lt_or_ge b w.heap.size with hlt | hge
      · exact hlt
      · rw [Array.getElem?_eq_none hge] at hh; cases hh
    rw [k.block b hlt (by omega)]; exact hh
theorem Own.room {w : World} {base b n cap : Nat} {ts : List Tsk} (h : OwnT w base (.slice (Option.some ⟨b, 0, none⟩) n cap) ts) : Room w b (ts.length * 14) ∧ base ≤ b ∧ n = ts.length := by
  obtain ⟨_, ⟨hv, _⟩ | ⟨b', cap', cur, hv, hb, hh, hl, hm, hs, hx⟩⟩ := h
  · simp at hv
  · simp only [Value.slice.injEq, Option.some.injEq, Addr.mk.injEq] at hv
    obtain ⟨⟨rfl, -, -⟩, rfl, rfl⟩ := hv
    have hlt : b < w.heap.size := by
      rcases Nat.lt_or_ge b w.heap.size with hlt | hge
      · exact hlt
      · rw [Array.getElem?_eq_none hge] at hh; cases hh
    refine ⟨⟨hlt, fun o ho => ?_, fun o => ?_⟩, hb, rfl⟩
    · have : o < cur.size := by rw [hs]; omega
      exact ⟨cur[o], by simp [World.cell?, hh, this]⟩
    · simp [World.frozen?, hh]

set_option maxRecDepth 100000 in
set_option maxHeartbeats 1000000 in
theorem markTaskS_nil (k0 : Int) (w : World) : Calls Try.prog 15 #[.slice none 0 0, .int .i64 k0] w fun e w' => e = .returned (.int .i64 k0) ∧ w' = w := by
  go_enter Try.func15, Try.ntmps15
  go_wp2
  go_loopw [1, 5] (fun c i wr => i = .int .i64 0 ∧ c = .int .i64 k0 ∧ wr = w) (fun _ _ _ => 0)
  case atStart => exact ⟨rfl, rfl, rfl⟩
  case round =>
    obtain ⟨rfl, rfl, rfl⟩ := hrel
    go_wp2
    go_ret
    exact ⟨rfl, rfl⟩

set_option maxRecDepth 100000 in
theorem markTaskS_own (v : Value) (base : Nat) (ts : List Tsk) (w : World) (hl : ts.length ≤ 1048600) (hown : OwnT w base v ts) (hb : base ≤ w.heap.size) :
    Calls Try.prog 15 #[v, .int .i64 1] w fun e w' => e = .returned (.int .i64 (1 + 14 * (ts.length : Int))) ∧ (∃ a cap, v = .slice a ts.length cap ∧ Ts w' a (marks 1 ts.length)) ∧ Below base w w' := by
  obtain ⟨a, cap, rfl, hlies, hc, hm⟩ := hown.slice tc_size
  cases a with
  | none =>
    have h0 : ts.length = 0 ∧ cap = 0 := by
      obtain ⟨_, ⟨hv, hn⟩ | ⟨b', cap', cur, hv, r⟩⟩ := hown
      · simp at hv; exact ⟨hn, hv.2⟩
      · simp at hv
    obtain ⟨h0, rfl⟩ := h0
    rw [h0]
    refine (markTaskS_nil 1 w).mono ?_
    rintro e w' ⟨rfl, rfl⟩
    exact ⟨by simp, ⟨none, 0, rfl, .inl (by simp [marks])⟩, Below.refl _ _⟩
  | some ad =>
    obtain ⟨b, rfl⟩ : ∃ b, ad = ⟨b, 0, none⟩ := by
      obtain ⟨_, ⟨hv, hn⟩ | ⟨b', cap', cur, hv, r⟩⟩ := hown
      · simp at hv
      · simp only [Value.slice.injEq, Option.some.injEq] at hv; exact ⟨b', hv.1⟩
    obtain ⟨hr, hbb, _⟩ := Own.room hown
    refine (markTaskS_any b cap ts.length 1 w hl (by decide) (by decide) hr).mono ?_
    rintro e w' ⟨rfl, hts, k⟩
    exact ⟨rfl, ⟨_, _, rfl, hts⟩, k.to_below hbb hb⟩

theorem putL_len (ts : List Tsk) (t : Tsk) : (putL ts t).length ≤ ts.length + 1 := by
  unfold putL
  split
  · split
    · rw [ins_length]; exact Nat.le_refl _
    · omega
  · simp

set_option maxRecDepth 100000 in
set_option maxHeartbeats 4000000 in
theorem exactTaskPut_walk (H : SaysTaskPut) (a : Option Addr) (cap : Nat) (ts : List Tsk) (t : Tsk) (w : World) (hl : ts.length ≤ maxLen) (hs : Ts w a ts) :
    Calls Try.prog 3 #[.slice a ts.length cap, tk t] w fun e w' => e = .returned (.bool true) ∧ Keeps w w' := by
  have HH : Hid SaysTaskPut := H
  clear H
  by_cases hn : ts.length ≤ 1048576
  · have hl' : ts.length ≤ maxLen := hl
    unfold maxLen at hl
    have hni : (ts.length : Int) ≤ 1048576 := by omega
    have hsz : Hid ((if (ts.length : Int) ≤ 1048576 then (1048576 : Int) - ts.length else -1) = 1048576 - ts.length) := if_pos hni
    have hnn : ((1048576 : Int) - (ts.length : Int) < 0) = False := by simp; omega
    obtain ⟨g, Hg⟩ : ∃ g, Hid (putB ts t = g) := ⟨_, rfl⟩
    obtain ⟨P, HP⟩ : ∃ P, Hid (putL ts t = P) := ⟨_, rfl⟩
    have n0 : (g != g) = false := by simp
    have hPl : P.length ≤ 1048577 := by have := putL_len ts t; rw [HP.out] at this; omega
    have hPm : P.length ≤ maxLen := by unfold maxLen; omega
    go_enter Try.func3, Try.ntmps3
    go_wp2_with fail
    have kW : Keeps w (w.alloc (.cells (tc t) 24)) := (Keeps.refl _).alloc _
    have r1 : ∀ w', Keeps (w.alloc (.cells (tc t) 24)) w' → ∀ k, w'.cell? ⟨w.heap.size, k, none⟩ = (tc t)[k]? := fun w' h => ((Blk.new w (tc t) 24).keeps h).cells
    have hs0 := hs.keeps kW
    clear hs
    generalize hWW : w.alloc (.cells (tc t) 24) = W0 at *
    clear hWW
    refine (szTaskS_any _ _ _ _ _ hl (by decide) (by decide)).mono ?_
    rintro e W ⟨rfl, hw0⟩
    subst hw0
    rw [hsz.out]
    go_wp2_with fail
    have K0 : Keeps W W := Keeps.refl _
    refine wp_region_held_drew (S := (fun w' => Keeps W w')) (by kernel_rfl) ?_ (fun hHeld => ?_)
    · exact K0.drew
    refine takeH 0 (v := ?_) (by simp only [opsAt]; rfl) (by kernel_rfl) (by exact fun _ _ _ h => h) (by rfl) (by assumption) ?_ ?_
    rotate_left
    · (intro w _; go_simp; try (with_reducible rfl))
    try simp only [putAtH]
    refine takeH 2 (v := ?_) (by simp only [opsAt]; rfl) (by kernel_rfl) (by exact fun _ _ _ h => h) (by rfl) (by assumption) ?_ ?_
    rotate_left
    · (intro w _; go_simp; try (with_reducible rfl))
    try simp only [putAtH]
    refine callH 1 (by kernel_rfl) (by simp only [opsAt]; rfl) (fun K hK => ?_)
    go_simp
    first
      | (go_at_call 11; refine (toTaskS_any _ _ ts _ hn (hs0.keeps (by assumption))).mono ?_; rintro e w1 ⟨b1, rfl, hs1, _, _, k1⟩)
      | (go_at_call 12; refine (toTask_any t _).mono ?_; rintro e w2 ⟨rfl, k2⟩)
      | (go_at_call 10; refine (specTaskPut_any b1 0 _ ts t _ hl' (hs1.keeps k2)).mono ?_; rintro e w3 ⟨v3, rfl, own3, k3⟩; rw [Hg.out])
    try go_wp2_with fail
    refine hK.out _ _ ?_ (fun hHeld => ?_)
    · exact Keeps.trans (by assumption) (by assumption)
    clear hK K
    try simp only [putAtH]
    refine callH 3 (by kernel_rfl) (by simp only [opsAt]; rfl) (fun K hK => ?_)
    go_simp
    first
      | (go_at_call 11; refine (toTaskS_any _ _ ts _ hn (hs0.keeps (by assumption))).mono ?_; rintro e w1 ⟨b1, rfl, hs1, _, _, k1⟩)
      | (go_at_call 12; refine (toTask_any t _).mono ?_; rintro e w2 ⟨rfl, k2⟩)
      | (go_at_call 10; refine (specTaskPut_any b1 0 _ ts t _ hl' (hs1.keeps k2)).mono ?_; rintro e w3 ⟨v3, rfl, own3, k3⟩; rw [Hg.out])
    try go_wp2_with fail
    refine hK.out _ _ ?_ (fun hHeld => ?_)
    · exact Keeps.trans (by assumption) (by assumption)
    clear hK K
    try simp only [putAtH]
    refine callH 4 (by kernel_rfl) (by simp only [opsAt]; rfl) (fun K hK => ?_)
    go_simp
    first
      | (go_at_call 11; refine (toTaskS_any _ _ ts _ hn (hs0.keeps (by assumption))).mono ?_; rintro e w1 ⟨b1, rfl, hs1, _, _, k1⟩)
      | (go_at_call 12; refine (toTask_any t _).mono ?_; rintro e w2 ⟨rfl, k2⟩)
      | (go_at_call 10; refine (specTaskPut_any b1 0 _ ts t _ hl' (hs1.keeps k2)).mono ?_; rintro e w3 ⟨v3, rfl, own3, k3⟩; rw [Hg.out])
    try go_wp2_with fail
    refine hK.out _ _ ?_ (fun hHeld => ?_)
    · exact Keeps.trans (by assumption) (by assumption)
    clear hK K
    try simp only [putAtH]
    refine takeH 5 (v := ?_) (by simp only [opsAt]; rfl) (by kernel_rfl) (by exact fun _ _ _ h => h) (by rfl) (by assumption) ?_ ?_
    rotate_left
    · (intro w _; go_simp; try (with_reducible rfl))
    try simp only [putAtH]
    refine takeH 6 (v := ?_) (by simp only [opsAt]; rfl) (by kernel_rfl) (by exact fun _ _ _ h => h) (by rfl) (by assumption) ?_ ?_
    rotate_left
    · (intro w _; go_simp; try (with_reducible rfl))
    try simp only [putAtH]
    refine takeH 7 (v := ?_) (by simp only [opsAt]; rfl) (by kernel_rfl) (by exact fun _ _ _ h => h) (by rfl) (by assumption) ?_ ?_
    rotate_left
    · (intro w _; go_simp; try (with_reducible rfl))
    try simp only [putAtH]
    refine takeH 8 (v := ?_) (by simp only [opsAt]; rfl) (by kernel_rfl) (by exact fun _ _ _ h => h) (by rfl) (by assumption) ?_ ?_
    rotate_left
    · (intro w _; go_simp; try (with_reducible rfl))
    try simp only [putAtH]
    refine takeH 9 (v := ?_) (by simp only [opsAt]; rfl) (by kernel_rfl) (by exact fun _ _ _ h => h) (by rfl) (by assumption) ?_ ?_
    rotate_left
    · (intro w _; go_simp; try (with_reducible rfl))
    try simp only [putAtH]
    refine wpAnyH_done (by kernel_rfl) ?_ _
    have K3 : Keeps W w3 := by assumption
    go_wp2_with fail
    refine (toTaskS_any _ _ ts _ hn (hs0.keeps K3)).mono ?_
    rintro e w4 ⟨b4, rfl, hs4, ⟨f4, row4⟩, hb4, k4⟩
    have K4 := K3.trans k4
    go_wp2_with fail
    refine (toTask_any t _).mono ?_
    rintro e w5 ⟨rfl, k5⟩
    have K5 := K4.trans k5
    go_wp2_with fail
    refine (HH.out b4 0 _ ts t _ hl' (Nat.le_refl _) (hs4.keeps k5)).mono ?_
    rintro e w6 ⟨v6, rfl, own6, k6⟩
    rw [Hg.out]
    rw [HP.out] at own3 own6
    obtain ⟨a3, c3, rfl, ts3, -, -⟩ := own3.slice tc_size
    obtain ⟨a6, c6, rfl, ts6, -, -⟩ := own6.slice tc_size
    have O6 : Hid (OwnT w6 w5.heap.size (.slice a6 P.length c6) P) := own6
    clear own3 own6
    go_wp2_with fail
    refine (eqTaskS_same a6 a3 c6 c3 P _ hPm ts6 (ts3.keeps (k4.trans (k5.trans k6)))).mono ?_
    rintro e w7 ⟨rfl, k7⟩
    have K7 := K5.trans (k6.trans k7)
    go_wp2_with fail
    refine (toTaskS_any _ _ ts _ hn (hs0.keeps K7)).mono ?_
    rintro e w8 ⟨b8, rfl, hs8, -, -, k8⟩
    have k58 : Keeps w4 w8 := k5.trans (k6.trans (k7.trans k8))
    go_wp2_with fail
    refine (eqTaskS_same _ _ _ _ ts _ hl' (hs4.keeps k58) hs8).mono ?_
    rintro e w9 ⟨rfl, k9⟩
    have k49 : Keeps w4 w9 := k58.trans k9
    have hrow9 := rowIs_keeps row4 k49
    go_wp2_with fail
    refine (markTaskS_any b4 _ ts.length 1 _ (by omega) (by decide) (by decide) (Room.of_row hrow9 (Nat.le_refl _))).mono ?_
    rintro e w10 ⟨rfl, -, kb⟩
    have hb5 : b4 < w5.heap.size := Nat.lt_of_lt_of_le row4.lt k5.size
    have own10 := Own.but (O6.out.keeps (k7.trans (k8.trans k9))) kb hb5
    have k310 : Keeps w3 w10 := kb.keeps (k4.trans k49) hb4
    have K10 : Keeps W w10 := kb.keeps (K4.trans k49) (Nat.le_trans K3.size hb4)
    have hz1 : decide ((1 : Int) + 14 * (ts.length : Int) < 0) = false := by simp; omega
    obtain ⟨a10, c10, e10, ts10, -, -⟩ := own10.slice tc_size
    simp only [Value.slice.injEq] at e10
    obtain ⟨rfl, -, rfl⟩ := e10
    have O10 : Hid (OwnT w10 w5.heap.size (.slice a6 P.length c6) P) := own10
    have h510 : w5.heap.size ≤ w10.heap.size := Nat.le_trans (k6.trans (k7.trans (k8.trans k9))).size kb.size
    clear own10 hrow9 row4 O6 kb
    go_wp2_with fail
    refine (eqTaskS_same a6 a3 c6 c3 P _ hPm ts10 (ts3.keeps k310)).mono ?_
    rintro e w11 ⟨rfl, k11⟩
    go_wp2_with fail
    refine (markTaskS_own _ w5.heap.size P _ (by omega) (O10.out.keeps k11) (Nat.le_trans h510 k11.size)).mono ?_
    rintro e w12 ⟨rfl, ⟨a12, c12, e12, ts12⟩, bl⟩
    simp only [Value.slice.injEq] at e12
    obtain ⟨rfl, -, rfl⟩ := e12
    have K12 : Keeps W w12 := (K10.trans k11).below_trans bl K5.size
    have k312 : Keeps w3 w12 := (k310.trans k11).below_trans bl (k4.trans k5).size
    have hz2 : ((1 : Int) + 14 * (P.length : Int) < 0) = False := by simp; omega
    have hz3 : ((1 : Int) + 14 * (P.length : Int) != (1 : Int) + 14 * (P.length : Int)) = false := by simp
    clear bl
    go_wp2_with fail
    refine (heldTaskS_any a6 c6 P.length 1 _ (by omega) (by decide) (by decide) ts12).mono ?_
    rintro e w13 ⟨rfl, k13⟩
    have K13 : Keeps W w13 := K12.trans k13
    go_wp2_with fail
    refine wp_region_held_drew (S := (fun w' => Keeps W w')) (by kernel_rfl) ?_ (fun hHeld => ?_)
    · exact K13.drew
    refine takeH 0 (v := ?_) (by simp only [opsAt]; rfl) (by kernel_rfl) (by exact fun _ _ _ h => h) (by rfl) (by assumption) ?_ ?_
    rotate_left
    · (intro w _; go_simp; try (with_reducible rfl))
    try simp only [putAtH]
    refine takeH 2 (v := ?_) (by simp only [opsAt]; rfl) (by kernel_rfl) (by exact fun _ _ _ h => h) (by rfl) (by assumption) ?_ ?_
    rotate_left
    · (intro w _; go_simp; try (with_reducible rfl))
    try simp only [putAtH]
    refine callH 1 (by kernel_rfl) (by simp only [opsAt]; rfl) (fun K hK => ?_)
    go_simp
    first
      | (go_at_call 11; refine (toTaskS_any _ _ ts _ hn (hs0.keeps (by assumption))).mono ?_; rintro e w14 ⟨b14, rfl, hs14, _, _, k14⟩)
      | (go_at_call 12; refine (toTask_any t _).mono ?_; rintro e w15 ⟨rfl, k15⟩)
      | (go_at_call 13; refine (HH.out b14 0 _ ts t _ hl' (Nat.le_refl _) (hs14.keeps k15)).mono ?_; rintro e w16 ⟨v16, rfl, own16, k16⟩; rw [Hg.out])
    try go_wp2_with fail
    refine hK.out _ _ ?_ (fun hHeld => ?_)
    · exact Keeps.trans (by assumption) (by assumption)
    clear hK K
    try simp only [putAtH]
    refine callH 3 (by kernel_rfl) (by simp only [opsAt]; rfl) (fun K hK => ?_)
    go_simp
    first
      | (go_at_call 11; refine (toTaskS_any _ _ ts _ hn (hs0.keeps (by assumption))).mono ?_; rintro e w14 ⟨b14, rfl, hs14, _, _, k14⟩)
      | (go_at_call 12; refine (toTask_any t _).mono ?_; rintro e w15 ⟨rfl, k15⟩)
      | (go_at_call 13; refine (HH.out b14 0 _ ts t _ hl' (Nat.le_refl _) (hs14.keeps k15)).mono ?_; rintro e w16 ⟨v16, rfl, own16, k16⟩; rw [Hg.out])
    try go_wp2_with fail
    refine hK.out _ _ ?_ (fun hHeld => ?_)
    · exact Keeps.trans (by assumption) (by assumption)
    clear hK K
    try simp only [putAtH]
    refine callH 4 (by kernel_rfl) (by simp only [opsAt]; rfl) (fun K hK => ?_)
    go_simp
    first
      | (go_at_call 11; refine (toTaskS_any _ _ ts _ hn (hs0.keeps (by assumption))).mono ?_; rintro e w14 ⟨b14, rfl, hs14, _, _, k14⟩)
      | (go_at_call 12; refine (toTask_any t _).mono ?_; rintro e w15 ⟨rfl, k15⟩)
      | (go_at_call 13; refine (HH.out b14 0 _ ts t _ hl' (Nat.le_refl _) (hs14.keeps k15)).mono ?_; rintro e w16 ⟨v16, rfl, own16, k16⟩; rw [Hg.out])
    try go_wp2_with fail
    refine hK.out _ _ ?_ (fun hHeld => ?_)
    · exact Keeps.trans (by assumption) (by assumption)
    clear hK K
    try simp only [putAtH]
    refine takeH 5 (v := ?_) (by simp only [opsAt]; rfl) (by kernel_rfl) (by exact fun _ _ _ h => h) (by rfl) (by assumption) ?_ ?_
    rotate_left
    · (intro w _; go_simp; try (with_reducible rfl))
    try simp only [putAtH]
    refine takeH 6 (v := ?_) (by simp only [opsAt]; rfl) (by kernel_rfl) (by exact fun _ _ _ h => h) (by rfl) (by assumption) ?_ ?_
    rotate_left
    · (intro w _; go_simp; try (with_reducible rfl))
    try simp only [putAtH]
    refine takeH 7 (v := ?_) (by simp only [opsAt]; rfl) (by kernel_rfl) (by exact fun _ _ _ h => h) (by rfl) (by assumption) ?_ ?_
    rotate_left
    · (intro w _; go_simp; try (with_reducible rfl))
    try simp only [putAtH]
    refine takeH 8 (v := ?_) (by simp only [opsAt]; rfl) (by kernel_rfl) (by exact fun _ _ _ h => h) (by rfl) (by assumption) ?_ ?_
    rotate_left
    · (intro w _; go_simp; try (with_reducible rfl))
    try simp only [putAtH]
    refine takeH 9 (v := ?_) (by simp only [opsAt]; rfl) (by kernel_rfl) (by exact fun _ _ _ h => h) (by rfl) (by assumption) ?_ ?_
    rotate_left
    · (intro w _; go_simp; try (with_reducible rfl))
    try simp only [putAtH]
    refine wpAnyH_done (by kernel_rfl) ?_ _
    have K16 : Keeps W w16 := by assumption
    have k1216 : Keeps w12 w16 := k13.trans (((Keeps.refl w13).drew).trans (k14.trans (k15.trans k16)))
    rw [HP.out] at own16
    obtain ⟨a16, c16, rfl, ts16, -, -⟩ := own16.slice tc_size
    clear own16
    go_wp2_with fail
    refine (eqTaskS_same a16 a3 c16 c3 P _ hPm ts16 (ts3.keeps (k312.trans k1216))).mono ?_
    rintro e w17 ⟨rfl, k17⟩
    go_wp2_with fail
    refine (heldTaskS_any a6 c6 P.length 1 _ (by omega) (by decide) (by decide) (ts12.keeps (k1216.trans k17))).mono ?_
    rintro e w18 ⟨rfl, k18⟩
    go_wp2
    go_ret
    exact ⟨rfl, kW.trans (K16.trans (k17.trans k18))⟩
  · unfold maxLen at hl
    have hsz : Hid ((if (ts.length : Int) ≤ 1048576 then (1048576 : Int) - ts.length else -1) = -1) := if_neg (by omega)
    go_enter Try.func3, Try.ntmps3
    go_wp2_with (go_at_call 9; refine (szTaskS_any _ _ _ _ _ hl (by decide) (by decide)).mono ?_; rintro e w1 ⟨rfl, rfl⟩; rw [hsz.out])
    go_ret
    exact ⟨rfl, (Keeps.refl _).alloc _⟩
end Go.Proofs.Ytioffjgnfkjmkaa
