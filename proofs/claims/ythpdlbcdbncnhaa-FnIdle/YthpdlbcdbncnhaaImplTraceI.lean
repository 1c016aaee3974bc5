/-
  The program's IdleOn: turns are counted piece by piece.
-/
import Derived.Test.YthpdlbcdbncnhaaImplTrace
namespace Go.Proofs.Ythpdlbcdbncnhaa
open Go.RowKit
attribute [local go_sem] Keeps.refl Keeps.alloc Keeps.drew Keeps.drewN

set_option maxRecDepth 100000 in
/-- The function that is asked of a turn. -/
theorem askI_any (cb : Nat) (x : Int) (t : Tn) (w : World) (hc : w.cell? ⟨cb, 0, none⟩ = some (.int .i64 x)) :
    Calls Try.prog 15 #[.agg (tnc t), .pointer (some ⟨cb, 0, none⟩)] w fun e w' => e = .returned (.bool (idleP x t)) ∧ Keeps w w' := by
  have hX : ∀ w', Keeps (w.alloc (.cells (tnc t) 34)) w' → ∀ j, w'.cell? ⟨w.heap.size, j, none⟩ = (tnc t)[j]? := fun w' h => ((Blk.new w (tnc t) 34).keeps h).cells
  have hc1 : ∀ w', Keeps (w.alloc (.cells (tnc t) 34)) w' → w'.cell? ⟨cb, 0, none⟩ = some (.int .i64 x) := fun w' h => Keeps.has hc w' (((Keeps.refl w).alloc _).trans h)
  have kW : Hid (Keeps w (w.alloc (.cells (tnc t) 34))) := (Keeps.refl w).alloc _
  clear hc
  cases c1 : (t.cpu == x)
  · have HE : Hid (idleP x t = false) := by show _ = _; unfold idleP; rw [c1]; rfl
    go_enter Try.func15, Try.ntmps15
    go_wp2
    go_ret
    exact ⟨by rw [HE.out]; rfl, kW.out⟩
  · have HE : Hid (idleP x t = (t.ctx == 0)) := by show _ = _; unfold idleP; rw [c1]; rfl
    go_enter Try.func15, Try.ntmps15
    go_wp2
    go_ret
    exact ⟨by rw [HE.out]; rfl, kW.out⟩
set_option maxRecDepth 100000 in
set_option maxHeartbeats 1000000 in
theorem putI_any (mb cb b off n cap : Nat) (x : Int) (ys : List Tn) (w : World) (hn : ys.length = n) (h32 : n ≤ 32) (hs : Rs w (some ⟨b, off, none⟩) ys) (hb : b ≠ mb) (hcb : cb ≠ mb) (B : Blk w mb (marksC (idleP x) ys 0)) (hc : w.cell? ⟨cb, 0, none⟩ = some (.int .i64 x)) :
    Calls Try.prog 22 #[.pointer (some ⟨mb, 0, none⟩), .slice (some ⟨b, off, none⟩) n cap, .func (.func 15) #[] #[.pointer (some ⟨cb, 0, none⟩)]] w fun e w' => e = .returned (.tuple #[]) ∧ Blk w' mb (marksC (idleP x) ys n) ∧ KeepsBut mb w w' := by
  have Hn : Hid (ys.length = n) := hn
  have HB : Hid (Blk w mb (marksC (idleP x) ys 0)) := B
  have HC : Hid (w.cell? ⟨cb, 0, none⟩ = some (.int .i64 x)) := hc
  have HS : Hid (Rs w (some ⟨b, off, none⟩) ys) := hs
  clear hn B hc hs
  go_enter Try.func22, Try.ntmps22
  go_wp2
  go_loopw [9] (fun i wr => ∃ k : Nat, k ≤ n ∧ i = .int .i64 k ∧ Hid (Blk wr mb (marksC (idleP x) ys k)) ∧ Hid (KeepsBut mb w wr)) (fun i _ => n - (intOf i).toNat)
  case atStart => exact ⟨0, Nat.zero_le _, rfl, HB, KeepsBut.refl _ _⟩
  case round =>
    obtain ⟨k, hk, rfl, HBk, hK⟩ := hrel
    by_cases hlt : k < n
    · obtain ⟨y, hx⟩ := some_in (xs := ys) (k := k) (by rw [Hn.out]; exact hlt)
      have hlt' : (k : Int) < (n : Int) := by omega
      obtain ⟨b1, off1, e0, r0, r1⟩ := (HS.out.but hK.out hb).at hx (by omega)
      obtain ⟨rfl, rfl⟩ : b = b1 ∧ off = off1 := by simpa using e0
      have hc := askI_any cb x y wr (KeepsBut.has hcb HC.out _ hK.out)
      have H1 : Hid (marksC (idleP x) ys (k + 1) = (marksC (idleP x) ys k).setIfInBounds k (.int .i64 (if idleP x y then 1 else 0))) := marksC_put _ ys k y (by omega) hx
      have H0 : Hid (idleP x y = false → marksC (idleP x) ys (k + 1) = marksC (idleP x) ys k) := fun h => marksC_skip _ ys k y (by omega) hx h
      clear e0 hx
      generalize hf : idleP x y = z at hc H0 H1
      go_upto_if 17 with (go_at_call 15; refine hc.mono ?_; rintro e w1 ⟨rfl, k1⟩)
      cases z
      · go_wp2
        exact ⟨⟨k + 1, by omega, by go_num, by rw [H0.out rfl]; exact HBk.out.keeps k1, hK.out.trans (.of k1)⟩, by simp only [intOf]; omega⟩
      · have B1 := HBk.out.keeps k1
        have hcell : w1.cell? ⟨mb, k, none⟩ = some (.int .i64 (if k < k then markAt (idleP x) ys k else 0)) := (B1.cells k).trans (marksC_at _ ys k (by omega))
        have hfr : w1.frozen? ⟨mb, k, none⟩ = false := B1.frozens k
        have HB1 : Hid (Blk (w1.setCell ⟨mb, k, none⟩ (.int .i64 1)) mb (marksC (idleP x) ys (k + 1))) := by
          show Blk _ _ _
          rw [H1.out]
          exact B1.set k (by rw [marksC_size]; omega) _
        clear B1
        go_wp2
        exact ⟨⟨k + 1, by omega, by go_num, HB1, (hK.out.trans (.of k1)).setCell k _⟩, by simp only [intOf]; omega⟩
    · have hlt' : decide ((k : Int) < (n : Int)) = false := by simp; omega
      obtain rfl : k = n := by omega
      go_wp2
      go_end0
      exact ⟨rfl, HBk.out, hK.out⟩
set_option maxRecDepth 100000 in
set_option maxHeartbeats 2000000 in
theorem countI_any (a : Option Addr) (n cap cb : Nat) (x : Int) (xs : List Tn) (w : World) (hn : xs.length = n) (hl : n ≤ 1048576) (hc : n ≤ cap) (hs : Rs w a xs) (hx : w.cell? ⟨cb, 0, none⟩ = some (.int .i64 x)) :
    Calls Try.prog 14 #[.slice a n cap, .func (.func 15) #[] #[.pointer (some ⟨cb, 0, none⟩)]] w fun e w' => e = .returned (.int .i64 (xs.countP (idleP x))) ∧ Keeps w w' := by
  have Hn : Hid (xs.length = n) := hn
  have HX : Hid (w.cell? ⟨cb, 0, none⟩ = some (.int .i64 x)) := hx
  have hcb : cb ≠ w.heap.size := by have := World.block_lt_of_cell? w _ hx; simp at this; omega
  have HS : Hid (Rs w a xs) := hs
  clear hn hs hx
  obtain ⟨P, HP⟩ : ∃ P : Nat, Hid ((n + 31) / 32 = P) := ⟨_, rfl⟩
  have hp : P * 32 < n + 32 ∧ n ≤ P * 32 := by have := HP.out; omega
  have c1 := fun W => piecesIn_any a n cap W hl
  rw [HP.out] at c1
  have B0 : Hid (Blk (w.alloc (.cells (List.replicate 32 (Value.int .i64 0)).toArray 45)) w.heap.size (marksC (idleP x) [] 0)) := by
    show Blk _ _ _
    rw [marksC_zero]
    exact Blk.new _ _ _
  have kW : Hid (Keeps w (w.alloc (.cells (List.replicate 32 (Value.int .i64 0)).toArray 45))) := (Keeps.refl w).alloc _
  go_enter Try.func14, Try.ntmps14
  go_wp2_with fail
  change Calls _ _ _ (w.alloc (.cells (List.replicate 32 (Value.int .i64 0)).toArray 45)) _
  generalize w.alloc (.cells (List.replicate 32 (Value.int .i64 0)).toArray 45) = W at *
  refine (c1 W).mono ?_
  rintro e w1 ⟨rfl, rfl⟩
  clear c1
  go_wp2_with fail
  go_loopw [6, 10] (fun c i wr => ∃ k q : Nat, k ≤ P ∧ q ≤ k * 32 ∧ i = .int .i64 k ∧ c = .int .i64 q ∧ Hid (q = (xs.take (k * 32)).countP (idleP x)) ∧ Hid (Blk wr w.heap.size (marksC (idleP x) [] 0)) ∧ Hid (Keeps w wr)) (fun _ i _ => P - (intOf i).toNat)
  case atStart => exact ⟨0, 0, Nat.zero_le _, Nat.zero_le _, rfl, rfl, by show _ = _; simp, B0, kW⟩
  case round =>
    obtain ⟨k, q, hk, hq, rfl, rfl, HQ, HB, hK⟩ := hrel
    by_cases hlt : k < P
    · have hlt' : (k : Int) < (P : Int) := by omega
      have hkn : k * 32 < n := by omega
      rcases HS.out with h0 | ⟨b, off, rfl, hbl, _⟩
      · have := Hn.out
        rw [h0] at this
        simp at this
        omega
      have c2 := fun W => pieceAt_any b off n cap k W hl hkn hc
      have hlen : (pieceL xs k).length = pieceN n k := by rw [pieceL_length, Hn.out]
      have hbb : b ≠ w.heap.size := by omega
      have c3 := putI_any w.heap.size cb b (off + k * 32 * 3) (pieceN n k) (pieceN n k) x (pieceL xs k) wr hlen (by unfold pieceN; omega) (((HS.out.keeps hK.out).drops (k * 32)).takes 32) hbb hcb (by rw [marksC_zero, ← marksC_zero (idleP x) []]; exact HB.out) (Keeps.has HX.out _ hK.out)
      have HL : Hid (pieceN n k = (pieceL xs k).length) := hlen.symm
      have h32 : Hid ((pieceL xs k).length ≤ 32) := by show _ ≤ _; rw [hlen]; unfold pieceN; omega
      have HN : Hid ((xs.take ((k + 1) * 32)).countP (idleP x) = q + (pieceL xs k).countP (idleP x)) := by show _ = _; rw [pieceL_count, HQ.out]
      obtain ⟨m, Hm, hm⟩ : ∃ m, Hid ((pieceL xs k).countP (idleP x) = m) ∧ m ≤ 32 := ⟨_, rfl, Nat.le_trans List.countP_le_length h32.out⟩
      rw [Hm.out] at HN
      clear hlen HS
      generalize pieceN n k = pn at c2 c3 HL
      go_wp2_with (first
        | (go_at_call 23; refine (c2 _).mono ?_; rintro e w2 ⟨rfl, hw2⟩; have hw3 := hw2.symm; subst hw3; clear hw2)
        | (go_at_call 22; refine c3.mono ?_; rintro e w3 ⟨rfl, B3, k3⟩; have c4 := marksSum_any w.heap.size (pieceL xs k) (idleP x) w3 h32.out (by rw [← HL.out]; exact B3); rw [Hm.out] at c4; have HB3 : Hid (Blk w3 w.heap.size (marksC (idleP x) (pieceL xs k) pn)) := B3; have HK3 : Hid (KeepsBut w.heap.size wr w3) := k3; clear B3 k3 c2 c3)
        | (go_at_call 24; refine c4.mono ?_; rintro e w4 ⟨rfl, k4⟩; have c5 := marksEmpty_any w.heap.size (pieceL xs k) [] (idleP x) pn w4 (HB3.out.keeps k4); have HK4 : Hid (KeepsBut w.heap.size wr w4) := HK3.out.trans (.of k4); clear c4 k4 HB3 HK3)
        | (go_at_call 25; refine c5.mono ?_; rintro e w5 ⟨rfl, B5, k5⟩; have HB5 : Hid (Blk w5 w.heap.size (marksC (idleP x) [] 0)) := B5; have HK5 : Hid (Keeps w w5) := (HK4.out.trans k5).keeps hK.out (Nat.le_refl _); clear B5 k5 c5 HK4))
      refine ⟨⟨k + 1, q + m, by omega, by omega, by go_num, by go_num, HN.out.symm, HB5, HK5⟩, by simp only [intOf]; omega⟩
    · have hlt' : decide ((k : Int) < (P : Int)) = false := by simp; omega
      have HE : Hid (xs.countP (idleP x) = q) := by
        show _ = _
        rw [HQ.out, List.take_of_length_le (by rw [Hn.out]; omega)]
      go_wp2
      go_ret
      exact ⟨by rw [HE.out]; rfl, hK.out⟩
set_option maxRecDepth 100000 in
theorem implIdleOn_any (a : Option Addr) (n cap : Nat) (xs : List Tn) (x : Int) (w : World) (hn : xs.length = n) (hl : n ≤ 1048576) (hc : n ≤ cap) (hs : Rs w a xs) :
    Calls Try.prog 8 #[.slice a n cap, .int .i64 x] w fun e w' => e = .returned (.int .i64 (idleN xs x)) ∧ Keeps w w' := by
  have kW : Hid (Keeps w (w.alloc (.cells #[.int .i64 x] 3))) := (Keeps.refl w).alloc _
  have c1 := countI_any a n cap w.heap.size x xs (w.alloc (.cells #[.int .i64 x] 3)) hn hl hc (hs.keeps kW.out) ((Blk.new w #[.int .i64 x] 3).cells 0)
  clear hs
  go_enter Try.func8, Try.ntmps8
  go_wp2_with fail
  refine c1.mono ?_
  rintro e w1 ⟨rfl, k1⟩
  go_wp2
  go_ret
  exact ⟨rfl, kW.out.trans k1⟩
end Go.Proofs.Ythpdlbcdbncnhaa
