/-
  Drawn parts of time: contracts of the model's draws of chapter 1.
-/
import Derived.Test.YthffapllcbjmlaaDraw
import Derived.Deep.AppendLies
namespace Go.Proofs.Ythffapllcbjmlaa
open Go.RowKit
attribute [local go_sem] Keeps.refl Keeps.alloc Keeps.drew Keeps.drewN

theorem SumTwo.but {g : Nat} {w w' : World} {b : Nat} {v0 v1 : Value} (h : SumTwo w b v0 v1) (k : KeepsBut g w w') (hg : b ≠ g) : SumTwo w' b v0 v1 := by
  have hb := h.lt
  obtain ⟨h1, h2, h3, h4⟩ := h
  exact ⟨KeepsBut.has hg h1 _ k, KeepsBut.has hg h2 _ k, (World.frozen?_of_block (w := w) (k.block b hb hg)).trans h3, (World.frozen?_of_block (w := w) (k.block b hb hg)).trans h4⟩
theorem SumTwo.set0 {w : World} {b : Nat} {v0 v1 : Value} (h : SumTwo w b v0 v1) (x : Value) : SumTwo (w.setCell ⟨b, 0, none⟩ x) b x v1 := by
  obtain ⟨h1, h2, h3, h4⟩ := h
  exact ⟨setCell_same h1 _, by rw [setCell_other (by omega), h2], by simp [h3], by simp [h4]⟩
theorem SumTwo.set1 {w : World} {b : Nat} {v0 v1 : Value} (h : SumTwo w b v0 v1) (x : Value) : SumTwo (w.setCell ⟨b, 1, none⟩ x) b v0 x := by
  obtain ⟨h1, h2, h3, h4⟩ := h
  exact ⟨by rw [setCell_other (by omega), h1], setCell_same h2 _, by simp [h3], by simp [h4]⟩
theorem SumTwo.far {w : World} {b c o : Nat} {v0 v1 : Value} (h : SumTwo w b v0 v1) (hc : c ≠ b) (x : Value) : SumTwo (w.setCell ⟨c, o, none⟩ x) b v0 v1 := by
  obtain ⟨h1, h2, h3, h4⟩ := h
  exact ⟨by rw [setCell_other (by omega), h1], by rw [setCell_other (by omega), h2], by simp [h3], by simp [h4]⟩
theorem SumTwo.new (w : World) (v0 v1 : Value) (t : TypeId) : SumTwo (w.alloc (.cells #[v0, v1] t)) w.heap.size v0 v1 := by simp [SumTwo, go_sem]
theorem SumTwo.alloc {w : World} {b : Nat} {v0 v1 : Value} (h : SumTwo w b v0 v1) (o : Obj) : SumTwo (w.alloc o) b v0 v1 := h.keeps ((Keeps.refl w).alloc o)
theorem setCell_size (w : World) (a : Addr) (v : Value) : (w.setCell a v).heap.size = w.heap.size := by simp [World.setCell]

/-- What the end of a draw of one part needs: the part in block s, room for the answer in block r. -/
structure At (g : Nat) (w W : World) (r s : Nat) (q p : Int) : Prop where
  cur : Cur W g
  keep : KeepsBut g w W
  res : SumTwo W r (.int .i64 0) (.int .i64 0)
  part : SumTwo W s (.int .i64 q) (.int .i64 p)
  gr : g < r
  rs : r < s
  wr : w.heap.size ≤ r
theorem At.but {g : Nat} {w W W' : World} {r s : Nat} {q p : Int} (h : At g w W r s q p) (hc : Cur W' g) (k : KeepsBut g W W') : At g w W' r s q p :=
  ⟨hc, h.keep.trans k, h.res.but k (by have := h.gr; omega), h.part.but k (by have := h.gr; have := h.rs; omega), h.gr, h.rs, h.wr⟩
theorem At.setQ {g : Nat} {w W : World} {r s : Nat} {q p : Int} (h : At g w W r s q p) (x : Int) : At g w (W.setCell ⟨s, 0, none⟩ (.int .i64 x)) r s x p :=
  ⟨h.cur.setNew (by have := h.gr; have := h.rs; omega) _ _, h.keep.setNew (by have := h.wr; have := h.rs; simp; omega) _, h.res.far (by have := h.rs; omega) _, h.part.set0 _, h.gr, h.rs, h.wr⟩
theorem At.setP {g : Nat} {w W : World} {r s : Nat} {q p : Int} (h : At g w W r s q p) (x : Int) : At g w (W.setCell ⟨s, 1, none⟩ (.int .i64 x)) r s q x :=
  ⟨h.cur.setNew (by have := h.gr; have := h.rs; omega) _ _, h.keep.setNew (by have := h.wr; have := h.rs; simp; omega) _, h.res.far (by have := h.rs; omega) _, h.part.set1 _, h.gr, h.rs, h.wr⟩

theorem At.done {g : Nat} {w W : World} {r s : Nat} {q p : Int} (h : At g w W r s q p) (x y : Value) : Cur ((W.setCell ⟨r, 0, none⟩ x).setCell ⟨r, 1, none⟩ y) g ∧ KeepsBut g w ((W.setCell ⟨r, 0, none⟩ x).setCell ⟨r, 1, none⟩ y) :=
  ⟨(h.cur.setNew h.gr _ _).setNew h.gr _ _, (h.keep.setNew h.wr _).setNew h.wr _⟩

set_option maxRecDepth 100000 in
set_option maxHeartbeats 1600000 in
theorem drawShare_any (g : Nat) (w : World) (hc : Cur w g) :
    Calls Try.prog 30 #[.pointer (some ⟨g, 0, none⟩)] w fun e w' => ∃ q p : Int, e = .returned (sh q p) ∧ Cur w' g ∧ KeepsBut g w w' := by
  have hgl := hc.lt
  go_enter Try.func30, Try.ntmps30
  go_wp2_with fail
  refine (l1PickInt_new (fun z => 1 ≤ z ∧ z ≤ 40) g [1, 2, 3, 4, 5, 6, 8, 10, 12, 39, 40] _ _ 11 11 _ _ (by simp) (hc.keeps ((Keeps.refl _).alloc _)) rfl (by decide) (by decide) rfl (by simp)).mono ?_
  rintro e w1 ⟨p, rfl, ⟨hp0, hp1⟩, hc1, k1⟩
  go_wp2_with fail
  have A : At g w (w1.alloc (.cells #[.int .i64 0, .int .i64 p] 66)) w.heap.size w1.heap.size 0 p := by
    have hs := k1.size
    have kw := ((KeepsBut.refl g w).alloc (.cells #[.int .i64 0, .int .i64 0] 66)).trans k1
    simp at hs
    exact ⟨hc1.keeps ((Keeps.refl _).alloc _), kw.alloc _, ((SumTwo.new w (.int .i64 0) (.int .i64 0) _).but k1 (by omega)).alloc _, SumTwo.new _ _ _ _, hgl, by omega, Nat.le_refl _⟩
  generalize w1.alloc (.cells #[.int .i64 0, .int .i64 p] 66) = W at *
  generalize w1.heap.size = s at *
  generalize hr : w.heap.size = r at *
  clear hr k1 hc1 w1
  refine (l1Max_anyG _ _ _).mono ?_
  rintro e w2 ⟨rfl, rfl⟩
  have hmx : 1 ≤ max (p / 2) 1 ∧ max (p / 2) 1 ≤ 20 := by omega
  generalize max (p / 2) 1 = mx at *
  obtain ⟨mx0, mx1⟩ := hmx
  go_wp2_with fail
  refine (l1Below_any g _ _ A.cur (by omega) (by omega)).mono ?_
  rintro e w3 ⟨x, rfl, hx0, hx1, hc3, k3⟩
  have A3 := A.but hc3 k3
  clear A hc3 k3 hc hgl
  obtain ⟨c0, c1, f0, f1⟩ := A3.part
  go_wp2_with fail
  have A4 := A3.setQ (1 + x)
  clear c0 c1 f0 f1 A3
  generalize w3.setCell ⟨s, 0, none⟩ (.int .i64 (1 + x)) = w4 at *
  refine (l1Below_any g _ _ A4.cur (by omega) (by omega)).mono ?_
  rintro e w5 ⟨y, rfl, hy0, hy1, hc5, k5⟩
  have A5 := A4.but hc5 k5
  clear A4 hc5 k5
  obtain ⟨c0, c1, f0, f1⟩ := A5.part
  obtain ⟨d0, d1, e0, e1⟩ := A5.res
  have hrs : r ≠ s := by have := A5.rs; omega
  have hsr : s ≠ r := Ne.symm hrs
  by_cases hy : y = 0
  · subst hy
    go_wp2_with fail
    refine (l1PickInt_new (fun _ => True) g [0, -1, 41] _ _ 3 3 _ _ rfl A5.cur rfl (by decide) (by decide) rfl (by simp)).mono ?_
    rintro e w6 ⟨z, rfl, _, hc6, k6⟩
    have A6 := A5.but hc6 k6
    clear c0 c1 f0 f1 d0 d1 e0 e1 A5 hc6 k6
    obtain ⟨c0, c1, f0, f1⟩ := A6.part
    obtain ⟨d0, d1, e0, e1⟩ := A6.res
    go_wp2
    exact bodyPost_ret (v := sh (1 + x) z) (by simp [results, Try.results30, go_sem, d0, d1]) rfl ⟨_, _, rfl, (A6.setP z).done _ _⟩
  · by_cases hy' : y = 1
    · subst hy'
      go_wp2_with fail
      refine (l1PickInt_new (fun _ => True) g [0, -1, p, p + 1] _ _ 4 4 _ _ rfl A5.cur rfl (by decide) (by decide) rfl (by simp)).mono ?_
      rintro e w6 ⟨z, rfl, _, hc6, k6⟩
      have A6 := A5.but hc6 k6
      clear c0 c1 f0 f1 d0 d1 e0 e1 A5 hc6 k6
      obtain ⟨c0, c1, f0, f1⟩ := A6.part
      obtain ⟨d0, d1, e0, e1⟩ := A6.res
      go_wp2
      exact bodyPost_ret (v := sh z p) (by simp [results, Try.results30, go_sem, d0, d1]) rfl ⟨_, _, rfl, (A6.setQ z).done _ _⟩
    · have b0 : (y == 0) = false := by rw [beq_eq_false_iff_ne]; exact hy
      have b1 : (y == 1) = false := by rw [beq_eq_false_iff_ne]; exact hy'
      go_wp2
      exact bodyPost_ret (v := sh (1 + x) p) (by simp [results, Try.results30, go_sem, d0, d1]) rfl ⟨_, _, rfl, A5.done _ _⟩
end Go.Proofs.Ythffapllcbjmlaa
