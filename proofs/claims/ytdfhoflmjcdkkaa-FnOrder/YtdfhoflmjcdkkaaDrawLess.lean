/-
  Two drawn parts of time: the contract of the model's draw, and the law FnOrder's walk.
-/
import Derived.Test.YtdfhoflmjcdkkaaDraw1
import Derived.Test.YtdfhoflmjcdkkaaSumSpec
namespace Go.Proofs.Ytdfhoflmjcdkkaa
open Go.RowKit
attribute [local go_sem] Keeps.refl Keeps.alloc Keeps.drew Keeps.drewN KeepsBut.refl KeepsBut.drew

theorem Two.rulesBut {g : Nat} {w : World} {b : Nat} {v0 v1 : Value} (h : Two w b v0 v1) (hg : b ≠ g) : (∀ w', KeepsBut g w w' → w'.cell? ⟨b, 0, none⟩ = some v0) ∧ (∀ w', KeepsBut g w w' → w'.cell? ⟨b, 1, none⟩ = some v1) ∧ (∀ w', KeepsBut g w w' → w'.frozen? ⟨b, 0, none⟩ = false) ∧ ∀ w', KeepsBut g w w' → w'.frozen? ⟨b, 1, none⟩ = false :=
  ⟨fun _ k => (h.but k hg).1, fun _ k => (h.but k hg).2.1, fun _ k => (h.but k hg).2.2.1, fun _ k => (h.but k hg).2.2.2⟩
theorem Cur.drew {w : World} {g : Nat} (h : Cur w g) : Cur w.drew g := h.keeps (Keeps.refl w).drew

set_option maxHeartbeats 1600000 in
theorem drawShareLess_any (a : Option Addr) (n cap : Nat) (w : World) (hn : n ≤ 1048576) (hb : ∀ g, w.heap.size ≤ g → Bytes g w a n) :
    Calls Try.prog 18 #[.slice a n cap] w fun e w' => ∃ q p q' p' : Int, e = .returned (.tuple #[sh q p, sh q' p']) ∧ Keeps w w' := by
  go_enter Try.func18, Try.ntmps18
  go_wp2_with fail
  refine (l1New_any a n cap _ hn (fun g hg => (hb g (by simp at hg; omega)).but (.of (((Keeps.refl w).alloc _).alloc _)))).mono ?_
  rintro e w1 ⟨g, rfl, hg, hc1, k1⟩
  have hg' : w.heap.size + 2 ≤ g := by simpa using hg
  have kw := (((Keeps.refl w).alloc (.cells #[.int .i64 0, .int .i64 0] 31)).alloc (.cells #[.int .i64 0, .int .i64 0] 31)).trans k1
  have R0 := ((Two.new w (.int .i64 0) (.int .i64 0) 31).alloc (.cells #[.int .i64 0, .int .i64 0] 31)).keeps k1
  have R1 := (Two.new (w.alloc (.cells #[.int .i64 0, .int .i64 0] 31)) (.int .i64 0) (.int .i64 0) 31).keeps k1
  have R1' : Two w1 (w.heap.size + 1) (.int .i64 0) (.int .i64 0) := by simpa using R1
  clear R1 k1 hg hb
  go_wp2_with fail
  refine (drawShare_any g _ hc1).mono ?_
  rintro e w2 ⟨q, p, rfl, hc2, k2⟩
  go_wp2
  have kb : KeepsBut g w1 (w2.alloc (.cells #[.int .i64 q, .int .i64 p] 31)) := k2.alloc _
  have R0 := R0.but kb (by omega)
  have R1 := R1'.but kb (by omega)
  have P := Two.new w2 (.int .i64 q) (.int .i64 p) 31
  have hc3 := hc2.keeps ((Keeps.refl w2).alloc (.cells #[.int .i64 q, .int .i64 p] 31))
  have hp := hc2.lt
  clear R1'
  generalize w2.alloc (.cells #[.int .i64 q, .int .i64 p] 31) = W at *
  generalize w2.heap.size = s at *
  have h1 : w.heap.size ≠ s := by omega
  have h2 : w.heap.size + 1 ≠ s := by omega
  obtain ⟨r1, r2, r3, r4⟩ := R0.rulesBut (g := g) (by omega)
  obtain ⟨r5, r6, r7, r8⟩ := R1.rulesBut (g := g) (by omega)
  obtain ⟨r9, r10, r11, r12⟩ := P.rulesBut (g := g) (by omega)
  have HR0 : Hid (Two W w.heap.size (.int .i64 0) (.int .i64 0)) := R0
  have HR1 : Hid (Two W (w.heap.size + 1) (.int .i64 0) (.int .i64 0)) := R1
  clear R0 R1 P
  go_region_with (go_at_call 39; refine (drawShare_any g _ hc3.drew).mono ?_; rintro e w3 ⟨q', p', rfl, hc4, k4⟩; have kk : KeepsBut g W w3 := (KeepsBut.refl g W).drew.trans k4)
  all_goals go_wp2
  all_goals
    have T0 := ((HR0.out.but kk (by omega)).set (.int .i64 q) (.int .i64 p)).other (c := w.heap.size + 1) (by omega) (.int .i64 q') (.int .i64 p')
    have T1 := ((HR1.out.but kk (by omega)).other (c := w.heap.size) (by omega) (.int .i64 q) (.int .i64 p)).set (.int .i64 q') (.int .i64 p')
    have kf : Keeps w w3 := (kb.trans kk).keeps kw (by omega)
    exact bodyPost_ret (v := .tuple #[sh q p, sh q' p']) (by simp [results, Try.results18, go_sem, T0.1, T0.2.1, T1.1, T1.2.1]) rfl ⟨q, p, q', p', rfl, (((kf.setCell (by simp) _).setCell (by simp) _).setCell (by simp) _).setCell (by simp) _⟩
end Go.Proofs.Ytdfhoflmjcdkkaa
