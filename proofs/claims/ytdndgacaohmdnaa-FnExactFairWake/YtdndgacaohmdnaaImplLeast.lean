/-
  Fair shares, the program's side: who had least.
-/
import Derived.Test.YtdndgacaohmdnaaImplSeq
namespace Go.Proofs.Ytdndgacaohmdnaa
open Go.RowKit Go.Shelf
attribute [local go_sem] Oper.semAt_some

/-- A block of cells abides the turn of a block that is none. -/
theorem Blk.other {W W' : World} {b : Nat} {C : Array Value} {row : Option Nat} (h : Blk W b C) (hC : 0 < C.size) (hg : W.grownBy W' row) (hr : ∀ r, row = some r → ∃ o : Obj, W.heap[r]? = some o ∧ o.isCells = false) : Blk W' b C := by
  refine h.grown hg fun k hk e => ?_
  subst e
  obtain ⟨o, ho, hc⟩ := hr k hk
  have h0 := h.cells 0
  rw [Array.getElem?_eq_getElem hC] at h0
  unfold World.cell? at h0
  simp only [ho] at h0
  cases o <;> simp_all [Obj.isCells]
theorem others_putC {b : Nat} : ∀ (L : List Value) (w : World) (k : Nat), KeepsOthers w (putC w b k L)
  | [], w, _ => KeepsOthers.refl w
  | v :: r, w, k => (KeepsOthers.setCell w ⟨b, k, none⟩ v).trans (others_putC r _ (k + 1))
set_option maxRecDepth 100000 in
set_option maxHeartbeats 8000000 in
theorem whoHadLeast_any (a : Option Addr) (cap : Nat) (ts : List Tsk) (w : World) (hl : ts.length ≤ 1048576) (hs : Ts w a ts) :
    Calls Try.prog 57 #[.slice a ts.length cap] w fun e w' => (∃ xs, HeapOf ts xs ∧ ((xs = [] ∧ e = .returned (.tuple #[.agg (rtc Tsk.zero), .bool false])) ∨ ∃ f, xs[0]? = some f ∧ e = .returned (.tuple #[.agg (rtc f), .bool true]))) ∧ Keeps w w' := by
  refine (callsIn_wide (n := 5)).1 ?_
  refine callsIn_of_wp_marks Try.func57 rfl trivial ?_ rfl
  simp only [Try.ntmps57, List.size_toArray, List.length_cons, List.length_nil, Nat.reduceAdd, Nat.reduceSub, Array.replicate_succ, Array.replicate_zero, List.push_toArray, List.append_toArray, List.nil_append, List.cons_append]
  gi_wp2_with (refine ⟨trivial, ?_⟩; gi_at_call 82; refine (callsIn_wide.2 (leastFirst_any _ _ _ _)).mono ?_; rintro e w' ⟨rfl, rfl⟩)
  have B1 : Blk (((w.alloc (.cells (rtc Tsk.zero) 87)).alloc (.cells #[.bool false] 4)).alloc (.cells #[.slice a ts.length cap] 35)) w.heap.size (rtc Tsk.zero) := ((Blk.new _ _ _).alloc _).alloc _
  have B2 : Blk (((w.alloc (.cells (rtc Tsk.zero) 87)).alloc (.cells #[.bool false] 4)).alloc (.cells #[.slice a ts.length cap] 35)) (w.heap.size + 1) #[.bool false] := by
    have := (Blk.new (w.alloc (.cells (rtc Tsk.zero) 87)) #[.bool false] 4).alloc (.cells #[.slice a ts.length cap] 35)
    simpa using this
  have B3 : Blk (((w.alloc (.cells (rtc Tsk.zero) 87)).alloc (.cells #[.bool false] 4)).alloc (.cells #[.slice a ts.length cap] 35)) (w.heap.size + 1 + 1) #[.slice a ts.length cap] := by
    have := Blk.new ((w.alloc (.cells (rtc Tsk.zero) 87)).alloc (.cells #[.bool false] 4)) #[.slice a ts.length cap] 35
    simpa using this
  have KW : Keeps w (((w.alloc (.cells (rtc Tsk.zero) 87)).alloc (.cells #[.bool false] 4)).alloc (.cells #[.slice a ts.length cap] 35)) := (((Keeps.refl w).alloc _).alloc _).alloc _
  have hsz : (((w.alloc (.cells (rtc Tsk.zero) 87)).alloc (.cells #[.bool false] 4)).alloc (.cells #[.slice a ts.length cap] 35)).heap.size = w.heap.size + 3 := by simp
  change Code.wpIn _ _ _ _ _ _ (((w.alloc (.cells (rtc Tsk.zero) 87)).alloc (.cells #[.bool false] 4)).alloc (.cells #[.slice a ts.length cap] 35))
  generalize (((w.alloc (.cells (rtc Tsk.zero) 87)).alloc (.cells #[.bool false] 4)).alloc (.cells #[.slice a ts.length cap] 35)) = W0 at *
  refine wpIn_rangeFunc_ownH rfl (by decide) (gf := 99) (lb := #[.pointer (some ⟨w.heap.size + 1 + 1, 0, none⟩)]) rfl trivial (enters_of Try.func99 (by kernel_rfl) rfl)
    (least_seq a cap ts (w.heap.size + 1 + 1) W0 (by omega) (B3.cells 0) (hs.keeps KW) hl _) (fun h k => h.trans k) (fun W l o o' _ h hc _ => KC.putObj W l o o' h hc) (Below.refl _ _) (fun _ => rfl)
    (fun pre W => pre = [] ∧ Blk W w.heap.size (rtc Tsk.zero) ∧ Blk W (w.heap.size + 1) #[.bool false] ∧ Keeps w W)
    (fun c pre W => c = .ret ∧ ∃ f, pre = [f] ∧ Blk W w.heap.size (rtc f) ∧ Blk W (w.heap.size + 1) #[.bool true] ∧ Keeps w W)
    (fun s A B row h hg hr => ⟨h.1, h.2.1.other (by simp) hg fun r e => (hr r e).2, h.2.2.1.other (by simp) hg fun r e => (hr r e).2, h.2.2.2.grown hg fun k e => by have := (hr k e).1; omega⟩)
    (fun c s A B row h hg hr => by
      obtain ⟨h1, f, h2, h3, h4, h5⟩ := h
      exact ⟨h1, f, h2, h3.other (by simp) hg fun r e => (hr r e).2, h4.other (by simp) hg fun r e => (hr r e).2, h5.grown hg fun k e => by have := (hr k e).1; omega⟩)
    ⟨rfl, B1, B2, KW⟩
    (fun x a' W => ∃ Bx, w.heap.size + 2 ≤ Bx ∧ Blk W Bx (rtc x) ∧ a' = { tmps := #[.slice a ts.length cap, undef, .pointer (some ⟨w.heap.size, 0, none⟩), .pointer (some ⟨w.heap.size + 1, 0, none⟩), .pointer (some ⟨Bx, 0, none⟩), .slice a ts.length cap, .func (.func 99) #[] #[.pointer (some ⟨w.heap.size + 1 + 1, 0, none⟩)], .agg (rtc x), undef, undef], defers := [] })
    (fun x a' s A B row h hg hr => by
      obtain ⟨Bx, h1, h2, h3⟩ := h
      exact ⟨Bx, h1, h2.other (by simp) hg fun r e => (hr r e).2, h3⟩) ?assign ?body ?done ?stop
  case assign =>
    rintro l pre x W K ⟨h1, h2, h3, h4⟩ hK
    gi_wp2
    exact hK _ _ ((KeepsOthers.alloc _ _).from _) (KC.of ((Keeps.refl W).alloc _)) ⟨h1, h2.alloc _, h3.alloc _, h4.alloc _⟩ ⟨W.heap.size, h3.lt, Blk.new W (rtc x) 87, rfl⟩
  case body =>
    rintro l pre x a' W hll - ⟨rfl, h2, h3, h4⟩ ⟨Bx, hBx, hX, rfl⟩ -
    have H2 : Hid (Blk W w.heap.size (rtc Tsk.zero)) := h2
    have H3 : Hid (Blk W (w.heap.size + 1) #[.bool false]) := h3
    obtain ⟨_, f1, f2⟩ := h2
    obtain ⟨_, g1, g2⟩ := h3
    obtain ⟨_, x1, x2⟩ := hX
    gi_wp2
    change ownPostG _ _ _ _ _ _ _ _ ((putC W w.heap.size 0 (rtc x).toList).setCell ⟨w.heap.size + 1, 0, none⟩ (.bool true))
    exact ⟨((others_putC _ _ _).trans (KeepsOthers.setCell _ _ _)).from _, rfl, x, rfl, (H2.out.putC (rtc x).toList rfl).far (by omega) _, (Blk.farC (by omega) _ _ H3.out).set 0 (by simp) _, (Keeps.putC (b := w.heap.size) (Nat.le_refl _) _ _ h4).setCell (by show _ ≤ w.heap.size + 1; omega) _⟩
  case done =>
    rintro D ys W hD hS ⟨rfl, h2, h3, h4⟩ hK
    have D1 : Blk ((putC W w.heap.size 0 (rtc Tsk.zero).toList).setCell ⟨w.heap.size + 1, 0, none⟩ (.bool false)) w.heap.size (rtc Tsk.zero) := (h2.putC (rtc Tsk.zero).toList rfl).far (by omega) _
    have D2 : Blk ((putC W w.heap.size 0 (rtc Tsk.zero).toList).setCell ⟨w.heap.size + 1, 0, none⟩ (.bool false)) (w.heap.size + 1) #[.bool false] := (Blk.farC (by omega) _ _ h3).set 0 (by simp) _
    have KY : Keeps w ((putC W w.heap.size 0 (rtc Tsk.zero).toList).setCell ⟨w.heap.size + 1, 0, none⟩ (.bool false)) := (Keeps.putC (b := w.heap.size) (Nat.le_refl _) _ _ h4).setCell (by show _ ≤ w.heap.size + 1; omega) _
    have hK' := ((others_putC (b := w.heap.size) (rtc Tsk.zero).toList W 0).trans (KeepsOthers.setCell _ ⟨w.heap.size + 1, 0, none⟩ (.bool false))).same D _ hK rfl
    obtain ⟨_, f1, f2⟩ := h2
    obtain ⟨_, g1, g2⟩ := h3
    gi_wp2
    change bodyPostM _ _ _ _ _ _ _ ((putC W w.heap.size 0 (rtc Tsk.zero).toList).setCell ⟨w.heap.size + 1, 0, none⟩ (.bool false))
    generalize (putC W w.heap.size 0 (rtc Tsk.zero).toList).setCell ⟨w.heap.size + 1, 0, none⟩ (.bool false) = Y at *
    refine ⟨by simp, .inl ⟨_, _, rfl, run_takeDeferred hK', ?_⟩⟩
    have E1 := D1.other (by simp) (grownBy_putObj' Y D (.deferred none)) (fun r e => by cases e; exact ⟨_, hK', rfl⟩)
    have E2 := D2.other (by simp) (grownBy_putObj' Y D (.deferred none)) (fun r e => by cases e; exact ⟨_, hK', rfl⟩)
    have KE := KY.grown (grownBy_putObj' Y D (.deferred none)) (fun k e => by cases e; omega)
    refine ⟨.tuple #[.agg (rtc Tsk.zero), .bool false], ?_, ⟨[], hS, .inl ⟨rfl, rfl⟩⟩, KE⟩
    simp [results, Try.results57, go_sem, E1.cells, E2.cells]
  case stop =>
    rintro D c pre W hD ⟨ys, hS, hp⟩ ⟨rfl, f, rfl, h2, h3, h4⟩ hK
    gi_wp2
    refine ⟨by simp, .inl ⟨_, _, rfl, run_takeDeferred hK, ?_⟩⟩
    have E1 := h2.other (by simp) (grownBy_putObj' W D (.deferred none)) (fun r e => by cases e; exact ⟨_, hK, rfl⟩)
    have E2 := h3.other (by simp) (grownBy_putObj' W D (.deferred none)) (fun r e => by cases e; exact ⟨_, hK, rfl⟩)
    have KE := h4.grown (grownBy_putObj' W D (.deferred none)) (fun k e => by cases e; omega)
    obtain ⟨r, hr⟩ := hp
    refine ⟨.tuple #[.agg (rtc f), .bool true], ?_, ⟨ys, hS, .inr ⟨f, by rw [← hr]; rfl, rfl⟩⟩, KE⟩
    simp [results, Try.results57, go_sem, E1.cells, E2.cells]
end Go.Proofs.Ytdndgacaohmdnaa
