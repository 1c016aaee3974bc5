/-
  Fair shares, the program's side: how far apart they are.
-/
import Derived.Test.YthpdlbcdbncnhaaGreatDoorGIfair1
import Derived.Test.YthpdlbcdbncnhaaGreatDoorGIfair2
namespace Go.Proofs.YthpdlbcdbncnhaaGreatDoor
open Go.RowKit Go.Shelf
attribute [local go_sem] Oper.semAt_some
def spreadW (l : Int) (s : Int) (t : Tsk) : Int := if s < IntKind.i64.wrap (t.v - l) then IntKind.i64.wrap (t.v - l) else s
theorem qf8 {l : Int} (h0 : 0 <= l /\ l <= 100000000) : ∀ (xs : List Tsk) (s : Int), (∀ x ∈ xs, 0 <= x.v /\ x.v <= 100000000) -> xs.foldl (spreadW l) s = xs.foldl (qbz l) s
 | [], _, _ => rfl
 | y :: r, s, h => by
  have hy := h y (by simp)
  have e : IntKind.i64.wrap (y.v - l) = y.v - l := Go.IntWalk.i64_in _ (by omega)
  have e2 : spreadW l s y = qbz l s y := by
   unfold spreadW qbz
   rw [e]
   split <;> omega
  simp only [List.foldl_cons, e2]
  exact qf8 h0 r _ fun x hx => h x (List.mem_cons_of_mem _ hx)
theorem HeapOf.spreadW {ts xs ys : List Tsk} (h : HeapOf ts xs) (h' : HeapOf ts ys) {f : Tsk} (hf : xs[0]? = some f) : qbw ts = ys.foldl (Go.Proofs.YthpdlbcdbncnhaaGreatDoor.spreadW f.v) 0 := by
 have e : ys[0]? = some f := by rw [h'.fst, <- h.fst]; exact hf
 have hm := (h.mem f).1 (List.mem_iff_getElem?.2 ⟨0, hf⟩)
 rw [h'.spread e, qf8 ((qcG f).1 hm.2).v ys 0 fun x hx => ((qcG x).1 ((h'.mem x).1 hx).2).v]
theorem HeapOf.spreadW0 {ts ys : List Tsk} (h : HeapOf ts []) (h' : HeapOf ts ys) (l : Int) : qbw ts = ys.foldl (Go.Proofs.YthpdlbcdbncnhaaGreatDoor.spreadW l) 0 := by
 have e : ys = [] := by
  cases ys with
  | nil => rfl
  | cons y r =>
   have := h'.fst
   rw [<- h.fst] at this
   simp at this
 subst e
 exact h.spread0 l
theorem KC.setCell {B : Nat} (W : World) (b k : Nat) (v : Value) (h : b < B) : KC B W (W.setCell ⟨b, k, none⟩ v) :=
 ⟨by simp, fun i o hB hi _ => (heap_setCell_other W ⟨b, k, none⟩ i v (by show i ≠ b; omega)).trans hi⟩
set_option maxRecDepth 100000 in
set_option maxHeartbeats 8000000 in
theorem qjg : qi9 := by
 intro a cap ts w hl hs
 refine (callsIn_wide (n := 5)).1 ?_
 refine callsIn_of_wp_marks Tryz.func52 rfl trivial ?_ rfl
 simp only [Tryz.ntmps52, List.size_toArray, List.length_cons, List.length_nil, Nat.reduceAdd, Nat.reduceSub, Array.replicate_succ, Array.replicate_zero, List.push_toArray, List.append_toArray, List.nil_append, List.cons_append]
 gi_wp2_with fail
 refine ⟨trivial, ?_⟩
 refine (callsIn_wide.2 (qjd a cap ts w hl hs)).mono ?_
 rintro e w1 ⟨⟨xs, hO, h⟩, k1⟩
 obtain ⟨f, ok, rfl, HS⟩ : ∃ (f : Tsk) (ok : Bool), e = .returned (.tuple #[.agg (rtc f), .bool ok]) /\ Hid (∀ ys, HeapOf ts ys -> qbw ts = ys.foldl (spreadW f.v) 0) := by
  rcases h with ⟨rfl, rfl⟩ | ⟨f, hf, rfl⟩
  ·exact ⟨_, _, rfl, fun ys h => hO.spreadW0 h _⟩
  ·exact ⟨_, _, rfl, fun ys h => hO.spreadW h hf⟩
 clear h hO
 gi_wp2_with (refine ⟨trivial, ?_⟩; gi_at_call 92; refine (callsIn_wide.2 (qf6 _ _ _ _)).mono ?_; rintro e w' ⟨rfl, rfl⟩)
 have B1 : Blk (((w1.alloc (.cells (rtc f) 129)).alloc (.cells #[.int .i64 0] 3)).alloc (.cells #[.slice a ts.length cap] 32)) w1.heap.size (rtc f) := ((Blk.new _ _ _).alloc _).alloc _
 have B2 : Blk (((w1.alloc (.cells (rtc f) 129)).alloc (.cells #[.int .i64 0] 3)).alloc (.cells #[.slice a ts.length cap] 32)) (w1.heap.size + 1) #[.int .i64 0] := by
  have := (Blk.new (w1.alloc (.cells (rtc f) 129)) #[.int .i64 0] 3).alloc (.cells #[.slice a ts.length cap] 32)
  simpa using this
 have B3 : Blk (((w1.alloc (.cells (rtc f) 129)).alloc (.cells #[.int .i64 0] 3)).alloc (.cells #[.slice a ts.length cap] 32)) (w1.heap.size + 1 + 1) #[.slice a ts.length cap] := by
  have := Blk.new ((w1.alloc (.cells (rtc f) 129)).alloc (.cells #[.int .i64 0] 3)) #[.slice a ts.length cap] 32
  simpa using this
 have KW : Keeps w (((w1.alloc (.cells (rtc f) 129)).alloc (.cells #[.int .i64 0] 3)).alloc (.cells #[.slice a ts.length cap] 32)) := (((k1).alloc _).alloc _).alloc _
 have hsz : (((w1.alloc (.cells (rtc f) 129)).alloc (.cells #[.int .i64 0] 3)).alloc (.cells #[.slice a ts.length cap] 32)).heap.size = w1.heap.size + 3 := by simp
 have hw1 := k1.size
 change Code.wpIn _ _ _ _ _ _ (((w1.alloc (.cells (rtc f) 129)).alloc (.cells #[.int .i64 0] 3)).alloc (.cells #[.slice a ts.length cap] 32))
 generalize (((w1.alloc (.cells (rtc f) 129)).alloc (.cells #[.int .i64 0] 3)).alloc (.cells #[.slice a ts.length cap] 32)) = W0 at *
 generalize w1.heap.size = q at *
 refine wpIn_rangeFunc_ownH rfl (by decide) (gf := 141) (lb := #[.pointer (some ⟨q + 1 + 1, 0, none⟩)]) rfl trivial (enters_of Tryz.func141 (by kernel_rfl) rfl)
  (qf7 a cap ts (q + 1 + 1) W0 (by omega) (B3.cells 0) (hs.keeps KW) hl _) (fun h k => h.trans k) (fun W l o o' _ h hc _ => KC.putObj W l o o' h hc) (Below.refl _ _) (fun _ => rfl)
  (fun pre W => Blk W q (rtc f) /\ Blk W (q + 1) #[.int .i64 (pre.foldl (spreadW f.v) 0)] /\ Keeps w W)
  (fun _ _ _ => False)
  (fun s A B row h hg hr => ⟨h.1.other (by simp) hg fun r e => (hr r e).2, h.2.1.other (by simp) hg fun r e => (hr r e).2, h.2.2.grown hg fun k e => by have := (hr k e).1; omega⟩)
  (fun _ _ _ _ _ h _ _ => h)
  ⟨B1, B2, KW⟩
  (fun x a' W => ∃ Bx, q + 2 <= Bx /\ Blk W Bx (rtc x) /\ a' = { tmps := #[.slice a ts.length cap, undef, .int .i64 0, .pointer (some ⟨q, 0, none⟩), .bool ok, .pointer (some ⟨q + 1, 0, none⟩), .pointer (some ⟨Bx, 0, none⟩), .tuple #[.agg (rtc f), .bool ok], .slice a ts.length cap, .tuple #[.agg (rtc f), .bool ok], .agg (rtc f), .bool ok, .slice a ts.length cap, .func (.func 141) #[] #[.pointer (some ⟨q + 1 + 1, 0, none⟩)], .agg (rtc x), undef, undef, undef, undef, undef, undef, undef, undef, undef, undef], defers := [] })
  (fun x a' s A B row h hg hr => by
   obtain ⟨Bx, h1, h2, h3⟩ := h
   exact ⟨Bx, h1, h2.other (by simp) hg fun r e => (hr r e).2, h3⟩) ?assign ?body ?done ?stop
 case assign =>
  rintro l pre x W K ⟨h1, h2, h3⟩ hK
  gi_wp2
  exact hK _ _ ((KeepsOthers.alloc _ _).from _) (KC.of ((Keeps.refl W).alloc _)) ⟨h1.alloc _, h2.alloc _, h3.alloc _⟩ ⟨W.heap.size, h2.lt, Blk.new W (rtc x) 129, rfl⟩
 case body =>
  rintro l pre x a' W hll - ⟨h1, h2, h3⟩ ⟨Bx, hBx, hX, rfl⟩ -
  have H1 : Hid (Blk W q (rtc f)) := h1
  have hf : Hid ((pre ++ [x]).foldl (spreadW f.v) 0 = spreadW f.v (pre.foldl (spreadW f.v) 0) x) := by show _ = _; rw [List.foldl_append]; rfl
  generalize pre.foldl (spreadW f.v) 0 = S at *
  have H2 : Hid (Blk W (q + 1) #[.int .i64 S]) := h2
  obtain ⟨_, f1, f2⟩ := h1
  obtain ⟨_, g1, g2⟩ := h2
  obtain ⟨_, x1, x2⟩ := hX
  obtain ⟨d, hd⟩ : ∃ d, d = IntKind.i64.wrap (x.v - f.v) := ⟨_, rfl⟩
  have hd' : IntKind.i64.wrap (x.v - f.v) = d := hd.symm
  have Hd : Hid (spreadW f.v S x = if S < d then d else S) := by show _ = _; rw [hd]; rfl
  clear hd
  by_cases hm : S < d
  ·have HE : Hid (spreadW f.v S x = d) := by show _ = _; rw [Hd.out, if_pos hm]
   gi_wp2
   exact ⟨(KeepsOthers.setCell _ _ _).from _, KC.setCell _ _ _ _ (by show q + 1 < _; omega), H1.out.far (by omega) _, by rw [hf.out, HE.out]; exact H2.out.set 0 (by simp) _, h3.setCell (by show _ <= q + 1; omega) _⟩
  ·have HE : Hid (spreadW f.v S x = S) := by show _ = _; rw [Hd.out, if_neg hm]
   gi_wp2
   exact ⟨(KeepsOthers.setCell _ _ _).from _, KC.setCell _ _ _ _ (by show q + 1 < _; omega), H1.out.far (by omega) _, by rw [hf.out, HE.out]; exact H2.out.set 0 (by simp) _, h3.setCell (by show _ <= q + 1; omega) _⟩
 case done =>
  rintro D ys W hD hS ⟨h1, h2, h3⟩ hK
  have HR : Hid (qbw ts = ys.foldl (spreadW f.v) 0) := HS.out ys hS
  generalize ys.foldl (spreadW f.v) 0 = S at *
  obtain ⟨_, g1, g2⟩ := h2
  gi_wp2
  refine ⟨by simp, .inl ⟨_, _, rfl, run_takeDeferred hK, ?_⟩⟩
  have KE := h3.grown (grownBy_putObj' W D (.deferred none)) (fun k e => by cases e; omega)
  exact ⟨_, results_tmp rfl _ _ _, by rw [HR.out]; rfl, KE⟩
 case stop =>
  rintro D c pre W _ _ h _
  exact h.elim
end Go.Proofs.YthpdlbcdbncnhaaGreatDoor
