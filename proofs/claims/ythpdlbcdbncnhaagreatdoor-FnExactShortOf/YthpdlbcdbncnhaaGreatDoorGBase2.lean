/-
  Rows of numbers: the laws' own helpers over them.
  An element of a row of one's own is written over.
  What a heap's walk needs of every kind: loops of two rounds, appends in a drawn region, swaps of two elements of nine cells.
  A region that draws its order and ends in one store for which all its reads are waited: the reads may be taken first, though what they read is what is stored over.
  What every step from a walk to a given statement leans on.
  Maps from numbers to numbers that the call makes, told by the list of their entries: laws at each operation, for every number.
  Closed facts on the program as a whole that every statement of a seat asks for, proved once: over the head of the translation as a list of signs (its string, sign by sign in the kernel, costs gigabytes where a seat has many roots).
  A scope whose labels are jumped to a few times.
  A list of bytes that comes in as an argument: what its reading says of its cells.
-/
import Derived.Test.YthpdlbcdbncnhaaGreatDoorGBase1
import Derived.Test.YthpdlbcdbncnhaaGreatDoorGPure1
import Derived.Deep.RegionLaw
import Derived.BigRegion
import Derived.Deep.RegionHeld3
import Derived.Test.YthpdlbcdbncnhaaGreatDoorRows
import Derived.WalkKit
import Derived.ProofKit
import Derived.OpenShut
import Derived.ShutString
import Derived.ChangeOld
import Derived.Lib.SmallJoins
import Derived.Maps.OwnSet
import Derived.WalkMore
namespace Go.Proofs.YthpdlbcdbncnhaaGreatDoor
open Go.RowKit
attribute [local go_sem] Keeps.refl Keeps.alloc Keeps.drew Keeps.drewN

theorem some_in {α : Type} {xs : List α} {k : Nat} (h : k < xs.length) : ∃ x, xs[k]? = some x := ⟨xs[k], List.getElem?_eq_getElem h⟩
theorem lt_of_some {α : Type} {xs : List α} {k : Nat} {x : α} (h : xs[k]? = some x) : k < xs.length := by
  rcases Nat.lt_or_ge k xs.length with h' | h'
  · exact h'
  · rw [List.getElem?_eq_none h'] at h; cases h
/-- The cells of a number. -/
abbrev ic (x : Int) : Array Value := #[.int .i64 x]
theorem ic_size (x : Int) : (ic x).size = 1 := rfl
theorem ic_one (x : Int) : ∀ u ∈ (ic x).toList, u.oneCell' = true := by
  intro u hu
  simp at hu
  subst hu
  rfl
/-- The numbers xs lie there. -/
def Ns (w : World) (a : Option Addr) (xs : List Int) : Prop := xs = [] ∨ ∃ b off, a = some ⟨b, off, none⟩ ∧ b < w.heap.size ∧ ∀ i x, xs[i]? = some x → w.cell? ⟨b, off + i, none⟩ = some (.int .i64 x)
theorem Ns.keeps {w w' : World} {a : Option Addr} {xs : List Int} (h : Ns w a xs) (k : Keeps w w') : Ns w' a xs := by
  rcases h with h | ⟨b, off, rfl, hb, h⟩
  · exact .inl h
  · exact .inr ⟨b, off, rfl, Nat.lt_of_lt_of_le hb k.size, fun i x hx => (k.cells _ _ hb).trans (h i x hx)⟩
theorem Ns.at {w : World} {a : Option Addr} {xs : List Int} (h : Ns w a xs) {i : Nat} {x : Int} (hx : xs[i]? = some x) :
    ∃ b off, a = some ⟨b, off, none⟩ ∧ ∀ w', Keeps w w' → w'.cell? ⟨b, off + i, none⟩ = some (.int .i64 x) := by
  rcases h with rfl | ⟨b, off, rfl, hb, h⟩
  · simp at hx
  · exact ⟨b, off, rfl, fun w' k => (k.cells _ _ hb).trans (h i x hx)⟩
theorem Ns.of_lies {w : World} {a : Option Addr} {xs : List Int} (h : Lies 1 ic w a xs) : Ns w a xs := by
  rcases h with h | ⟨b, off, rfl, hb, h⟩
  · exact .inl h
  · exact .inr ⟨b, off, rfl, hb, fun i x hx => by simpa using h i x hx 0 (by omega)⟩
theorem Ns.lies {w : World} {a : Option Addr} {xs : List Int} (h : Ns w a xs) : Lies 1 ic w a xs := by
  rcases h with h | ⟨b, off, rfl, hb, h⟩
  · exact .inl h
  · refine .inr ⟨b, off, rfl, hb, fun i x hx k hk => ?_⟩
    obtain rfl : k = 0 := by omega
    simpa using h i x hx
/-- A row of numbers of one's own. -/
abbrev OwnN (w : World) (base : Nat) (v : Value) (xs : List Int) : Prop := Own 3 1 ic w base v xs
theorem flatC_ic (xs : List Int) : flatC ic xs = xs.map fun x => .int .i64 x := by
  induction xs with
  | nil => rfl
  | cons x r ih =>
    show (ic x).toList ++ flatC ic r = _
    rw [ih]; rfl
theorem OwnN.ns {w : World} {base : Nat} {v : Value} {xs : List Int} (h : OwnN w base v xs) : ∃ a cap, v = .slice a xs.length cap ∧ Ns w a xs ∧ xs.length ≤ cap ∧ cap ≤ maxLen := by
  obtain ⟨a, cap, e, l, h1, h2⟩ := h.slice ic_size
  exact ⟨a, cap, e, .of_lies l, h1, h2⟩
theorem OwnN.of {w : World} {base b cap : Nat} {xs : List Int} {ys : List Value} (h : w.ownsRow base 3 1 (.slice (some ⟨b, 0, none⟩) xs.length cap) xs.length ys) (hy : ∀ (j : Nat) (x : Int), xs[j]? = some x → ys[j]? = some (.int .i64 x)) : OwnN w base (.slice (some ⟨b, 0, none⟩) xs.length cap) xs := by
  have e : ys = flatC ic xs := by
    rw [flatC_ic]
    have hl : ys.length = xs.length := by have := h.1; omega
    apply List.ext_getElem?
    intro j
    rcases Nat.lt_or_ge j xs.length with hj | hj
    · rw [hy j xs[j] (List.getElem?_eq_getElem hj)]
      simp [hj]
    · rw [List.getElem?_eq_none (by omega), List.getElem?_eq_none (by simpa using hj)]
  unfold OwnN Own
  rw [← e]
  exact h

/-- What is left behind n more; -1 where that is too little. -/
def szOf (n : Nat) (left : Int) : Int := if (n : Int) ≤ left then left - n else -1
set_option maxRecDepth 100000 in
theorem szIntS_any (a : Option Addr) (cap n : Nat) (left : Int) (w : World) (hl : n ≤ maxLen) (h0 : 0 ≤ left) (h1 : left ≤ 1048576) :
    Calls Tryz.prog 34 #[.slice a n cap, .int .i64 left] w fun e w' => e = .returned (.int .i64 (szOf n left)) ∧ w' = w := by
  unfold maxLen at hl
  unfold szOf
  by_cases h : (n : Int) ≤ left
  · rw [if_pos h]
    go_enter Tryz.func34, Tryz.ntmps34
    go_wp2
    go_ret
    exact ⟨rfl, rfl⟩
  · rw [if_neg h]
    go_enter Tryz.func34, Tryz.ntmps34
    go_wp2
    go_ret
    exact ⟨rfl, rfl⟩

set_option maxRecDepth 100000 in
set_option maxHeartbeats 1000000 in
theorem eqIntS_same (a a' : Option Addr) (cap cap' : Nat) (xs : List Int) (w : World) (hl : xs.length ≤ maxLen) (hs : Ns w a xs) (hs' : Ns w a' xs) :
    Calls Tryz.prog 48 #[.slice a xs.length cap, .slice a' xs.length cap'] w fun e w' => e = .returned (.bool true) ∧ Keeps w w' := by
  unfold maxLen at hl
  generalize hn : xs.length = n at hl
  have Hn : Hid (xs.length = n) := hn
  clear hn
  have hne : ((n : Int) != (n : Int)) = false := by simp
  go_enter Tryz.func48, Tryz.ntmps48
  go_wp2
  go_loopw [5] (fun i wr => ∃ k : Nat, k ≤ n ∧ i = .int .i64 k ∧ Keeps w wr) (fun i _ => n - (intOf i).toNat)
  case atStart => exact ⟨0, Nat.zero_le _, rfl, Keeps.refl _⟩
  case round =>
    obtain ⟨k, hk, rfl, hK⟩ := hrel
    by_cases hlt : k < n
    · obtain ⟨x, hx⟩ := some_in (xs := xs) (k := k) (by rw [Hn.out]; exact hlt)
      obtain ⟨b, off, rfl, r0⟩ := hs.at hx
      obtain ⟨b', off', rfl, r0'⟩ := hs'.at hx
      have hlt' : (k : Int) < (n : Int) := by omega
      have hxx : (x != x) = false := by simp
      clear hs hs' hx
      go_wp2_with fail
      go_region
      go_wp2
      exact ⟨⟨k + 1, by omega, by go_num, hK.drew⟩, by simp only [intOf]; omega⟩
    · go_wp2
      go_ret
      exact ⟨rfl, hK⟩

set_option maxRecDepth 100000 in
set_option maxHeartbeats 2000000 in
theorem toIntS_any (a : Option Addr) (cap : Nat) (xs : List Int) (w : World) (hl : xs.length ≤ 1048576) (hs : Ns w a xs) :
    Calls Tryz.prog 40 #[.slice a xs.length cap] w fun e w' => e = .returned (.slice (some ⟨w.heap.size, 0, none⟩) xs.length xs.length) ∧ OwnN w' w.heap.size (.slice (some ⟨w.heap.size, 0, none⟩) xs.length xs.length) xs ∧ Keeps w w' := by
  generalize hn : xs.length = n at hl
  have Hn : Hid (xs.length = n) := hn
  clear hn
  obtain ⟨C, hC, hmk⟩ := run_make_any (P := Tryz.prog) 25 3 (.int .i64 0) 1 8 Tryz.underlying25 (by kernel_rfl) n (by omega) (by omega)
  have row0 : Hid ((w.alloc (.cells C 3)).ownsRow w.heap.size 3 1 (.slice (some ⟨w.heap.size, 0, none⟩) n n) n C.toList) := World.ownsRow_lit w C n (Nat.le_refl _) (by unfold maxLen; omega) hC
  clear hC
  go_enter Tryz.func40, Tryz.ntmps40
  go_wp2
  go_loopw [4] (fun i wr => ∃ (k : Nat) (ys : List Value), k ≤ n ∧ i = .int .i64 k ∧ Keeps w wr ∧ Hid (wr.ownsRow w.heap.size 3 1 (.slice (some ⟨w.heap.size, 0, none⟩) n n) n ys) ∧ Hid (∀ j x, j < k → xs[j]? = some x → ys[j]? = some (.int .i64 x))) (fun i _ => n - (intOf i).toNat)
  case atStart => exact ⟨0, _, Nat.zero_le _, rfl, (Keeps.refl _).alloc _, row0, fun j _ hj => by omega⟩
  case round =>
    obtain ⟨k, ys, hk, rfl, hK, hrow, hf⟩ := hrel
    clear hmk row0
    by_cases hlt : k < n
    · obtain ⟨x, hx⟩ := some_in (xs := xs) (k := k) (by rw [Hn.out]; exact hlt)
      obtain ⟨b, off, rfl, r0⟩ := hs.at hx
      have Hx : Hid (xs[k]? = some x) := hx
      clear hx hs
      have hlt' : (k : Int) < (n : Int) := by omega
      have hyl : Hid (k < ys.length) := by show _ < _; have := hrow.out.1; omega
      obtain ⟨y, s0⟩ : ∃ y, wr.cell? ⟨w.heap.size, k, none⟩ = some y := by
        obtain ⟨y, hy⟩ := some_in hyl.out
        exact ⟨y, (hrow.out.cellAt k (by omega)).trans hy⟩
      have s1 := hrow.out.frozenAt k
      go_wp2
      refine ⟨⟨k + 1, ys.set k (.int .i64 x), by omega, by go_num, hK.setCell (p := ⟨w.heap.size, k, none⟩) (Nat.le_refl _) _, (hrow.out.stored k (.int .i64 x)).1, ?_⟩, by simp only [intOf]; omega⟩
      intro j z hj hjz
      by_cases hjk : j = k
      · subst hjk
        rw [Hx.out] at hjz
        cases hjz
        rw [List.getElem?_set_self hyl.out]
      · rw [List.getElem?_set_ne (Ne.symm hjk)]
        exact hf.out j z (by omega) hjz
    · have e : k = n := by omega
      subst e
      go_wp2
      go_ret
      have hrow' := hrow.out
      have hf' := hf.out
      rw [← Hn.out] at hrow' hf' ⊢
      exact ⟨rfl, .of hrow' (fun j x hx => hf' j x (lt_of_some hx) hx), hK⟩

/-- n numbers from k on. -/
def upFrom (k : Int) (n : Nat) : List Int := (List.range n).map fun i : Nat => k + (i : Int)
theorem upFrom_length (k : Int) (n : Nat) : (upFrom k n).length = n := by simp [upFrom]
theorem upFrom_at {k : Int} {n i : Nat} (h : i < n) : (upFrom k n)[i]? = some (k + (i : Int)) := by simp [upFrom, h]

end Go.Proofs.YthpdlbcdbncnhaaGreatDoor
namespace Go.Proofs.YthpdlbcdbncnhaaGreatDoor
open Go.RowKit

/-- From the place k on stand these values. -/
def setLs (xs : List Value) (k : Nat) : List Value → List Value
  | [] => xs
  | v :: r => setLs (xs.set k v) (k + 1) r
theorem setLs_right (A : List Value) : ∀ (L B : List Value) (k : Nat), setLs (A ++ B) (A.length + k) L = A ++ setLs B k L
  | [], _, _ => rfl
  | v :: r, B, k => by
    rw [setLs, setLs, List.set_append_right _ _ (by omega), Nat.add_assoc, show A.length + k - A.length = k by omega]
    exact setLs_right A r (B.set k v) (k + 1)
theorem setLs_all : ∀ (L A B : List Value), A.length = L.length → setLs (A ++ B) 0 L = L ++ B
  | [], A, B, h => by
    have : A = [] := List.length_eq_zero_iff.1 h
    subst this
    rfl
  | v :: r, [], B, h => by simp at h
  | v :: r, a :: A, B, h => by
    have h1 := setLs_right [v] r (A ++ B) 0
    have h2 := setLs_all r A B (by simpa using h)
    rw [setLs]
    simp only [List.cons_append, List.set_cons_zero, List.nil_append, List.length_singleton, Nat.add_zero, Nat.zero_add] at h1 ⊢
    rw [h1, h2]
theorem setLs_flat {α : Type} {c : α → Array Value} {sz : Nat} (hc : ∀ x, (c x).size = sz) (x : α) : ∀ (xs : List α) (i : Nat), i < xs.length → setLs (flatC c xs) (i * sz) (c x).toList = flatC c (xs.set i x)
  | [], i, h => by simp at h
  | y :: r, 0, _ => by
    have e : flatC c (y :: r) = (c y).toList ++ flatC c r := rfl
    have e' : flatC c ((y :: r).set 0 x) = (c x).toList ++ flatC c r := rfl
    rw [e, e', Nat.zero_mul]
    exact setLs_all _ _ _ (by simp [hc])
  | y :: r, i + 1, h => by
    have e : flatC c (y :: r) = (c y).toList ++ flatC c r := rfl
    have e' : flatC c ((y :: r).set (i + 1) x) = (c y).toList ++ flatC c (r.set i x) := rfl
    have hl : (i + 1) * sz = (c y).toList.length + i * sz := by rw [Array.length_toList, hc, Nat.add_mul, Nat.one_mul, Nat.add_comm]
    rw [e, e', hl, setLs_right, setLs_flat hc x r i (by simpa using h)]
theorem ownsRow_putC {base : Nat} {e : TypeId} {size g n cap : Nat} : ∀ (L : List Value) (w : World) (k : Nat) (xs : List Value), w.ownsRow base e size (.slice (some ⟨g, 0, none⟩) n cap) n xs →
    (putC w g k L).ownsRow base e size (.slice (some ⟨g, 0, none⟩) n cap) n (setLs xs k L)
  | [], _, _, _, h => h
  | v :: r, _, k, _, h => ownsRow_putC r _ (k + 1) _ (h.stored k v).1
/-- The element i is another one now. -/
theorem Own.put {α : Type} {e : TypeId} {sz : Nat} {c : α → Array Value} {w : World} {base b cap : Nat} {xs : List α} (hc : ∀ x, (c x).size = sz) (h : Own e sz c w base (.slice (Option.some ⟨b, 0, none⟩) xs.length cap) xs) {i : Nat} (hi : i < xs.length) (x : α) :
    Own e sz c (putC w b (i * sz) (c x).toList) base (.slice (Option.some ⟨b, 0, none⟩) (xs.set i x).length cap) (xs.set i x) := by
  unfold Own at h ⊢
  rw [← setLs_flat hc x xs i hi, List.length_set]
  exact ownsRow_putC _ _ _ _ h
end Go.Proofs.YthpdlbcdbncnhaaGreatDoor
namespace Go.Proofs.YthpdlbcdbncnhaaGreatDoor
open Go.RowKit
/-- A loop that is over within two rounds. -/
theorem wp_loop_twice {P : Program} {c : Code} {Q : Exit → Act → World → Prop} {a : Act} {w : World}
    (h : c.wp P (Exit.then (fun a' w' => c.wp P (Exit.then (fun _ _ => False) Q) a' w') Q) a w) : (Code.loop c).wp P Q a w := by
  by_cases h0 : c.wp P (Exit.then (fun _ _ => False) Q) a w
  · exact wp_loop_once h0
  · haveI : ∀ (a' : Act) (w' : World), Decidable (c.wp P (Exit.then (fun _ _ => False) Q) a' w') := fun _ _ => Classical.propDecidable _
    refine wp_loop (fun a' w' => (a' = a ∧ w' = w) ∨ c.wp P (Exit.then (fun _ _ => False) Q) a' w') (fun a' w' => if c.wp P (Exit.then (fun _ _ => False) Q) a' w' then 0 else 1) (.inl ⟨rfl, rfl⟩) fun a' w' hi => ?_
    by_cases h1 : c.wp P (Exit.then (fun _ _ => False) Q) a' w'
    · exact Code.wp_mono (fun e a w q => by cases e <;> first | exact q | exact q.elim) h1
    · rcases hi with ⟨rfl, rfl⟩ | hi
      · refine Code.wp_mono (fun e a w q => ?_) h
        cases e <;> first | exact q | (have q' : c.wp P (Exit.then (fun _ _ => False) Q) a w := q; refine ⟨.inr q', ?_⟩; rw [if_pos q', if_neg h1]; exact Nat.zero_lt_one)
      · exact absurd hi h1

/-- An append of one element that lies in a block of its own onto a row of one's own, as a step of a region that draws its order. -/
theorem step_push {α : Type} {P : Program} {ops : Array Oper} {o : Oper} {a : Act} {w : World} {K : Act → World → Prop} {Q : Exit → Act → World → Prop} {E : Prop}
    (hg : o.guard = none) (s x : Operand) (t : TypeId) (hop : o.op = Op.call { callee := Callee.builtin Builtin.append, args := #[s, x], argTypes := #[t, t] })
    (base : Nat) (e : TypeId) (z : Value) (sz bytes : Nat) (c : α → Array Value) (ht : P.underlying t = some (.slice e)) (hinfo : (P.info? e).map (fun i => (i.zero, i.size, i.bytes)) = some (some z, sz, bytes))
    (hzs : z.cells.size = sz) (hsz : 0 < sz) (hc : ∀ x, (c x).size = sz) (h1 : ∀ x, ∀ u ∈ (c x).toList, u.oneCell' = true)
    (v : Value) (xs : List α) (hs : a.eval s = v) (hown : Own e sz c w base v xs) (hbase : base ≤ w.heap.size)
    (y : α) (b cp : Nat) (hb : Blk w b (c y)) (hx : a.eval x = .slice (some ⟨b, 0, none⟩) 1 cp)
    (h63 : xs.length + 1 ≤ maxLen) (hbytes : (xs.length + 1) * bytes ≤ 140737488355328)
    (hK : ∀ v' w', Own e sz c w' base v' (xs ++ [y]) → w.grownBy w' v.ownBlock → K (a.put o.dst v') w') :
    if Region.wanted o (yielded ops a.tmps) = true then Oper.wp P o a w K Q else E := by
  have hw : Region.wanted o (yielded ops a.tmps) = true := by simp [Region.wanted, hg]
  rw [if_pos hw]
  obtain ⟨i, hi, hzz⟩ := Option.map_eq_some_iff.1 hinfo
  simp only [Prod.mk.injEq] at hzz
  obtain ⟨hz0, hz1, hz2⟩ := hzz
  have hfl : flatC c [y] = (c y).toList := by simp [flatC]
  obtain ⟨v', w', hrun, r1, r2, _⟩ := run_append_own (P := P) w base t o.type e i z sz bytes ht hi hz0 hz1 hz2 hzs hsz v xs.length (flatC c xs) hown ⟨b, 0, none⟩ 1 cp (flatC c [y]) (by rw [hfl]; simp [hc])
    (by
      intro j u hj
      rw [hfl] at hj
      have ea : (⟨b, 0, none⟩ : Addr).add j = ⟨b, j, none⟩ := by unfold Addr.add; by_cases h : j = 0 <;> simp [h]
      rw [ea, hb.cells j]
      simpa using hj) (flatC_one h1 [y]) h63 hbytes hbase
  unfold Oper.wp
  simp [execOp, hop, resolve, invoke, builtin, hs, hx, hrun, Result.andThen]
  refine hK v' w' ?_ r2
  unfold Own
  rw [flatC_append, List.length_append]
  exact r1

theorem Own.free {α : Type} {e : TypeId} {sz : Nat} {c : α → Array Value} {w : World} {base b cap n : Nat} {xs : List α} (h : Own e sz c w base (.slice (Option.some ⟨b, 0, none⟩) n cap) xs) : base ≤ b ∧ b < w.heap.size ∧ ∀ k, w.frozen? ⟨b, k, none⟩ = false := by
  obtain ⟨_, ⟨e, _⟩ | ⟨b', cp, cur, e, hb, hh, _⟩⟩ := h
  · simp at e
  · simp only [Value.slice.injEq, Option.some.injEq, Addr.mk.injEq] at e
    obtain ⟨⟨rfl, -⟩, -, -⟩ := e
    have hlt : b < w.heap.size := by
      rcases Nat.lt_or_ge b w.heap.size with hlt | hge
      · exact hlt
      · rw [Array.getElem?_eq_none hge] at hh; cases hh
    exact ⟨hb, hlt, fun k => by simp [World.frozen?, hh]⟩
theorem Blk.grown {w w' : World} {b : Nat} {C : Array Value} {row : Option Nat} (h : Blk w b C) (hg : w.grownBy w' row) (hr : ∀ k, row = some k → k ≠ b) : Blk w' b C := by
  have e := hg.block b h.lt (fun e => hr b e.symm rfl)
  exact ⟨Nat.lt_of_lt_of_le h.lt hg.size, fun k => (World.cell?_of_block (w := w) e).trans (h.cells k), fun k => (World.frozen?_of_block (w := w) e).trans (h.frozens k)⟩

theorem putC_far {b c j : Nat} (h : b ≠ c) : ∀ (Ls : List Value) (w : World) (k : Nat), (putC w b k Ls).cell? ⟨c, j, none⟩ = w.cell? ⟨c, j, none⟩
  | [], _, _ => rfl
  | v :: r, w, k => (putC_far h r (w.setCell ⟨b, k, none⟩ v) (k + 1)).trans (setCell_other (.inl h) v)
theorem putC_ahead {b j : Nat} : ∀ (Ls : List Value) (w : World) (k : Nat), j < k → (putC w b k Ls).cell? ⟨b, j, none⟩ = w.cell? ⟨b, j, none⟩
  | [], _, _, _ => rfl
  | v :: r, w, k, h => (putC_ahead r (w.setCell ⟨b, k, none⟩ v) (k + 1) (by omega)).trans (setCell_other (.inr (by omega)) v)
theorem putC_at {b : Nat} : ∀ (Ls : List Value) (w : World) (k : Nat), (∀ i, i < Ls.length → ∃ u, w.cell? ⟨b, k + i, none⟩ = some u) → ∀ i, i < Ls.length → (putC w b k Ls).cell? ⟨b, k + i, none⟩ = Ls[i]?
  | [], _, _, _, i, hi => by simp at hi
  | v :: r, w, k, h, 0, _ => by
    obtain ⟨u, hu⟩ := h 0 (by simp)
    exact (putC_ahead r (w.setCell ⟨b, k, none⟩ v) (k + 1) (by omega)).trans (by simpa using setCell_same (u := u) (by simpa using hu) v)
  | v :: r, w, k, h, i + 1, hi => by
    have ih := putC_at r (w.setCell ⟨b, k, none⟩ v) (k + 1) (fun j hj => by
      obtain ⟨u, hu⟩ := h (j + 1) (by simp; omega)
      exact ⟨u, by rw [setCell_other (.inr (by omega)), show k + 1 + j = k + (j + 1) by omega]; exact hu⟩) i (by simpa using hi)
    rw [show k + 1 + i = k + (i + 1) by omega] at ih
    simpa [putC] using ih
theorem drew_cell (w : World) (a : Addr) : w.drew.cell? a = w.cell? a := rfl
theorem swap_cells {w : World} {b L : Nat} {A B : List Value} (hne : L < b) (hc : ∀ i, i < 9 → ∃ u, w.cell? ⟨b, i, none⟩ = some u) (hB : B.length = 9) :
    (putC (putC w b 9 A) b 0 B).drew.cell? ⟨L, 0, none⟩ = w.cell? ⟨L, 0, none⟩ ∧ ∀ i, i < 9 → (putC (putC w b 9 A) b 0 B).drew.cell? ⟨b, i, none⟩ = B[i]? := by
  refine ⟨?_, fun i hi => ?_⟩
  · rw [drew_cell, putC_far (by omega), putC_far (by omega)]
  · have := putC_at (b := b) B (putC w b 9 A) 0 (fun j hj => by
      obtain ⟨u, hu⟩ := hc j (by omega)
      exact ⟨u, by rw [putC_ahead _ _ _ (by omega), Nat.zero_add]; exact hu⟩) i (by omega)
    rw [Nat.zero_add] at this
    rw [drew_cell]
    exact this
theorem swap_far {w : World} {b L j : Nat} {A B : List Value} (hne : L < b) : (putC (putC w b 9 A) b 0 B).drew.cell? ⟨L, j, none⟩ = w.cell? ⟨L, j, none⟩ := by
  rw [drew_cell, putC_far (by omega), putC_far (by omega)]
theorem swap_keeps {W0 w : World} {b : Nat} (A B : List Value) (k : Keeps W0 w) (hb : W0.heap.size ≤ b) : Keeps W0 (putC (putC w b 9 A) b 0 B).drew :=
  (Keeps.putC (b := b) hb B 0 (Keeps.putC (b := b) hb A 9 k)).drew
end Go.Proofs.YthpdlbcdbncnhaaGreatDoor
namespace Go.Proofs.YthpdlbcdbncnhaaGreatDoor
open Go.RowKit

section
variable {P : Program} {ops : Array Oper} {Q : Exit → Act → World → Prop} {md : Region.Mode} {S : World → Prop} {L : Nat}
/-- Whatever comes up next: behind each but the operation L the world is as S says. -/
def wpLate (P : Program) (md : Region.Mode) (ops : Array Oper) (Q : Exit → Act → World → Prop) (S : World → Prop) (L : Nat) : Nat → Array Bool → Act → World → Prop
  | 0, listed, a, w => Region.ready md ops listed = [] ∧ Q .normal a w
  | n + 1, listed, a, w => (Region.ready md ops listed = [] → Q .normal a w) ∧ ∀ i ∈ Region.ready md ops listed, wpOp P ops Q i (fun a' w' => (i ≠ L → S w') ∧ wpLate P md ops Q S L n (listed.setIfInBounds i true) a' w') a w
theorem wpAny_of_late : ∀ (n : Nat) (listed : Array Bool) (a : Act) (w : World), wpLate P md ops Q S L n listed a w → wpAny P md ops Q n listed a w
  | 0, _, _, _, h => h
  | n + 1, _, _, _, h => ⟨h.1, fun i hi => wpOp_mono (fun a' w' h' => wpAny_of_late n _ a' w' h'.2) (h.2 i hi)⟩
/-- The operation L waits for i. -/
def waitsFor (md : Region.Mode) (ops : Array Oper) (L i : Nat) : Bool := match ops[L]? with
  | some o => o.after.any fun e => Region.binds md e && e.on == i
  | none => true
theorem not_ready {i : Nat} {listed : Array Bool} (h : waitsFor md ops L i = true) (hi : i ∈ Region.ready md ops listed) : L ∉ Region.ready md ops listed := by
  intro hL
  obtain ⟨_, o, ho, hall⟩ := mem_ready.1 hL
  unfold waitsFor at h
  rw [ho] at h
  obtain ⟨e, he, h2⟩ := Array.any_eq_true'.1 h
  simp only [Bool.and_eq_true, beq_iff_eq] at h2
  have h1 := hall e he h2.1
  have h0 := (mem_ready.1 hi).1
  rw [h2.2] at h1
  rcases Nat.lt_or_ge i listed.size with h' | h'
  · simp [h'] at h0 h1; rw [h0] at h1; cases h1
  · simp [Array.getElem?_eq_none h'] at h1
theorem late_first {i : Nat} {oi : Oper} {v : Value} (hi : ops[i]? = some oi) (hsel : ∀ (j : Nat) (o : Oper) cs b, ops[j]? = some o → o.op ≠ .select cs b) (hL : waitsFor md ops L i = true)
    (hQ : ∀ c a w, Q (.panic c) (a.put oi.dst v) w → Q (.panic c) a w) :
    ∀ (n : Nat) (listed : Array Bool) (a : Act) (w : World), (∀ j oj, ops[j]? = some oj → j ≠ i → listed.getD j true = false → (∀ e ∈ oj.after, Region.binds md e = true → e.on ≠ i) → oi.apart ops oj = true) →
      i ∈ Region.ready md ops listed → YieldsIf P ops S oi v a → S w → wpLate P md ops Q S L n (listed.setIfInBounds i true) (a.put oi.dst v) w → wpLate P md ops Q S L (n + 1) listed a w
  | 0, listed, a, w, _, hr, hy, hS, H => by
    refine ⟨fun h => (by rw [h] at hr; cases hr), fun j hj => ?_⟩
    by_cases hji : j = i
    · subst hji; exact hy.wpOp hi hS ⟨fun _ => hS, H⟩
    · have := ready_mono hj hji
      rw [H.1] at this
      cases this
  | n + 1, listed, a, w, hfree, hr, hy, hS, H => by
    refine ⟨fun h => (by rw [h] at hr; cases hr), fun j hj => ?_⟩
    by_cases hji : j = i
    · subst hji; exact hy.wpOp hi hS ⟨fun _ => hS, H⟩
    · have hjL : j ≠ L := fun e => not_ready hL hr (e ▸ hj)
      have h1 := H.2 j (ready_mono hj hji)
      obtain ⟨hjun, oj, hoj, hall⟩ := mem_ready.1 hj
      have hnot : ∀ e ∈ oj.after, Region.binds md e = true → e.on ≠ i := fun e he hb heq => by
        have h1 := hall e he hb
        have h0 := (mem_ready.1 hr).1
        rw [heq] at h1
        rcases Nat.lt_or_ge i listed.size with h' | h'
        · simp [h'] at h0 h1; rw [h0] at h1; cases h1
        · simp [Array.getElem?_eq_none h'] at h1
      have h2 := wpOp_putIf hoj (hfree j oj hoj hji hjun hnot) (fun cs b => hsel i oi cs b hi) (fun cs b => hsel j oj cs b hoj) hQ hy h1
      have hfree' : ∀ k ok, ops[k]? = some ok → k ≠ i → (listed.setIfInBounds j true).getD k true = false → (∀ e ∈ ok.after, Region.binds md e = true → e.on ≠ i) → oi.apart ops ok = true := fun k ok hk hki hun hno => by
        refine hfree k ok hk hki ?_ hno
        by_cases hjk : j = k
        · subst hjk; exact hjun
        · rw [getD_set_ne true hjk] at hun; exact hun
      refine wpOp_mono (fun a' w' h3 => ⟨h3.2.1, late_first hi hsel hL hQ n (listed.setIfInBounds j true) a' w' hfree' (ready_mono hr (Ne.symm hji)) h3.1 (h3.2.1 hjL) ?_⟩) h2
      rw [Array.setIfInBounds_comm _ _ hji]
      exact h3.2.2
/-- Number i is taken first. -/
theorem late_take {i : Nat} {oi : Oper} {v : Value} {n : Nat} {listed : Array Bool} {a : Act} {w : World} (hi : ops[i]? = some oi)
    (hs : Region.noSelect ops = true) (hf : Region.free md ops listed i = true) (hr : (Region.ready md ops listed).contains i = true) (hL : waitsFor md ops L i = true)
    (hQ : ∀ c a w, Q (.panic c) (a.put oi.dst v) w → Q (.panic c) a w) (hy : YieldsIf P ops S oi v a) (hS : S w)
    (h : wpLate P md ops Q S L n (listed.setIfInBounds i true) (a.put oi.dst v) w) : wpLate P md ops Q S L (n + 1) listed a w :=
  late_first hi (Region.noSelect_spec hs) hL hQ n listed a w (Region.free_spec hi hf) (by simpa using hr) hy hS h
/-- Number i, not the last one, is all that is ready. -/
theorem late_step {i : Nat} {o : Oper} {n : Nat} {listed : Array Bool} {a : Act} {w : World} (hr : Region.ready md ops listed = [i]) (ho : ops[i]? = some o)
    (h : ∀ K' : Act → World → Prop, Shut (∀ a w, S w → (S w → wpLate P md ops Q S L n (listed.setIfInBounds i true) a w) → K' a w) → if Region.wanted o (yielded ops a.tmps) = true then Oper.wp P o a w K' Q else K' (a.put o.dst undef) w) : wpLate P md ops Q S L (n + 1) listed a w := by
  refine ⟨fun e => absurd (hr ▸ e) (by simp), fun j hj => ?_⟩
  rw [hr] at hj
  obtain rfl : j = i := by simpa using hj
  exact wpOp_step ho (fun K' hK => h K' (fun a w hS hW => hK a w ⟨fun _ => hS, hW hS⟩))
/-- The last one, and all is done. -/
theorem late_last {o : Oper} {n : Nat} {listed : Array Bool} {a : Act} {w : World} (hr : Region.ready md ops listed = [L]) (ho : ops[L]? = some o) (hd : Region.ready md ops (listed.setIfInBounds L true) = [])
    (h : ∀ K' : Act → World → Prop, Shut (∀ a w, Q .normal a w → K' a w) → if Region.wanted o (yielded ops a.tmps) = true then Oper.wp P o a w K' Q else K' (a.put o.dst undef) w) : wpLate P md ops Q S L (n + 1) listed a w := by
  refine ⟨fun e => absurd (hr ▸ e) (by simp), fun j hj => ?_⟩
  rw [hr] at hj
  obtain rfl : j = L := by simpa using hj
  refine wpOp_step ho (fun K' hK => h K' (fun a w hW => hK a w ⟨fun e => absurd rfl e, ?_⟩))
  cases n with
  | zero => exact ⟨hd, hW⟩
  | succ n => exact ⟨fun _ => hW, by rw [hd]; simp⟩
theorem wp_region_late (L : Nat) {id : Nat} {a : Act} {w : World} (hm : P.follows .mixedOrders = true) (hS : S w.drew)
    (h : S w.drew → wpLate P .any ops Q S L ops.size (Array.replicate ops.size false) a w.drew) : (Code.region id ops true).wp P Q a w :=
  wp_region_any hm (wpAny_of_late _ _ _ _ (h hS))
end
end Go.Proofs.YthpdlbcdbncnhaaGreatDoor
namespace Go.Proofs.YthpdlbcdbncnhaaGreatDoor
theorem own : ownKnob Tryz.prog.godebug = none := by kernel_rfl
theorem laidOut : laidOutB Tryz.prog = true := by kernel_rfl
end Go.Proofs.YthpdlbcdbncnhaaGreatDoor
namespace Go.Proofs.YthpdlbcdbncnhaaGreatDoor
open Go.RowKit

/-- What lies at a key. -/
def lookM : List (Int × Int) → Int → Option Int
  | [], _ => none
  | p :: r, k => if p.1 == k then some p.2 else lookM r k
def hasM (es : List (Int × Int)) (k : Int) : Bool := (lookM es k).isSome
def valM (es : List (Int × Int)) (k : Int) : Int := (lookM es k).getD 0
def delM (es : List (Int × Int)) (k : Int) : List (Int × Int) := es.eraseP fun p => p.1 == k
theorem lookM_append (es fs : List (Int × Int)) (k : Int) : lookM (es ++ fs) k = (lookM es k).or (lookM fs k) := by
  induction es with
  | nil => rfl
  | cons p r ih =>
    simp only [List.cons_append, lookM, ih]
    split <;> rfl
theorem lookM_one (a b k : Int) : lookM [(a, b)] k = if a == k then some b else none := rfl
/-- No key stands twice. -/
def Once (es : List (Int × Int)) : Prop := (es.map Prod.fst).Nodup
theorem lookM_none {es : List (Int × Int)} {k : Int} : lookM es k = none ↔ k ∉ es.map Prod.fst := by
  induction es with
  | nil => simp [lookM]
  | cons p r ih =>
    simp only [lookM, List.map_cons, List.mem_cons, not_or]
    by_cases e : p.1 = k
    · subst e; simp
    · rw [if_neg (by simpa using e), ih]
      exact ⟨fun h => ⟨fun e' => e e'.symm, h⟩, fun h => h.2⟩
theorem lookM_del {es : List (Int × Int)} (h : Once es) (k x : Int) : lookM (delM es k) x = if k == x then none else lookM es x := by
  induction es with
  | nil => simp [delM, lookM]
  | cons p r ih =>
    have h2 : Once r := (List.nodup_cons.1 h).2
    have h1 : p.1 ∉ r.map Prod.fst := (List.nodup_cons.1 h).1
    have ih := ih h2
    unfold delM at ih ⊢
    by_cases e : p.1 = k
    · rw [List.eraseP_cons_of_pos (by simpa using e)]
      by_cases e2 : k = x
      · rw [if_pos (by simpa using e2), ← e2, ← e]; exact lookM_none.2 h1
      · rw [if_neg (by simpa using e2)]
        simp only [lookM]
        rw [if_neg (by rw [e]; simpa using e2)]
    · rw [List.eraseP_cons_of_neg (by simpa using e)]
      simp only [lookM, ih]
      by_cases e2 : k = x
      · have c1 : (k == x) = true := by simpa using e2
        have c2 : (p.1 == x) = false := by rw [← e2]; simpa using e
        simp [c1, c2]
      · have c1 : (k == x) = false := by simpa using e2
        simp [c1]

/-- Block b is a map with these entries. -/
def MapI (w : World) (b : Nat) (es : List (Int × Int)) : Prop :=
  ∃ (xs : Array MapEntry) (clock : Nat), w.heap[b]? = some (.map xs clock) ∧ xs.toList.map (fun e => (e.key, e.val)) = es.map fun p => ((.int .i64 p.1, .int .i64 p.2) : Value × Value)
theorem MapI.made (w : World) : MapI (w.alloc (.map #[] 0)) w.heap.size [] := ⟨#[], 0, (MapKept.heap_alloc w _).1, rfl⟩
theorem MapI.lt {w : World} {b : Nat} {es : List (Int × Int)} (h : MapI w b es) : b < w.heap.size := by
  obtain ⟨xs, c, hb, _⟩ := h
  exact (Array.getElem?_eq_some_iff.1 hb).1
theorem MapI.same {w w' : World} {b : Nat} {es : List (Int × Int)} (h : MapI w b es) (k : w'.heap[b]? = w.heap[b]?) : MapI w' b es := by
  obtain ⟨xs, c, hb, r⟩ := h
  exact ⟨xs, c, k.trans hb, r⟩
theorem MapI.keeps {w w' : World} {b : Nat} {es : List (Int × Int)} (h : MapI w b es) (k : Keeps w w') : MapI w' b es := h.same (Below.block k b h.lt)

theorem find_ents (k : Int) : ∀ (xs : List MapEntry) (es : List (Int × Int)) (i : Nat), xs.map (fun e => (e.key, e.val)) = es.map (fun p => ((.int .i64 p.1, .int .i64 p.2) : Value × Value)) →
    (lookM es k = none ∧ Instr.findNow (.int .i64) (.int .i64 k) xs i = some none) ∨
    ∃ (j : Nat) (v : Int), lookM es k = some v ∧ Instr.findNow (.int .i64) (.int .i64 k) xs i = some (some (i + j, .int .i64 v)) ∧ es.eraseIdx j = delM es k
  | [], [], _, _ => .inl ⟨rfl, rfl⟩
  | [], p :: r, _, h => by simp at h
  | e :: xs, [], _, h => by simp at h
  | e :: xs, p :: r, i, h => by
    simp only [List.map_cons, List.cons.injEq, Prod.mk.injEq] at h
    obtain ⟨⟨h1, h2⟩, h3⟩ := h
    have hs : Instr.sameNow (.int .i64) (.int .i64 k) e.key = some (k == p.1) := by rw [h1]; simp [Instr.sameNow]
    by_cases c : p.1 = k
    · refine .inr ⟨0, p.2, by simp [lookM, c], ?_, ?_⟩
      · simp only [Instr.findNow, hs, c, h2]; simp
      · unfold delM; rw [List.eraseP_cons_of_pos (by simpa using c)]; rfl
    · have c1 : (k == p.1) = false := by simpa using fun e => c e.symm
      have c2 : (p.1 == k) = false := by simpa using c
      rcases find_ents k xs r (i + 1) h3 with ⟨g1, g2⟩ | ⟨j, v, g1, g2, g3⟩
      · exact .inl ⟨by simp [lookM, c2, g1], by simp [Instr.findNow, hs, c1, g2]⟩
      · refine .inr ⟨j + 1, v, by simp [lookM, c2, g1], ?_, ?_⟩
        · simp only [Instr.findNow, hs, c1, g2]; simp; omega
        · unfold delM at g3 ⊢; rw [List.eraseP_cons_of_neg (by simpa using c), ← g3]; rfl

section
variable {P : Program} {w : World} {b : Nat} {es : List (Int × Int)} {t k e : TypeId}
theorem MapI.look (h : MapI w b es) (ht : P.underlying t = some (.map k e)) (hk : P.underlying k = some (.int .i64)) (hz : (zeroValue e).run P w = .ok (.int .i64 0) w) (x : Int) :
    (Instr.lookup t (.map (some b)) (.int .i64 x) true).run P w = .ok (.tuple #[.int .i64 (valM es x), .bool (hasM es x)]) w := by
  obtain ⟨xs, clock, hb, r⟩ := h
  have ck : ∀ em, (Instr.checkKey em 10000 k (.int .i64 x)).run P w = .ok () w := fun em => MapKept.run_checkKey hk (by simp [MapKept.IsKey]) em 9999
  rcases find_ents x xs.toList es 0 r with ⟨g1, g2⟩ | ⟨j, v, g1, g2, -⟩
  · simp [Instr.lookup, run_underlying ht, MapKept.run_getObj_map hb, ck, MapKept.run_findKey hk g2, hz, Result.andThen, valM, hasM, g1]
  · simp [Instr.lookup, run_underlying ht, MapKept.run_getObj_map hb, ck, MapKept.run_findKey hk g2, Result.andThen, valM, hasM, g1]
theorem MapI.len (h : MapI w b es) (ht : P.underlying t = some (.map k e)) (ty : TypeId) : (Builtin.len_ #[t] ty #[.map (some b)]).run P w = .ok (.int .i64 es.length) w := by
  obtain ⟨xs, clock, hb, r⟩ := h
  have : xs.size = es.length := by have := congrArg List.length r; simpa using this
  rw [← this]
  simp [Builtin.len_, run_underlying ht, MapKept.run_getObj_map hb, goInt, Result.andThen]
theorem grown_set {o o' : Obj} (hb : w.heap[b]? = some o) : w.grownBy { w with heap := w.heap.setIfInBounds b o' } (some b) :=
  ⟨rfl, rfl, rfl, by simp, fun i _ hi => (MapKept.heap_set hb).2 i (fun e => hi (by rw [e]))⟩
/-- A new key is stored. -/
theorem MapI.put (h : MapI w b es) (ht : P.underlying t = some (.map k e)) (hk : P.underlying k = some (.int .i64)) {x : Int} (y : Int) (hx : lookM es x = none) :
    ∃ w', (Instr.mapUpdate t (.map (some b)) (.int .i64 x) (.int .i64 y)).run P w = .ok () w' ∧ MapI w' b (es ++ [(x, y)]) ∧ w.grownBy w' (some b) := by
  obtain ⟨xs, clock, hb, r⟩ := h
  have ck : ∀ em, (Instr.checkKey em 10000 k (.int .i64 x)).run P w = .ok () w := fun em => MapKept.run_checkKey hk (by simp [MapKept.IsKey]) em 9999
  rcases find_ents x xs.toList es 0 r with ⟨g1, g2⟩ | ⟨j, v, g1, -, -⟩
  · refine ⟨{ w with heap := w.heap.setIfInBounds b (.map (xs.push ⟨.int .i64 x, .int .i64 y, clock⟩) (clock + 1)) }, ?_, ⟨_, _, (MapKept.heap_set hb).1, by simp [r]⟩, grown_set hb⟩
    simp [Instr.mapUpdate, run_underlying ht, MapKept.run_getObj_map hb, ck, MapKept.run_findKey hk g2, MapKept.run_setObj_map _ hb, Result.andThen]
  · rw [hx] at g1; cases g1
theorem MapI.del (h : MapI w b es) (ht : P.underlying t = some (.map k e)) (hk : P.underlying k = some (.int .i64)) (x : Int) (ty : TypeId) :
    ∃ w', (Builtin.delete_ #[t, k] ty #[.map (some b), .int .i64 x]).run P w = .ok (.tuple #[]) w' ∧ MapI w' b (delM es x) ∧ w.grownBy w' (some b) := by
  obtain ⟨xs, clock, hb, r⟩ := h
  have ck : ∀ em, (Instr.checkKey em 10000 k (.int .i64 x)).run P w = .ok () w := fun em => MapKept.run_checkKey hk (by simp [MapKept.IsKey]) em 9999
  rcases find_ents x xs.toList es 0 r with ⟨g1, g2⟩ | ⟨j, v, g1, g2, g3⟩
  · have e0 : delM es x = es := by
      unfold delM
      refine List.eraseP_of_forall_not fun p hp => ?_
      intro hpx
      exact lookM_none.1 g1 (List.mem_map.2 ⟨p, hp, by simpa using hpx⟩)
    refine ⟨{ w with heap := w.heap.setIfInBounds b (.map xs clock) }, ?_, ⟨xs, clock, (MapKept.heap_set hb).1, by rw [e0]; exact r⟩, grown_set hb⟩
    simp [Builtin.delete_, run_underlying ht, MapKept.run_getObj_map hb, ck, MapKept.run_findKey hk g2, MapKept.run_setObj_map _ hb, Result.andThen]
  · rw [Nat.zero_add] at g2
    have hsub : (xs.eraseIdxIfInBounds j).toList = xs.toList.eraseIdx j := by
      unfold Array.eraseIdxIfInBounds
      split
      · simp
      · rename_i hn; rw [List.eraseIdx_of_length_le (by simpa using hn)]
    refine ⟨{ w with heap := w.heap.setIfInBounds b (.map (xs.eraseIdxIfInBounds j) clock) }, ?_, ⟨_, clock, (MapKept.heap_set hb).1, ?_⟩, grown_set hb⟩
    · simp [Builtin.delete_, run_underlying ht, MapKept.run_getObj_map hb, ck, MapKept.run_findKey hk g2, MapKept.run_setObj_map _ hb, Result.andThen]
    · rw [hsub, ← g3, ChangeMaps.map_eraseIdx, ChangeMaps.map_eraseIdx, r]
end

section
variable {P : Program} {w : World} {ops : Array Oper} {rest : List Oper} {o : Oper} {a : Act} {Q : Exit → Act → World → Prop}
theorem wpList_lookI (hg : o.guard = none) (m x : Operand) (t : TypeId) (hop : o.op = Op.lookup t m x true) (k e : TypeId) (ht : P.underlying t = some (.map k e)) (hk : P.underlying k = some (.int .i64))
    (hz : (zeroValue e).run P w = .ok (.int .i64 0) w) (b : Nat) (es : List (Int × Int)) (hm : a.eval m = .map (some b)) (h : MapI w b es) (z : Int) (hx : a.eval x = .int .i64 z) (v : Int) (ok : Bool) (hv : valM es z = v) (hok : hasM es z = ok)
    (hK : wpList P ops Q rest (a.put o.dst (.tuple #[.int .i64 v, .bool ok])) w) : wpList P ops Q (o :: rest) a w := by
  refine wpList_plain hg fun K' hK' => ?_
  have hrun := h.look ht hk hz z
  rw [hv, hok] at hrun
  unfold Oper.wp
  simp [execOp, hop, hm, hx, hrun, Result.andThen]
  exact hK' _ _ hK
theorem wpList_putI (hg : o.guard = none) (m x y : Operand) (t : TypeId) (hop : o.op = Op.mapUpdate t m x y) (k e : TypeId) (ht : P.underlying t = some (.map k e)) (hk : P.underlying k = some (.int .i64))
    (b : Nat) (es : List (Int × Int)) (hm : a.eval m = .map (some b)) (h : MapI w b es) (z v : Int) (hx : a.eval x = .int .i64 z) (hy : a.eval y = .int .i64 v) (hn : lookM es z = none)
    (hK : ∀ w', MapI w' b (es ++ [(z, v)]) → w.grownBy w' (some b) → wpList P ops Q rest (a.put o.dst undef) w') : wpList P ops Q (o :: rest) a w := by
  refine wpList_plain hg fun K' hK' => ?_
  obtain ⟨w', hrun, r1, r2⟩ := h.put ht hk v hn
  unfold Oper.wp
  simp [execOp, hop, hm, hx, hy, hrun, Result.andThen]
  exact hK' _ _ (hK w' r1 r2)
theorem wpList_delI (hg : o.guard = none) (m x : Operand) (t k : TypeId) (hop : o.op = Op.call { callee := Callee.builtin Builtin.delete, args := #[m, x], argTypes := #[t, k] }) (e : TypeId) (ht : P.underlying t = some (.map k e)) (hk : P.underlying k = some (.int .i64))
    (b : Nat) (es : List (Int × Int)) (hm : a.eval m = .map (some b)) (h : MapI w b es) (z : Int) (hx : a.eval x = .int .i64 z)
    (hK : ∀ w', MapI w' b (delM es z) → w.grownBy w' (some b) → wpList P ops Q rest (a.put o.dst (.tuple #[])) w') : wpList P ops Q (o :: rest) a w := by
  refine wpList_plain hg fun K' hK' => ?_
  obtain ⟨w', hrun, r1, r2⟩ := h.del ht hk z o.type
  unfold Oper.wp
  simp [execOp, hop, resolve, invoke, builtin, hm, hx, hrun, Result.andThen]
  exact hK' _ _ (hK w' r1 r2)
theorem wpList_lenI (hg : o.guard = none) (m : Operand) (t : TypeId) (hop : o.op = Op.call { callee := Callee.builtin Builtin.len, args := #[m], argTypes := #[t] }) (k e : TypeId) (ht : P.underlying t = some (.map k e))
    (b : Nat) (es : List (Int × Int)) (hm : a.eval m = .map (some b)) (h : MapI w b es) (n : Nat) (hn : es.length = n)
    (hK : wpList P ops Q rest (a.put o.dst (.int .i64 n)) w) : wpList P ops Q (o :: rest) a w := by
  refine wpList_plain hg fun K' hK' => ?_
  have hrun := h.len ht o.type
  rw [hn] at hrun
  unfold Oper.wp
  simp [execOp, hop, resolve, invoke, builtin, hm, hrun, Result.andThen]
  exact hK' _ _ hK
end
end Go.Proofs.YthpdlbcdbncnhaaGreatDoor
namespace Go.Proofs.YthpdlbcdbncnhaaGreatDoor

theorem join32 {b1 b2 b3 b4 b5 b6 b7 b8 b9 b10 b11 b12 b13 b14 b15 b16 b17 b18 b19 b20 b21 b22 b23 b24 b25 b26 b27 b28 b29 b30 b31 b32 : Bool} (h1 : b1 = true) (h2 : b2 = true) (h3 : b3 = true) (h4 : b4 = true) (h5 : b5 = true) (h6 : b6 = true) (h7 : b7 = true) (h8 : b8 = true) (h9 : b9 = true) (h10 : b10 = true) (h11 : b11 = true) (h12 : b12 = true) (h13 : b13 = true) (h14 : b14 = true) (h15 : b15 = true) (h16 : b16 = true) (h17 : b17 = true) (h18 : b18 = true) (h19 : b19 = true) (h20 : b20 = true) (h21 : b21 = true) (h22 : b22 = true) (h23 : b23 = true) (h24 : b24 = true) (h25 : b25 = true) (h26 : b26 = true) (h27 : b27 = true) (h28 : b28 = true) (h29 : b29 = true) (h30 : b30 = true) (h31 : b31 = true) (h32 : b32 = true) : (b1 && b2 && b3 && b4 && b5 && b6 && b7 && b8 && b9 && b10 && b11 && b12 && b13 && b14 && b15 && b16 && b17 && b18 && b19 && b20 && b21 && b22 && b23 && b24 && b25 && b26 && b27 && b28 && b29 && b30 && b31 && b32) = true := by
  subst_vars
  rfl
/-- The head's signs. -/
def headSigns : List Char := [Char.ofNat 104, Char.ofNat 97, Char.ofNat 114, Char.ofNat 110, Char.ofNat 101, Char.ofNat 115, Char.ofNat 115, Char.ofNat 32, Char.ofNat 57, Char.ofNat 54, Char.ofNat 102, Char.ofNat 102, Char.ofNat 51, Char.ofNat 57, Char.ofNat 51, Char.ofNat 51, Char.ofNat 51, Char.ofNat 98, Char.ofNat 51, Char.ofNat 54, Char.ofNat 54, Char.ofNat 99, Char.ofNat 50, Char.ofNat 99, Char.ofNat 48, Char.ofNat 101, Char.ofNat 55, Char.ofNat 52, Char.ofNat 101, Char.ofNat 100, Char.ofNat 97, Char.ofNat 53, Char.ofNat 98, Char.ofNat 98, Char.ofNat 54, Char.ofNat 49, Char.ofNat 50, Char.ofNat 99, Char.ofNat 97, Char.ofNat 52, Char.ofNat 100, Char.ofNat 97, Char.ofNat 55, Char.ofNat 52, Char.ofNat 53, Char.ofNat 53, Char.ofNat 52, Char.ofNat 97, Char.ofNat 53, Char.ofNat 48, Char.ofNat 53, Char.ofNat 55, Char.ofNat 101, Char.ofNat 53, Char.ofNat 52, Char.ofNat 49, Char.ofNat 54, Char.ofNat 53, Char.ofNat 49, Char.ofNat 99, Char.ofNat 49, Char.ofNat 51, Char.ofNat 56, Char.ofNat 54, Char.ofNat 101, Char.ofNat 97, Char.ofNat 49, Char.ofNat 99, Char.ofNat 54, Char.ofNat 97, Char.ofNat 50, Char.ofNat 98, Char.ofNat 32, Char.ofNat 99, Char.ofNat 117, Char.ofNat 116, Char.ofNat 32, Char.ofNat 97, Char.ofNat 116, Char.ofNat 32, Char.ofNat 108, Char.ofNat 111, Char.ofNat 111, Char.ofNat 112, Char.ofNat 46, Char.ofNat 101, Char.ofNat 120, Char.ofNat 97, Char.ofNat 109, Char.ofNat 112, Char.ofNat 108, Char.ofNat 101, Char.ofNat 47, Char.ofNat 103, Char.ofNat 48, Char.ofNat 48, Char.ofNat 49, Char.ofNat 56, Char.ofNat 53, Char.ofNat 47, Char.ofNat 108, Char.ofNat 97, Char.ofNat 119, Char.ofNat 115, Char.ofNat 46, Char.ofNat 70, Char.ofNat 110, Char.ofNat 69, Char.ofNat 120, Char.ofNat 97, Char.ofNat 99, Char.ofNat 116, Char.ofNat 83, Char.ofNat 104, Char.ofNat 111, Char.ofNat 114, Char.ofNat 116, Char.ofNat 79, Char.ofNat 102, Char.ofNat 32, Char.ofNat 108, Char.ofNat 111, Char.ofNat 111, Char.ofNat 112, Char.ofNat 46, Char.ofNat 101, Char.ofNat 120, Char.ofNat 97, Char.ofNat 109, Char.ofNat 112, Char.ofNat 108, Char.ofNat 101, Char.ofNat 47, Char.ofNat 103, Char.ofNat 48, Char.ofNat 48, Char.ofNat 49, Char.ofNat 56, Char.ofNat 53, Char.ofNat 47, Char.ofNat 108, Char.ofNat 97, Char.ofNat 119, Char.ofNat 115, Char.ofNat 46, Char.ofNat 70, Char.ofNat 110, Char.ofNat 69, Char.ofNat 120, Char.ofNat 97, Char.ofNat 99, Char.ofNat 116, Char.ofNat 83, Char.ofNat 112, Char.ofNat 114, Char.ofNat 101, Char.ofNat 97, Char.ofNat 100, Char.ofNat 79, Char.ofNat 110, Char.ofNat 32, Char.ofNat 108, Char.ofNat 111, Char.ofNat 111, Char.ofNat 112, Char.ofNat 46, Char.ofNat 101, Char.ofNat 120, Char.ofNat 97, Char.ofNat 109, Char.ofNat 112, Char.ofNat 108, Char.ofNat 101, Char.ofNat 47, Char.ofNat 103, Char.ofNat 48, Char.ofNat 48, Char.ofNat 49, Char.ofNat 56, Char.ofNat 53, Char.ofNat 47, Char.ofNat 108, Char.ofNat 97, Char.ofNat 119, Char.ofNat 115, Char.ofNat 46, Char.ofNat 70, Char.ofNat 110, Char.ofNat 83, Char.ofNat 104, Char.ofNat 111, Char.ofNat 114, Char.ofNat 116, Char.ofNat 32, Char.ofNat 108, Char.ofNat 111, Char.ofNat 111, Char.ofNat 112, Char.ofNat 46, Char.ofNat 101, Char.ofNat 120, Char.ofNat 97, Char.ofNat 109, Char.ofNat 112, Char.ofNat 108, Char.ofNat 101, Char.ofNat 47, Char.ofNat 103, Char.ofNat 48, Char.ofNat 48, Char.ofNat 49, Char.ofNat 56, Char.ofNat 53, Char.ofNat 47, Char.ofNat 108, Char.ofNat 97, Char.ofNat 119, Char.ofNat 115, Char.ofNat 46, Char.ofNat 70, Char.ofNat 110, Char.ofNat 74, Char.ofNat 117, Char.ofNat 100, Char.ofNat 103, Char.ofNat 101, Char.ofNat 115]
set_option maxRecDepth 100000 in
theorem head_is : Tryz.pinned.checked.prog.initOrder.toList = headSigns := by
  have h : Tryz.pinned.checked.prog.initOrder = String.ofList headSigns := String.toByteArray_inj.1 (by kernel_rfl)
  rw [h, String.toList_ofList]
set_option maxRecDepth 100000 in
theorem lifts_of (P : Program) (h : P.initOrder.toList = headSigns) : P.liftsFinal = false := by
  unfold Program.liftsFinal Program.headLifts
  rw [h]
  kernel_rfl
set_option maxRecDepth 100000 in
theorem lifts_final : Tryz.pinned.checked.prog.liftsFinal = false := lifts_of _ head_is
set_option maxRecDepth 100000 in
theorem make_of (P : Program) (h : P.initOrder.toList = headSigns) : P.make = some .cut := by
  unfold Program.make
  rw [h]
  kernel_rfl
set_option maxRecDepth 100000 in
theorem make_is : Tryz.pinned.checked.prog.make = some .cut := make_of _ head_is
set_option maxRecDepth 100000 in
theorem strip_is : stripLifts liftWords (behindMainWord (wordsSigns headSigns)) = ([], behindMainWord (wordsSigns headSigns)) := by kernel_rfl
set_option maxRecDepth 100000 in
theorem enter_of (P : Program) (h : P.initOrder.toList = headSigns) (h1 : P.laysLater = false) (h2 : P.bearsReflect = false) (h3 : P.doorFits [] = true) : P.mayEnter = true := by
  have hh : ((behindMainWord (wordsSigns headSigns)).head? == some "cut".toList) = true := by kernel_rfl
  have hs := strip_is
  unfold Program.mayEnter
  rw [h]
  generalize behindMainWord (wordsSigns headSigns) = L at hh hs ⊢
  cases L with
  | nil => cases hh
  | cons c rest =>
    simp only [hs, hh, h1, h2, h3]
    simp
set_option maxRecDepth 100000 in
theorem lays_later : Tryz.pinned.checked.prog.laysLater = false := by kernel_rfl
set_option maxRecDepth 100000 in
theorem bears_reflect : Tryz.pinned.checked.prog.bearsReflect = false := by kernel_rfl
set_option maxRecDepth 100000 in
theorem door_fits : Tryz.pinned.checked.prog.doorFits [] = true := by kernel_rfl
set_option maxRecDepth 100000 in
theorem may_enter : Tryz.pinned.checked.prog.mayEnter = true := enter_of _ head_is lays_later bears_reflect door_fits
end Go.Proofs.YthpdlbcdbncnhaaGreatDoor
namespace Go.Proofs.YthpdlbcdbncnhaaGreatDoor
open Go.RowKit

/-- By a goto: on from its label, with one jump less to go; by any other way out: Q. -/
def goes (P : Program) (c : Code) (Q : Exit → Act → World → Prop) : Nat → Exit → Act → World → Prop
  | 0, .goto _, _, _ => False
  | n + 1, .goto l, a, w => ∃ rest, findLabel c l = some rest ∧ rest.wp P (goes P c Q n) a w
  | _, .normal, a, w => Q .normal a w
  | _, .exit id, a, w => Q (.exit id) a w
  | _, .ret, a, w => Q .ret a w
  | _, .panic ch, a, w => Q (.panic ch) a w
  | _, .outgrown, a, w => Q .outgrown a w
section
variable {P : Program} {c : Code} {Q : Exit → Act → World → Prop} {a : Act} {w : World} {n : Nat}
theorem goes_goto (l : Nat) : goes P c Q (n + 1) (.goto l) a w = ∃ rest, findLabel c l = some rest ∧ rest.wp P (goes P c Q n) a w := rfl
theorem goes_normal : goes P c Q n .normal a w = Q .normal a w := by cases n <;> rfl
theorem goes_ret : goes P c Q n .ret a w = Q .ret a w := by cases n <;> rfl
theorem goes_panic (ch : List PanicEntry) : goes P c Q n (.panic ch) a w = Q (.panic ch) a w := by cases n <;> rfl
theorem goes_exit (id : Nat) : goes P c Q n (.exit id) a w = Q (.exit id) a w := by cases n <;> rfl
theorem goes_outgrown : goes P c Q n .outgrown a w = Q .outgrown a w := by cases n <;> rfl

theorem wp_scope_goes (n : Nat) (h : c.wp P (goes P c Q n) a w) : (Code.scope c).wp P Q a w := by
  intro b k cs
  have key : ∀ n (d : Code) a w, d.wp P (goes P c Q n) a w → ∃ e a' w', Q e a' w' ∧ Arrives P (lone (b.at a (.code d :: .inScope c :: k)) cs w) b k cs e a' w' := by
    intro n
    induction n with
    | zero =>
      intro d a w h
      obtain ⟨e, a₁, w₁, hq, harr⟩ := h b (.inScope c :: k) cs
      cases e with
      | normal => exact ⟨.normal, a₁, w₁, hq, Steps.trans harr (.one step_inScope)⟩
      | exit id => exact ⟨.exit id, a₁, w₁, hq, fun k' hk => harr k' (by simp [exitTo, hk])⟩
      | goto l' => exact hq.elim
      | ret => exact ⟨_, a₁, w₁, hq, harr⟩
      | panic ch => exact ⟨_, a₁, w₁, hq, harr⟩
      | outgrown => exact ⟨_, a₁, w₁, hq, harr⟩
    | succ n ih =>
      intro d a w h
      obtain ⟨e, a₁, w₁, hq, harr⟩ := h b (.inScope c :: k) cs
      cases e with
      | normal => exact ⟨.normal, a₁, w₁, hq, Steps.trans harr (.one step_inScope)⟩
      | exit id => exact ⟨.exit id, a₁, w₁, hq, fun k' hk => harr k' (by simp [exitTo, hk])⟩
      | goto l' =>
        obtain ⟨rest, hf, hr⟩ := hq
        have hg : gotoIn l' (.inScope c :: k) = some (.code rest :: .inScope c :: k) := by simp [gotoIn, hf]
        obtain ⟨e₂, a₂, w₂, hq₂, harr₂⟩ := ih rest a₁ w₁ hr
        exact ⟨e₂, a₂, w₂, hq₂, .of_steps (harr _ hg) harr₂⟩
      | ret => exact ⟨_, a₁, w₁, hq, harr⟩
      | panic ch => exact ⟨_, a₁, w₁, hq, harr⟩
      | outgrown => exact ⟨_, a₁, w₁, hq, harr⟩
  obtain ⟨e, a₁, w₁, hq, harr⟩ := key n c a w h
  exact ⟨e, a₁, w₁, hq, .of_steps (.one step_scope) harr⟩
/-- A jump, inside of what else. -/
theorem wp_goto_goes {l : Nat} {K : Act → World → Prop} {rest : Code} (hf : findLabel c l = some rest) (h : rest.wp P (goes P c Q n) a w) : (Code.goto l).wp P (Exit.then K (goes P c Q (n + 1))) a w := wp_goto ⟨rest, hf, h⟩
theorem then_goes_ret {K : Act → World → Prop} (h : Q .ret a w) : Exit.then K (goes P c Q n) .ret a w := by
  show goes P c Q n .ret a w
  rw [goes_ret]; exact h
end
end Go.Proofs.YthpdlbcdbncnhaaGreatDoor
namespace Go.Proofs.YthpdlbcdbncnhaaGreatDoor
open Go.ChangeShapes Go.WideShapes Go.ChangeAt Go.RowKit

theorem open_bytes {H : Type} {enc : TypeId × Value → H} {W : World} {a : Option Addr} {len cap : Nat} {d : DataW H} {p : List MemPlace}
    (h : DataW.Trod enc Tryz.prog W 0 (fun _ => true) true 42 (.slice a len cap) d p) : len ≤ maxLen ∧ ∀ g, W.heap.size ≤ g → Bytes g W a len := by
  obtain ⟨fuel, hf⟩ := h
  rcases open_ints Tryz.underlying42 Tryz.underlying5 (by kernel_rfl) hf with ⟨hcs, _⟩ | ⟨x, l, c, zs, hcs, _, hl, hm, hz, _, hcell, hwz⟩
  · simp [Value.cells] at hcs
    obtain ⟨rfl, rfl, rfl⟩ := hcs
    exact ⟨by simp, fun g _ => .inl rfl⟩
  · simp [Value.cells] at hcs
    obtain ⟨rfl, rfl, rfl⟩ := hcs
    have hz' : zs.length = cap := by simpa using hz
    refine ⟨by omega, fun g hg => ?_⟩
    by_cases h0 : len = 0
    · exact .inl h0
    obtain ⟨b, off, spot⟩ := x
    have hs : spot = none := by
      have := World.cell?_spot (hcell 0 (by omega))
      simpa [Addr.add] using this
    subst hs
    have hb : b < W.heap.size := by
      have := World.block_lt_of_cell? W _ (hcell 0 (by omega))
      simpa [Addr.add] using this
    refine .inr ⟨b, off, rfl, by omega, fun j hj => ?_⟩
    have hj' : j < zs.length := by omega
    have hw := hwz (zs.getD j 0) (by simp [hj'])
    have hb8 := bounds_u8 hw
    have hc := hcell j hj'
    have e : (⟨b, off, none⟩ : Addr).add j = ⟨b, off + j, none⟩ := by
      unfold Addr.add
      by_cases h : j = 0 <;> simp [h]
    rw [e] at hc
    exact ⟨_, hb8.1, hb8.2, hc⟩
end Go.Proofs.YthpdlbcdbncnhaaGreatDoor
