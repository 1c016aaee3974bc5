/-
  Locks: the model's copy of them.
  Rows of locks are marked, and looked at again.
  Locks: the contract of the model's asking for one.
  The walks of the exact laws of chapter 7, over contracts of the program's functions.
-/
import Derived.Test.YtfbjnhifjingeaaGreatDoorGLock2
namespace Go.Proofs.YtfbjnhifjingeaaGreatDoor
open Go.RowKit
attribute [local go_sem] Keeps.refl Keeps.alloc Keeps.drew Keeps.drewN

theorem lies_blk {α : Type} {sz : Nat} {c : α → Array Value} {w : World} {b : Nat} {y : α} (hb : Blk w b (c y)) : Lies sz c w (some ⟨b, 0, none⟩) [y] := by
  refine .inr ⟨_, _, rfl, hb.lt, fun i x hx k hk => ?_⟩
  cases i with
  | zero => simp at hx; subst hx; simpa using hb.cells k
  | succ i => simp at hx

end Go.Proofs.YtfbjnhifjingeaaGreatDoor
namespace Go.Proofs.YtfbjnhifjingeaaGreatDoor
open Go.RowKit
variable {p p' : Bool}
attribute [local go_sem] Keeps.refl Keeps.alloc Keeps.drew Keeps.drewN

/-- The mark of a lock of so many that wait. -/
def markL (k : Int) (l : Lk) : Lk := ⟨k, upFrom (k + 1) l.waits.length⟩
def marksL (k0 : Int) (ls : List Lk) : List Lk := ls.mapIdx fun i l => markL (k0 + (offN ls i : Int)) l
theorem marksL_at {k0 : Int} {ls : List Lk} {i : Nat} {l : Lk} (h : ls[i]? = some l) : (marksL k0 ls)[i]? = some (markL (k0 + (offN ls i : Int)) l) := by simp [marksL, List.getElem?_mapIdx, h]
theorem marksL_length (k0 : Int) (ls : List Lk) : (marksL k0 ls).length = ls.length := by simp [marksL]

end Go.Proofs.YtfbjnhifjingeaaGreatDoor
namespace Go.Proofs.YtfbjnhifjingeaaGreatDoor
open Go.RowKit
attribute [local go_sem] Keeps.refl Keeps.alloc Keeps.drew Keeps.drewN

theorem modify_set {ls : List Lk} {i : Nat} {l : Lk} (h : ls[i]? = some l) (f : Lk → Lk) : ls.modify i f = ls.set i (f l) := by
  apply List.ext_getElem?
  intro j
  by_cases e : i = j
  · subst e
    rw [List.getElem?_modify, List.getElem?_set_self (lt_of_some h), h]
    simp
  · rw [List.getElem?_modify, List.getElem?_set_ne e]
    simp [e]
theorem waitAt_ge {ls : List Lk} {no : Int} (h : decide (0 ≤ waitAt ls no) = false) : waitAt ls no = -1 := by
  unfold waitAt at h ⊢
  split
  · rename_i i hi; rw [hi] at h; simp at h
  · rfl

end Go.Proofs.YtfbjnhifjingeaaGreatDoor
namespace Go.Proofs.YtfbjnhifjingeaaGreatDoor
open Go.RowKit
variable {p : Bool}
attribute [local go_sem] Keeps.refl Keeps.alloc Keeps.drew Keeps.drewN

/-- What the program's functions are held to. -/
def SaysLocksOk : Prop := ∀ (a : Option Addr) (cap : Nat) (ls : List Lk) (w : World), sizeN ls ≤ 2097152 → Plain w a ls.length cap → Lks true w a ls → Calls Tryz.prog 70 #[.slice a ls.length cap] w fun e w' => e = .returned (.bool (locksB ls)) ∧ Keeps w w'
set_option maxRecDepth 100000 in
theorem toLockS_all (a : Option Addr) (cap : Nat) (ls : List Lk) (w : World) (hl : sizeN ls ≤ 1048576) (hs : Lks p w a ls) :
    Calls Tryz.prog 21 #[.slice a ls.length cap] w fun e w' => ∃ b vs, e = .returned (.slice (some ⟨b, 0, none⟩) ls.length ls.length) ∧ Mine w' w.heap.size w'.heap.size (.slice (some ⟨b, 0, none⟩) ls.length ls.length) vs ls ∧ Lks true w' (some ⟨b, 0, none⟩) ls ∧ Plain w' (some ⟨b, 0, none⟩) ls.length ls.length ∧ Keeps w w' := by
  refine (toLockS_any a cap ls w hl hs).mono ?_
  rintro e w' ⟨b, vs, rfl, M, k⟩
  obtain ⟨a1, c1, e1, L1, P1, -⟩ := M.args
  simp only [Value.slice.injEq] at e1
  obtain ⟨rfl, -, rfl⟩ := e1
  exact ⟨b, vs, rfl, M, L1, P1, k⟩
theorem szAll_ok {ls : List Lk} (h : sizeN ls ≤ 1048576) : ∃ q : Int, szAll ls = q ∧ 0 ≤ q := ⟨_, rfl, by unfold szAll; rw [if_pos h]; omega⟩
theorem szAll_bad {ls : List Lk} (h : ¬ sizeN ls ≤ 1048576) : szAll ls = -1 := by unfold szAll; rw [if_neg h]

end Go.Proofs.YtfbjnhifjingeaaGreatDoor
