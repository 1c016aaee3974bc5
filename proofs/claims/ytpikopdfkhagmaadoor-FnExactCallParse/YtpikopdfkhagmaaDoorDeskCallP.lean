/-
  The line of a call, as a plain list of bytes.
-/
import Derived.Test.YtpikopdfkhagmaaDoorDeskPure
import Derived.Test.YtpikopdfkhagmaaDoorSysPure2
namespace Go.Proofs.YtpikopdfkhagmaaDoor
open Go.RowKit

/-- The word of a kind. -/
def wordL (k : Int) : List UInt8 :=
  if k == 1 then [100, 117, 101] else if k == 2 then [102, 105, 120, 101, 100] else if k == 3 then [102, 97, 105, 114] else if k == 4 then [115, 108, 101, 101, 112]
  else if k == 5 then [119, 97, 107, 101] else if k == 6 then [101, 120, 105, 116] else if k == 7 then [108, 111, 99, 107] else if k == 8 then [117, 110, 108, 111, 99, 107]
  else if k == 9 then [110, 105, 99, 101] else if k == 10 then [109, 111, 118, 101] else if k == 11 then [116, 105, 99, 107, 115] else []
theorem wordL_length (k : Int) : (wordL k).length ≤ 6 := by
  unfold wordL
  repeat' split
  all_goals simp
/-- The numbers of a call that its line has. -/
def numsL (c : Cl) : List Int :=
  if c.kind == 1 || c.kind == 2 then [c.no, c.cpu, c.a, c.b] else if c.kind == 3 then [c.no, c.cpu, c.a] else if c.kind == 7 || c.kind == 8 || c.kind == 9 then [c.no, c.a]
  else if c.kind == 10 then [c.no, c.cpu] else if c.kind == 11 then [c.a] else [c.no]
theorem numsL_length (c : Cl) : 1 ≤ (numsL c).length ∧ (numsL c).length ≤ 4 := by
  unfold numsL
  repeat' split
  all_goals simp
/-- The least that the number i of a call may be. -/
def leastI (c : Cl) (i : Nat) : Int := if (c.kind == 3 || c.kind == 9) && decide (i + 1 = (numsL c).length) then -9 else 0
def numOkB (c : Cl) (i : Nat) (x : Int) : Bool := inB x (leastI c i) 9999999
/-- The first k numbers of a call may stand in its line. -/
def firstsB (c : Cl) : Nat → Bool
  | 0 => true
  | k + 1 => firstsB c k && numOkB c k ((numsL c).getD k 0)
/-- The line up to the first k numbers. -/
def lineK (c : Cl) : Nat → List UInt8
  | 0 => wordL c.kind
  | k + 1 => lineK c k ++ [32] ++ numL ((numsL c).getD k 0)
def lineB (c : Cl) : Bool := callB c && firstsB c (numsL c).length
def lineL (c : Cl) : List UInt8 := if lineB c then lineK c (numsL c).length else []
theorem firstsB_no {c : Cl} {k : Nat} (h : numOkB c k ((numsL c).getD k 0) = false) : ∀ m, k < m → firstsB c m = false
  | 0, hm => by omega
  | m + 1, hm => by
    unfold firstsB
    by_cases e : k = m
    · subst e; rw [h, Bool.and_false]
    · rw [firstsB_no h m (by omega), Bool.false_and]
end Go.Proofs.YtpikopdfkhagmaaDoor
