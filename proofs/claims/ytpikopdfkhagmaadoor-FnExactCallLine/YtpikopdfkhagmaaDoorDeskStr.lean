/-
  Texts as lists of bytes: a byte, a piece, whether two are alike.
-/
import Derived.Test.YtpikopdfkhagmaaDoorDeskNum
import Derived.WalkSpells
namespace Go.Proofs.YtpikopdfkhagmaaDoor
open Go.RowKit

set_option maxRecDepth 100000 in
theorem run_strIdx {l : List UInt8} {k : Nat} {b : UInt8} (h : l[k]? = some b) (w : World) : (Instr.index 9 (strV l) (.int .i64 (k : Int))).run Tryd.prog w = .ok (.int .u8 (b.toNat : Int)) w := by
  have hk : k < l.length := by
    rcases Nat.lt_or_ge k l.length with h1 | h1
    · exact h1
    · simp [List.getElem?_eq_none h1] at h
  have e : (⟨l.toArray⟩ : ByteArray)[k]? = some b := by
    rw [getElem?_pos (⟨l.toArray⟩ : ByteArray) k (by simpa [ByteArray.size] using hk)]
    rw [List.getElem?_eq_getElem hk] at h
    rw [← h]
    rfl
  have hz : (0 : Int) ≤ (k : Int) := by omega
  simp [Instr.index, asIntOf, run_underlying Tryd.underlying9, e]
theorem str_extract (l : List UInt8) (lo hi : Nat) : (⟨l.toArray⟩ : ByteArray).extract lo hi = ⟨((l.drop lo).take (hi - lo)).toArray⟩ := by
  apply ByteArray.ext
  simp
set_option maxRecDepth 100000 in
theorem run_strEq (a b : List UInt8) (w : World) : (Op.stringOp .eql ⟨a.toArray⟩ ⟨b.toArray⟩).run Tryd.prog w = .ok (.bool (a == b)) w := by
  simp [Op.stringOp, ByteArray.toList_eq]
set_option maxRecDepth 100000 in
theorem run_strNe (a b : List UInt8) (w : World) : (Op.stringOp .neq ⟨a.toArray⟩ ⟨b.toArray⟩).run Tryd.prog w = .ok (.bool (!(a == b))) w := by
  simp [Op.stringOp, ByteArray.toList_eq]
end Go.Proofs.YtpikopdfkhagmaaDoor
