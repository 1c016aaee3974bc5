/-
  Locks that lie there, as the laws and later chapters hand them on.
-/
import Derived.Test.YtpikopdfkhagmaaDoorLockS2
namespace Go.Proofs.YtpikopdfkhagmaaDoor
open Go.RowKit

theorem len_le_size (ls : List Lk) : ls.length ≤ sizeN ls := by unfold sizeN; omega
/-- What the laws call of some locks that lie there. -/
structure On (w : World) (a : Option Addr) (m cap : Nat) (ls : List Lk) : Prop where
  len : ls.length = m
  size : sizeN ls ≤ 2097152
  lks : Lks true w a ls
  pl : Plain w a m cap
theorem On.keeps {w w' : World} {a : Option Addr} {m cap : Nat} {ls : List Lk} (h : On w a m cap ls) (k : Keeps w w') : On w' a m cap ls := ⟨h.len, h.size, h.lks.keeps k, h.pl.keeps k⟩
theorem On.small {w : World} {a : Option Addr} {m cap : Nat} {ls : List Lk} (h : On w a m cap ls) : ls.length ≤ maxLen := by have := len_le_size ls; have := h.size; unfold maxLen; omega
section calls
variable {w w' : World} {a : Option Addr} {m cap : Nat} {ls : List Lk}
theorem On.at (h : On w a m cap ls) {i : Nat} {l : Lk} (hl : ls[i]? = some l) : i < m ∧ ∃ b off a' cap', a = some ⟨b, off, none⟩ ∧ (∀ w', Keeps w w' → w'.cell? ⟨b, off + i * 2, none⟩ = some (.int .i64 l.owner)) ∧ (∀ w', Keeps w w' → w'.cell? ⟨b, off + i * 2 + 1, none⟩ = some (.slice a' l.waits.length cap')) ∧ l.waits.length ≤ maxLen ∧ Ns w a' l.waits :=
  ⟨by rw [← h.len]; exact lt_of_some hl, h.lks.at hl⟩
theorem On.all (h : On w a m cap ls) (hm : 0 < m) : ∃ b off, a = some ⟨b, off, none⟩ ∧ ∀ (i : Nat) (l : Lk), ls[i]? = some l → ∃ a' cap', (∀ w', Keeps w w' → w'.cell? ⟨b, off + i * 2, none⟩ = some (.int .i64 l.owner)) ∧ (∀ w', Keeps w w' → w'.cell? ⟨b, off + i * 2 + 1, none⟩ = some (.slice a' l.waits.length cap')) ∧ l.waits.length ≤ maxLen ∧ Ns w a' l.waits := by
  obtain ⟨l0, h0⟩ := some_in (xs := ls) (k := 0) (by rw [h.len]; exact hm)
  obtain ⟨-, b, off, _, _, rfl, -⟩ := h.at h0
  refine ⟨b, off, rfl, fun i l hl => ?_⟩
  obtain ⟨-, b', off', a', cap', e, r⟩ := h.at hl
  simp only [Option.some.injEq, Addr.mk.injEq] at e
  obtain ⟨rfl, rfl, -⟩ := e
  exact ⟨a', cap', r⟩
end calls
theorem Ns.take {w : World} {a : Option Addr} {xs : List Int} (h : Ns w a xs) (k : Nat) : Ns w a (xs.take k) := by
  rcases h with rfl | ⟨b, off, rfl, hb, h⟩
  · exact .inl (by simp)
  · refine .inr ⟨b, off, rfl, hb, fun i x hx => h i x ?_⟩
    rw [List.getElem?_take] at hx
    split at hx
    · exact hx
    · cases hx
/-- What a chain's cells hold. -/
theorem OwnN.cells {w : World} {base : Nat} {v : Value} {xs : List Int} (h : OwnN w base v xs) (hp : 0 < xs.length) : ∃ b cap, v = .slice (some ⟨b, 0, none⟩) xs.length cap ∧ xs.length ≤ cap ∧ ∀ (k : Nat) (x : Int), xs[k]? = some x → ∀ w', Keeps w w' → w'.cell? ⟨b, k, none⟩ = some (.int .i64 x) := by
  obtain ⟨b, cap, rfl⟩ := Own.blk h hp
  obtain ⟨_, _, e, _, h1, _⟩ := OwnN.ns h
  simp only [Value.slice.injEq] at e
  obtain ⟨rfl, -, rfl⟩ := e
  refine ⟨b, cap, rfl, h1, fun k x hx => Keeps.has ?_⟩
  have := Own.cellAt h ic_size (i := k) (k := 0) hx (by omega)
  simpa using this
end Go.Proofs.YtpikopdfkhagmaaDoor
