/-
  Locks that lie there, as the laws and later chapters hand t
-/
import Derived.Test.YthpdlbcdbncnhaaGreatDoorGLock2
import Derived.Test.YthpdlbcdbncnhaaGreatDoorGLock1
import Derived.Test.YthpdlbcdbncnhaaGreatDoorGLock3
namespace Go.Proofs.YthpdlbcdbncnhaaGreatDoor
open Go.RowKit
theorem qcZ (ls : List Lk) : ls.length <= qaj ls := by unfold qaj; omega
structure On (w : World) (a : Option Addr) (m cap : Nat) (ls : List Lk) : Prop where
 len : ls.length = m
 size : qaj ls <= 2097152
 lks : Lks true w a ls
 pl : Plain w a m cap
theorem On.keeps {w w' : World} {a : Option Addr} {m cap : Nat} {ls : List Lk} (h : On w a m cap ls) (k : Keeps w w') : On w' a m cap ls := ⟨h.len, h.size, h.lks.keeps k, h.pl.keeps k⟩
theorem On.small {w : World} {a : Option Addr} {m cap : Nat} {ls : List Lk} (h : On w a m cap ls) : ls.length <= maxLen := by have := qcZ ls; have := h.size; unfold maxLen; omega
section calls
variable {w w' : World} {a : Option Addr} {m cap : Nat} {ls : List Lk}
set_option maxRecDepth 100000 in
theorem On.sLocksOk (h : On w a m cap ls) {z : Bool} (hz : qaw ls = z) (k : Keeps w w') : Calls Tryz.prog 113 #[.slice a m cap] w' fun e w'' => e = .returned (.bool z) /\ Keeps w' w'' := by
 have h' := h.keeps k
 have := qej a cap ls w' h'.size h'.lks
 rw [h'.len, hz] at this
 exact this
theorem On.at (h : On w a m cap ls) {i : Nat} {l : Lk} (hl : ls[i]? = some l) : i < m /\ ∃ b off a' cap', a = some ⟨b, off, none⟩ /\ (∀ w', Keeps w w' -> w'.cell? ⟨b, off + i * 2, none⟩ = some (.int .i64 l.owner)) /\ (∀ w', Keeps w w' -> w'.cell? ⟨b, off + i * 2 + 1, none⟩ = some (.slice a' l.waits.length cap')) /\ l.waits.length <= maxLen /\ Ns w a' l.waits :=
 ⟨by rw [<- h.len]; exact qat hl, h.lks.at hl⟩
set_option maxRecDepth 100000 in
theorem On.sChain (h : On w a m cap ls) (x : Int) (k : Keeps w w') : Calls Tryz.prog 159 #[.slice a m cap, .int .i64 x] w' fun e w'' => ∃ v, e = .returned (.tuple #[v, .bool (qao ls (ls.length + 1) x).2]) /\ OwnN w'' w'.heap.size v (qao ls (ls.length + 1) x).1 /\ Keeps w' w'' := by
 have h' := h.keeps k
 have := qei a cap ls x w' (by have := qcZ ls; have := h'.size; omega) h'.lks
 rw [h'.len] at this
 rw [h'.len]
 exact this
end calls
theorem OwnN.cells {w : World} {base : Nat} {v : Value} {xs : List Int} (h : OwnN w base v xs) (hp : 0 < xs.length) : ∃ b cap, v = .slice (some ⟨b, 0, none⟩) xs.length cap /\ xs.length <= cap /\ ∀ (k : Nat) (x : Int), xs[k]? = some x -> ∀ w', Keeps w w' -> w'.cell? ⟨b, k, none⟩ = some (.int .i64 x) := by
 obtain ⟨b, cap, rfl⟩ := Own.blk h hp
 obtain ⟨_, _, e, _, h1, _⟩ := OwnN.ns h
 simp only [Value.slice.injEq] at e
 obtain ⟨rfl, -, rfl⟩ := e
 refine ⟨b, cap, rfl, h1, fun k x hx => Keeps.has ?_⟩
 have := Own.cellAt h qa3 (i := k) (k := 0) hx (by omega)
 simpa using this
variable {p p' : Bool}
attribute [local go_sem] Keeps.refl Keeps.alloc Keeps.drew Keeps.drewN
variable {p : Bool}
attribute [local go_sem] Keeps.refl Keeps.alloc Keeps.drew Keeps.drewN
theorem qgu : ∀ {ls : List Lk} {j : Nat} {l : Lk} (m : Lk), ls[j]? = some l -> sumW (ls.set j m) + l.waits.length = sumW ls + m.waits.length
 | [], j, l, m, h => by simp at h
 | x :: r, 0, l, m, h => by
  simp at h
  subst h
  simp only [List.set_cons_zero, sumW]
  omega
 | x :: r, j + 1, l, m, h => by
  have := qgu (ls := r) (j := j) m (by simpa using h)
  simp only [List.set_cons_succ, sumW]
  omega
theorem qe3 {ls : List Lk} {j : Nat} {l : Lk} (m : Lk) (h : ls[j]? = some l) : qaj (ls.set j m) + l.waits.length = qaj ls + m.waits.length := by
 have := qgu m h
 unfold qaj
 rw [List.length_set]
 omega
theorem qe4 {ls : List Lk} (f : Lk -> Lk) (j : Nat) (hf : ∀ l, (f l).waits.length <= l.waits.length + 1) : qaj (ls.modify j f) <= qaj ls + 1 := by
 cases h : ls[j]? with
 | none =>
  have hl : ls.length <= j := by
   rcases Nat.lt_or_ge j ls.length with h1 | h1
   ·rw [List.getElem?_eq_getElem h1] at h; cases h
   ·exact h1
  have : ls.modify j f = ls := by
   apply List.ext_getElem?
   intro i
   rw [List.getElem?_modify]
   by_cases e : j = i
   ·subst e; rw [h]; rfl
   ·simp [e]
  rw [this]; omega
 | some l =>
  rw [qdU h]
  have := qe3 (f l) h
  have := hf l
  omega
theorem qgv (ls : List Lk) (i no : Int) : qaj (askL ls i no) <= qaj ls + 1 := by
 unfold askL
 split
 ·simp [qaj, sumW]
 ·split
  ·exact qe4 _ _ fun l => by simp [qcd]
  ·split
   ·exact qe4 _ _ fun l => by simp [qel]
   ·omega
theorem qj7 (ls : List Lk) (i no next : Int) : qaj (qaV ls i no next) <= qaj ls + 1 := by
 unfold qaV
 split
 ·simp [qaj, sumW]
 ·split
  ·exact qe4 _ _ fun l => by have := qjZ l.waits next; simp [qdx]; omega
  ·omega
section calls
variable {w w' : World} {a : Option Addr} {m cap : Nat} {ls : List Lk}
end calls
end Go.Proofs.YthpdlbcdbncnhaaGreatDoor
