/-
  Where a system lies: its nine cells, and its five rows.
-/
import Derived.Test.YtpikopdfkhagmaaDoorSysRows
import Derived.Test.YtpikopdfkhagmaaDoorPickSpec
import Derived.Test.YtpikopdfkhagmaaDoorLockOn
import Derived.Test.YtpikopdfkhagmaaDoorSysPure2
namespace Go.Proofs.YtpikopdfkhagmaaDoor
open Go.RowKit

/-- A row as a slice. -/
structure Rw where
  a : Option Addr
  n : Nat
  cap : Nat
abbrev Rw.val (x : Rw) : Value := .slice x.a x.n x.cap
/-- The rows of a system. -/
structure Sv where
  t : Rw
  l : Rw
  g : Rw
  f : Rw
  r : Rw
/-- How many there are, of all kinds. -/
def sizeS (s : Sy) : Nat := s.tasks.length + sizeN s.locks + s.ghosts.length + s.floors.length + s.trace.length
/-- A system as it is handed to a law. -/
structure SysLay (p : Bool) (w : World) (v : Sv) (s : Sy) : Prop where
  tl : s.tasks.length = v.t.n
  tm : v.t.n ≤ maxLen
  t : Ts w v.t.a s.tasks
  ll : s.locks.length = v.l.n
  lm : v.l.n ≤ maxLen
  l : Lks p w v.l.a s.locks
  gl : s.ghosts.length = v.g.n
  gm : v.g.n ≤ maxLen
  g : Gs w v.g.a s.ghosts
  fl : s.floors.length = v.f.n
  fm : v.f.n ≤ maxLen
  f : Ns w v.f.a s.floors
  rl : s.trace.length = v.r.n
  rm : v.r.n ≤ maxLen
  r : Rs w v.r.a s.trace
theorem SysLay.keeps {p : Bool} {w w' : World} {v : Sv} {s : Sy} (h : SysLay p w v s) (k : Keeps w w') : SysLay p w' v s :=
  ⟨h.tl, h.tm, h.t.keeps k, h.ll, h.lm, h.l.keeps k, h.gl, h.gm, h.g.keeps k, h.fl, h.fm, h.f.keeps k, h.rl, h.rm, h.r.keeps k⟩
/-- A system as it is handed on. -/
structure SysOn (w : World) (v : Sv) (s : Sy) : Prop where
  lay : SysLay true w v s
  tc : Plain w v.t.a v.t.n v.t.cap
  lc : Plain w v.l.a v.l.n v.l.cap
  gc : Plain w v.g.a v.g.n v.g.cap
  fc : Plain w v.f.a v.f.n v.f.cap
  rc : Plain w v.r.a v.r.n v.r.cap
  size : sizeS s ≤ 2000000
theorem SysOn.keeps {w w' : World} {v : Sv} {s : Sy} (h : SysOn w v s) (k : Keeps w w') : SysOn w' v s := ⟨h.lay.keeps k, h.tc.keeps k, h.lc.keeps k, h.gc.keeps k, h.fc.keeps k, h.rc.keeps k, h.size⟩
theorem Plain.le {w : World} {a : Option Addr} {n cap : Nat} (h : Plain w a n cap) : n ≤ cap := by
  rcases h with ⟨-, rfl, rfl⟩ | ⟨_, _, _, _, h⟩
  · exact Nat.le_refl _
  · exact h
theorem Own.row {α : Type} {e : TypeId} {sz : Nat} {c : α → Array Value} {w : World} {base : Nat} {x : Rw} {xs : List α} (h : Own e sz c w base x.val xs) (hc : ∀ x, (c x).size = sz) : xs.length = x.n ∧ Lies sz c w x.a xs ∧ Plain w x.a x.n x.cap ∧ x.n ≤ maxLen := by
  have hb := h.ltb
  have hp : Plain w x.a x.n x.cap := by
    obtain ⟨_, ⟨e, _⟩ | ⟨b, cap, cur, e, _, _, hl, _⟩⟩ := h
    · simp only [Rw.val, Value.slice.injEq] at e
      exact .inl e
    · simp only [Rw.val, Value.slice.injEq] at e
      obtain ⟨e1, e2, e3⟩ := e
      refine .inr ⟨b, 0, e1, (hb b ?_).2, ?_⟩
      · show (Value.slice x.a x.n x.cap).ownBlock = _
        rw [e1]; rfl
      · rw [e2, e3]; exact hl
  obtain ⟨a, cap, e, l, h1, h2⟩ := h.slice hc
  simp only [Rw.val, Value.slice.injEq] at e
  obtain ⟨e1, e2, e3⟩ := e
  refine ⟨e2.symm, by rw [e1]; exact l, hp, ?_⟩
  rw [e2]; omega
end Go.Proofs.YtpikopdfkhagmaaDoor
