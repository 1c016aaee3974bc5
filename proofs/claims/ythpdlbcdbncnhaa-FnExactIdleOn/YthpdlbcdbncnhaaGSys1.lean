/-
  Rows of ghosts and of turns: the laws' own helpers.
  Where a system lies: its nine cells, and its five rows.
  Calls: what a kind names, and which calls are right.
  Calls: which are right, and the walk of FnExactCallOk, over a contract of the program's CallOk.
  A system that comes in as an argument: what its reading says of its cells.
-/
import Derived.Test.YthpdlbcdbncnhaaGPure2
import Derived.Test.YthpdlbcdbncnhaaGBase2
import Derived.Test.YthpdlbcdbncnhaaGLock1
import Derived.Test.YthpdlbcdbncnhaaGLock2
import Derived.Deep.RegionHeld3
import Derived.Test.YthpdlbcdbncnhaaGPick1
import Derived.Test.YthpdlbcdbncnhaaGLock4
import Derived.Test.YthpdlbcdbncnhaaGTask3
import Derived.Test.YthpdlbcdbncnhaaGBase1
import Derived.Laws.StructEq
import Derived.Test.YthpdlbcdbncnhaaGLock5
namespace Go.Proofs.Ythpdlbcdbncnhaa
open Go.RowKit
attribute [local go_sem] Keeps.refl Keeps.alloc Keeps.drew Keeps.drewN

abbrev ghc (g : Gh) : Array Value := #[.int .i64 g.cpu, .int .i64 g.q, .int .i64 g.p, .int .i64 g.til]
abbrev tnc (t : Tn) : Array Value := #[.int .i64 t.cpu, .int .i64 t.ctx, .int .i64 t.exe]
theorem ghc_size (g : Gh) : (ghc g).size = 4 := rfl
theorem tnc_size (t : Tn) : (tnc t).size = 3 := rfl
theorem ghc_one (g : Gh) : ∀ u ∈ (ghc g).toList, u.oneCell' = true := by
  intro u hu
  simp at hu
  rcases hu with rfl | rfl | rfl | rfl <;> rfl
theorem tnc_one (t : Tn) : ∀ u ∈ (tnc t).toList, u.oneCell' = true := by
  intro u hu
  simp at hu
  rcases hu with rfl | rfl | rfl <;> rfl
/-- The ghosts gs lie there; the turns rs lie there. -/
abbrev Gs (w : World) (a : Option Addr) (gs : List Gh) : Prop := Lies 4 ghc w a gs
abbrev Rs (w : World) (a : Option Addr) (rs : List Tn) : Prop := Lies 3 tnc w a rs
/-- What make lays is a row of zero values. -/
theorem flat_zeros {α : Type} {c : α → Array Value} {sz : Nat} (hc : ∀ x, (c x).size = sz) (hsz : 0 < sz) (z : α) (n : Nat) : (madeCells (c z) (n * sz)).toList = flatC c (List.replicate n z) := by
  apply List.ext_getElem?
  intro j
  by_cases hj : j < n * sz
  · have hq : j / sz < n := Nat.div_lt_of_lt_mul (by rw [Nat.mul_comm]; exact hj)
    have hm : j % sz < sz := Nat.mod_lt _ hsz
    have hjj : j / sz * sz + j % sz = j := by rw [Nat.mul_comm]; exact Nat.div_add_mod j sz
    have h := flatC_at hc (List.replicate n z) (j / sz) z (by simp [hq]) (j % sz) hm
    rw [hjj] at h
    rw [h]
    simp only [madeCells, Array.getElem?_toList, Array.getElem?_map, Array.getElem?_range, hj, if_true, Option.map_some, hc]
    rw [Array.getElem?_eq_getElem (by rw [hc]; exact hm)]
    simp [hc, hm]
  · rw [List.getElem?_eq_none (by simpa [madeCells] using hj), List.getElem?_eq_none]
    have := flatC_length hc (List.replicate n z)
    simp at this
    omega
theorem Own.zeros {α : Type} {e : TypeId} {c : α → Array Value} {sz : Nat} (hc : ∀ x, (c x).size = sz) (hsz : 0 < sz) (z : α) (w : World) (n : Nat) (hn : n ≤ maxLen) :
    Own e sz c (w.alloc (.cells (madeCells (c z) (n * sz)) e)) w.heap.size (.slice (Option.some ⟨w.heap.size, 0, none⟩) n n) (List.replicate n z) := by
  have h := World.ownsRow_lit (e := e) (size := sz) (base := w.heap.size) w (madeCells (c z) (n * sz)) n (Nat.le_refl _) hn (size_madeCells _ _)
  rw [flat_zeros hc hsz] at h
  unfold Own
  rw [List.length_replicate]
  exact h
theorem list_eq {α : Type} {xs ys : List α} (hl : ys.length = xs.length) (h : ∀ (j : Nat) (x : α), xs[j]? = some x → ys[j]? = some x) : ys = xs := by
  apply List.ext_getElem?
  intro j
  cases e : xs[j]? with
  | none =>
    have : xs.length ≤ j := List.getElem?_eq_none_iff.1 e
    rw [List.getElem?_eq_none (by omega)]
  | some x => exact h j x e

set_option maxRecDepth 100000 in
theorem szTurnS_any (a : Option Addr) (cap n : Nat) (left : Int) (w : World) (hl : n ≤ maxLen) (h0 : 0 ≤ left) (h1 : left ≤ 1048576) :
    Calls Try.prog 5 #[.slice a n cap, .int .i64 left] w fun e w' => e = .returned (.int .i64 (szOf n left)) ∧ w' = w := by
  unfold maxLen at hl
  by_cases h : (n : Int) ≤ left
  · have Hz : Hid (szOf n left = left - n) := if_pos h
    go_enter Try.func5, Try.ntmps5
    go_wp2
    go_ret
    exact ⟨by rw [Hz.out]; rfl, rfl⟩
  · have Hz : Hid (szOf n left = -1) := if_neg h
    go_enter Try.func5, Try.ntmps5
    go_wp2
    go_ret
    exact ⟨by rw [Hz.out]; rfl, rfl⟩
set_option maxRecDepth 100000 in
theorem toTurn_any (x : Tn) (w : World) :
    Calls Try.prog 13 #[.agg (tnc x)] w fun e w' => e = .returned (.agg (tnc x)) ∧ Keeps w w' := by
  go_enter Try.func13, Try.ntmps13
  go_wp2
  exact bodyPost_ret (v := .agg (tnc x)) (by simp [results, Try.results13, go_sem]) rfl ⟨rfl, by repeat (first | exact Keeps.refl _ | refine Keeps.alloc ?_ _ | refine Keeps.drewN ?_ _ | refine Keeps.trans ?_ (by assumption))⟩
set_option maxRecDepth 100000 in
theorem eqTurn_same (x : Tn) (w : World) :
    Calls Try.prog 16 #[.agg (tnc x), .agg (tnc x)] w fun e w' => e = .returned (.bool true) ∧ Keeps w w' := by
  have e1 : ∀ y : Int, (y != y) = false := by simp
  go_enter Try.func16, Try.ntmps16
  go_wp2
  go_ret
  exact ⟨rfl, ((Keeps.refl _).alloc _).alloc _⟩
set_option maxRecDepth 100000 in
set_option maxHeartbeats 1000000 in
theorem eqTurnS_same (a a' : Option Addr) (cap cap' : Nat) (xs : List Tn) (w : World) (hl : xs.length ≤ maxLen) (hs : Rs w a xs) (hs' : Rs w a' xs) :
    Calls Try.prog 9 #[.slice a xs.length cap, .slice a' xs.length cap'] w fun e w' => e = .returned (.bool true) ∧ Keeps w w' := by
  unfold maxLen at hl
  generalize hn : xs.length = n at hl
  have Hn : Hid (xs.length = n) := hn
  clear hn
  have hne : ((n : Int) != (n : Int)) = false := by simp
  go_enter Try.func9, Try.ntmps9
  go_wp2
  go_loopw [5] (fun i wr => ∃ k : Nat, k ≤ n ∧ i = .int .i64 k ∧ Keeps w wr) (fun i _ => n - (intOf i).toNat)
  case atStart => exact ⟨0, Nat.zero_le _, rfl, Keeps.refl _⟩
  case round =>
    obtain ⟨k, hk, rfl, hK⟩ := hrel
    by_cases hlt : k < n
    · obtain ⟨x, hx⟩ := some_in (xs := xs) (k := k) (by rw [Hn.out]; exact hlt)
      obtain ⟨b, off, rfl, r0, r1⟩ := hs.at hx (by omega)
      obtain ⟨b', off', rfl, r0', r1'⟩ := hs'.at hx (by omega)
      have hlt' : (k : Int) < (n : Int) := by omega
      clear hs hs' hx
      go_wp2
      go_region_held3 (fun w' => Keeps w w') (first | exact Keeps.drew (by assumption) | exact Keeps.trans (by assumption) (by assumption))
        (first
        | (go_at_call 16; refine (eqTurn_same x _).mono ?_; rintro e w1 ⟨rfl, hb⟩))
      go_wp2
      exact ⟨⟨k + 1, by omega, by go_num, by assumption⟩, by simp only [intOf]; omega⟩
    · go_wp2
      go_ret
      exact ⟨rfl, hK⟩
set_option maxRecDepth 100000 in
set_option maxHeartbeats 2000000 in
theorem toTurnS_any (a : Option Addr) (cap : Nat) (xs : List Tn) (w : World) (hl : xs.length ≤ 1048576) (hs : Rs w a xs) :
    Calls Try.prog 7 #[.slice a xs.length cap] w fun e w' => ∃ b, e = .returned (.slice (some ⟨b, 0, none⟩) xs.length xs.length) ∧ Own 34 3 tnc w' w.heap.size (.slice (some ⟨b, 0, none⟩) xs.length xs.length) xs ∧ Keeps w w' := by
  generalize hn : xs.length = n at hl
  have Hn : Hid (xs.length = n) := hn
  clear hn
  have hmk := run_make_zero (P := Try.prog) 25 34 (.agg (tnc Tn.zero)) 3 24 Try.underlying25 (by kernel_rfl) n (by omega) (by omega)
  simp only [Value.cells] at hmk
  have M0 : Hid (Own 34 3 tnc (w.alloc (.cells (madeCells (tnc Tn.zero) (n * 3)) 34)) w.heap.size (.slice (some ⟨w.heap.size, 0, none⟩) n n) (List.replicate n Tn.zero)) := Own.zeros tnc_size (by decide) Tn.zero w n (by unfold maxLen; omega)
  go_enter Try.func7, Try.ntmps7
  go_wp2
  go_loopw [4] (fun i wr => ∃ (k : Nat) (ys : List Tn), k ≤ n ∧ i = .int .i64 k ∧ Keeps w wr ∧ Hid (Own 34 3 tnc wr w.heap.size (.slice (some ⟨w.heap.size, 0, none⟩) n n) ys) ∧ Hid (ys.length = n) ∧ Hid (∀ (j : Nat) (x : Tn), j < k → xs[j]? = some x → ys[j]? = some x)) (fun i _ => n - (intOf i).toNat)
  case atStart => exact ⟨0, _, Nat.zero_le _, rfl, (Keeps.refl _).alloc _, M0, by show _ = _; simp, fun j _ hj => by omega⟩
  case round =>
    obtain ⟨k, ys, hk, rfl, hK, O, hy, hf⟩ := hrel
    clear hmk M0
    by_cases hlt : k < n
    · obtain ⟨x, hx⟩ := some_in (xs := xs) (k := k) (by rw [Hn.out]; exact hlt)
      obtain ⟨b, off, rfl, r0, r1⟩ := hs.at hx (by omega)
      have hlt' : (k : Int) < (n : Int) := by omega
      have Hx : Hid (xs[k]? = some x) := hx
      clear hs hx
      obtain ⟨y, hyk⟩ := some_in (xs := ys) (k := k) (by rw [hy.out]; exact hlt)
      have O0 : Own 34 3 tnc wr w.heap.size (.slice (some ⟨w.heap.size, 0, none⟩) ys.length n) ys := by have := O.out; rw [hy.out]; exact this
      have bl : Hid (w.heap.size < wr.heap.size) := (O0.ltb _ rfl).2
      have s0 : ∀ w', Keeps wr w' → w'.cell? ⟨w.heap.size, k * 3, none⟩ = some (.int .i64 y.cpu) := Keeps.has (O0.cellAt tnc_size (k := 0) hyk (by omega))
      have s1 : ∀ w', Keeps wr w' → w'.cell? ⟨w.heap.size, k * 3 + 1, none⟩ = some (.int .i64 y.ctx) := Keeps.has (O0.cellAt tnc_size (k := 1) hyk (by omega))
      have s2 : ∀ w', Keeps wr w' → w'.cell? ⟨w.heap.size, k * 3 + 2, none⟩ = some (.int .i64 y.exe) := Keeps.has (O0.cellAt tnc_size (k := 2) hyk (by omega))
      have s9 : ∀ w', Keeps wr w' → ∀ o, w'.frozen? ⟨w.heap.size, o, none⟩ = false := fun w' h o => (h.frozens _ _ bl.out).trans (O0.frozenAt o)
      clear O0 hyk
      go_wp2_with fail
      refine (toTurn_any x _).mono ?_
      rintro e w1 ⟨rfl, k1⟩
      have kk : Keeps wr w1 := k1
      go_wp2
      have O1 : Own 34 3 tnc w1 w.heap.size (.slice (some ⟨w.heap.size, 0, none⟩) ys.length n) ys := by have := O.out.keeps k1; rw [hy.out]; exact this
      have O2 := O1.put tnc_size (i := k) (by rw [hy.out]; exact hlt) x
      rw [List.length_set, hy.out] at O2
      refine ⟨⟨k + 1, ys.set k x, by omega, by go_num, Keeps.putC (b := w.heap.size) (Nat.le_refl _) (tnc x).toList (k * 3) (hK.trans k1), O2, by show _ = _; simpa using hy.out, ?_⟩, by simp only [intOf]; omega⟩
      intro j z hj hjz
      by_cases hjk : j = k
      · subst hjk
        rw [Hx.out] at hjz
        cases hjz
        rw [List.getElem?_set_self (by rw [hy.out]; exact hlt)]
      · rw [List.getElem?_set_ne (Ne.symm hjk)]
        exact hf.out j z (by omega) hjz
    · have e : k = n := by omega
      subst e
      go_wp2
      go_ret
      have e : ys = xs := list_eq (hy.out.trans Hn.out.symm) fun j x hx => hf.out j x (by have := lt_of_some hx; have := Hn.out; omega) hx
      subst e
      exact ⟨_, rfl, O.out, hK⟩

end Go.Proofs.Ythpdlbcdbncnhaa
namespace Go.Proofs.Ythpdlbcdbncnhaa
open Go.RowKit

/-- A row as a slice. -/
structure Rw where
  a : Option Addr
  n : Nat
  cap : Nat
abbrev Rw.val (x : Rw) : Value := .slice x.a x.n x.cap
/-- The rows of a system. -/
structure Sv where
  t : Rw
  l : Rw
  g : Rw
  f : Rw
  r : Rw
abbrev syc (s : Sy) (v : Sv) : Array Value := #[.int .i64 s.now, .int .i64 s.cpus, .slice v.t.a v.t.n v.t.cap, .slice v.l.a v.l.n v.l.cap, .slice v.g.a v.g.n v.g.cap, .slice v.f.a v.f.n v.f.cap, .int .i64 s.seq, .int .i64 s.missed, .slice v.r.a v.r.n v.r.cap]
/-- How many there are, of all kinds. -/
def sizeS (s : Sy) : Nat := s.tasks.length + sizeN s.locks + s.ghosts.length + s.floors.length + s.trace.length
/-- A system as it is handed to a law. -/
structure SysLay (p : Bool) (w : World) (v : Sv) (s : Sy) : Prop where
  tl : s.tasks.length = v.t.n
  tm : v.t.n ≤ maxLen
  t : Ts w v.t.a s.tasks
  ll : s.locks.length = v.l.n
  lm : v.l.n ≤ maxLen
  l : Lks p w v.l.a s.locks
  gl : s.ghosts.length = v.g.n
  gm : v.g.n ≤ maxLen
  g : Gs w v.g.a s.ghosts
  fl : s.floors.length = v.f.n
  fm : v.f.n ≤ maxLen
  f : Ns w v.f.a s.floors
  rl : s.trace.length = v.r.n
  rm : v.r.n ≤ maxLen
  r : Rs w v.r.a s.trace
theorem SysLay.keeps {p : Bool} {w w' : World} {v : Sv} {s : Sy} (h : SysLay p w v s) (k : Keeps w w') : SysLay p w' v s :=
  ⟨h.tl, h.tm, h.t.keeps k, h.ll, h.lm, h.l.keeps k, h.gl, h.gm, h.g.keeps k, h.fl, h.fm, h.f.keeps k, h.rl, h.rm, h.r.keeps k⟩
/-- A system as it is handed on. -/
structure SysOn (w : World) (v : Sv) (s : Sy) : Prop where
  lay : SysLay true w v s
  tc : Plain w v.t.a v.t.n v.t.cap
  lc : Plain w v.l.a v.l.n v.l.cap
  gc : Plain w v.g.a v.g.n v.g.cap
  fc : Plain w v.f.a v.f.n v.f.cap
  rc : Plain w v.r.a v.r.n v.r.cap
  size : sizeS s ≤ 2000000
theorem SysOn.keeps {w w' : World} {v : Sv} {s : Sy} (h : SysOn w v s) (k : Keeps w w') : SysOn w' v s := ⟨h.lay.keeps k, h.tc.keeps k, h.lc.keeps k, h.gc.keeps k, h.fc.keeps k, h.rc.keeps k, h.size⟩
theorem SysOn.onT {w : World} {v : Sv} {s : Sy} (h : SysOn w v s) : OnT w v.t.a v.t.n v.t.cap s.tasks := ⟨h.lay.tl, by rw [h.lay.tl]; exact h.lay.tm, h.lay.t⟩
theorem SysOn.onL {w : World} {v : Sv} {s : Sy} (h : SysOn w v s) : On w v.l.a v.l.n v.l.cap s.locks := ⟨h.lay.ll, by have := h.size; unfold sizeS at this; omega, h.lay.l, h.lc⟩
/-- Which blocks are of which kind. -/
def ofKind (v : Sv) (vs : List Lv) : Nat → Nat → Prop
  | 0, b => v.t.val.ownBlock = some b
  | 1, b => v.l.val.ownBlock = some b ∨ ∃ x ∈ vs, x.row.ownBlock = some b
  | 2, b => v.g.val.ownBlock = some b
  | 3, b => v.f.val.ownBlock = some b
  | 4, b => v.r.val.ownBlock = some b
  | _, _ => False
/-- A system of one's own: no row lies in another one's block. -/
structure OwnS (w : World) (lo : Nat) (v : Sv) (vs : List Lv) (s : Sy) : Prop where
  t : Own 77 14 tc w lo v.t.val s.tasks
  l : Mine w lo w.heap.size v.l.val vs s.locks
  g : Own 99 4 ghc w lo v.g.val s.ghosts
  f : OwnN w lo v.f.val s.floors
  r : Own 34 3 tnc w lo v.r.val s.trace
  ap : ∀ i j b, ofKind v vs i b → ofKind v vs j b → i = j
theorem OwnS.keeps {w w' : World} {lo : Nat} {v : Sv} {vs : List Lv} {s : Sy} (h : OwnS w lo v vs s) (k : Keeps w w') : OwnS w' lo v vs s :=
  ⟨h.t.keeps k, (h.l.keeps k).widen (Nat.le_refl _) k.size, h.g.keeps k, h.f.keeps k, h.r.keeps k, h.ap⟩
theorem OwnS.base {w : World} {lo lo' : Nat} {v : Sv} {vs : List Lv} {s : Sy} (h : OwnS w lo v vs s) (k : lo' ≤ lo) : OwnS w lo' v vs s :=
  ⟨h.t.base k, h.l.widen k (Nat.le_refl _), h.g.base k, h.f.base k, h.r.base k, h.ap⟩
theorem Plain.le {w : World} {a : Option Addr} {n cap : Nat} (h : Plain w a n cap) : n ≤ cap := by
  rcases h with ⟨-, rfl, rfl⟩ | ⟨_, _, _, _, h⟩
  · exact Nat.le_refl _
  · exact h
theorem Own.row {α : Type} {e : TypeId} {sz : Nat} {c : α → Array Value} {w : World} {base : Nat} {x : Rw} {xs : List α} (h : Own e sz c w base x.val xs) (hc : ∀ x, (c x).size = sz) : xs.length = x.n ∧ Lies sz c w x.a xs ∧ Plain w x.a x.n x.cap ∧ x.n ≤ maxLen := by
  have hb := h.ltb
  have hp : Plain w x.a x.n x.cap := by
    obtain ⟨_, ⟨e, _⟩ | ⟨b, cap, cur, e, _, _, hl, _⟩⟩ := h
    · simp only [Rw.val, Value.slice.injEq] at e
      exact .inl e
    · simp only [Rw.val, Value.slice.injEq] at e
      obtain ⟨e1, e2, e3⟩ := e
      refine .inr ⟨b, 0, e1, (hb b ?_).2, ?_⟩
      · show (Value.slice x.a x.n x.cap).ownBlock = _
        rw [e1]; rfl
      · rw [e2, e3]; exact hl
  obtain ⟨a, cap, e, l, h1, h2⟩ := h.slice hc
  simp only [Rw.val, Value.slice.injEq] at e
  obtain ⟨e1, e2, e3⟩ := e
  refine ⟨e2.symm, by rw [e1]; exact l, hp, ?_⟩
  rw [e2]; omega
theorem OwnS.on {w : World} {lo : Nat} {v : Sv} {vs : List Lv} {s : Sy} (h : OwnS w lo v vs s) (hs : sizeS s ≤ 2000000) : SysOn w v s := by
  obtain ⟨t1, t2, t3, t4⟩ := h.t.row tc_size
  obtain ⟨g1, g2, g3, g4⟩ := h.g.row ghc_size
  obtain ⟨f1, f2, f3, f4⟩ := h.f.row ic_size
  obtain ⟨r1, r2, r3, r4⟩ := h.r.row tnc_size
  obtain ⟨a, cap, e, l1, l2, l3⟩ := h.l.args
  simp only [Rw.val, Value.slice.injEq] at e
  obtain ⟨e1, e2, e3⟩ := e
  rw [← e1] at l1 l2
  rw [← e2] at l2 l3
  rw [← e3] at l2
  exact ⟨⟨t1, t4, t2, e2.symm, l3, l1, g1, g4, g2, f1, f4, Ns.of_lies f2, r1, r4, r2⟩, t3, l2, g3, f3, r3, hs⟩
/-- Five fresh rows, one behind the other: no two share a block. -/
theorem apart_of {v : Sv} {vs : List Lv} (b0 b1 b2 b3 b4 b5 : Nat) (h0 : ∀ b, v.t.val.ownBlock = some b → b0 ≤ b ∧ b < b1) (h1 : ∀ b, (v.l.val.ownBlock = some b ∨ ∃ x ∈ vs, x.row.ownBlock = some b) → b1 ≤ b ∧ b < b2)
    (h2 : ∀ b, v.g.val.ownBlock = some b → b2 ≤ b ∧ b < b3) (h3 : ∀ b, v.f.val.ownBlock = some b → b3 ≤ b ∧ b < b4) (h4 : ∀ b, v.r.val.ownBlock = some b → b4 ≤ b ∧ b < b5) (l2 : b1 ≤ b2) (l3 : b2 ≤ b3) (l4 : b3 ≤ b4) :
    ∀ i j b, ofKind v vs i b → ofKind v vs j b → i = j := by
  have key : ∀ i b, ofKind v vs i b → (i = 0 ∧ b0 ≤ b ∧ b < b1) ∨ (i = 1 ∧ b1 ≤ b ∧ b < b2) ∨ (i = 2 ∧ b2 ≤ b ∧ b < b3) ∨ (i = 3 ∧ b3 ≤ b ∧ b < b4) ∨ (i = 4 ∧ b4 ≤ b ∧ b < b5) := by
    intro i b h
    match i, h with
    | 0, h => exact .inl ⟨rfl, h0 b h⟩
    | 1, h => exact .inr (.inl ⟨rfl, h1 b h⟩)
    | 2, h => exact .inr (.inr (.inl ⟨rfl, h2 b h⟩))
    | 3, h => exact .inr (.inr (.inr (.inl ⟨rfl, h3 b h⟩)))
    | 4, h => exact .inr (.inr (.inr (.inr ⟨rfl, h4 b h⟩)))
    | n + 5, h => exact h.elim
  intro i j b hi hj
  have := key i b hi
  have := key j b hj
  omega
end Go.Proofs.Ythpdlbcdbncnhaa
namespace Go.Proofs.Ythpdlbcdbncnhaa
open Go.RowKit
attribute [local go_sem] Keeps.refl Keeps.alloc Keeps.drew Keeps.drewN

abbrev cc (c : Cl) : Array Value := #[.int .i64 c.kind, .int .i64 c.no, .int .i64 c.cpu, .int .i64 c.a, .int .i64 c.b]
abbrev ck (c : Cl) : Value := .agg (cc c)
theorem cc_size (c : Cl) : (cc c).size = 5 := rfl
set_option maxRecDepth 100000 in
theorem run_eqlIn_call (d : Nat) (w : World) (a b : Cl) : (Op.equalIn (d + 2) 68 (ck a) (ck b)).run Try.prog w = .ok (eqC a b) w := by
  obtain ⟨a0, a1, a2, a3, a4⟩ := a
  obtain ⟨b0, b1, b2, b3, b4⟩ := b
  simp only [eqC]
  rw [run_equalIn_agg _ _ _ _ _ (by kernel_rfl) (by kernel_rfl)]
  go_simp
  by_cases h0 : a0 = b0
  case neg => simp only [if_neg h0, beq_eq_false_iff_ne.2 h0, Bool.false_and]
  simp only [if_pos h0, beq_iff_eq.2 h0, Bool.true_and]
  by_cases h1 : a1 = b1
  case neg => simp only [if_neg h1, beq_eq_false_iff_ne.2 h1, Bool.false_and]
  simp only [if_pos h1, beq_iff_eq.2 h1, Bool.true_and]
  by_cases h2 : a2 = b2
  case neg => simp only [if_neg h2, beq_eq_false_iff_ne.2 h2, Bool.false_and]
  simp only [if_pos h2, beq_iff_eq.2 h2, Bool.true_and]
  by_cases h3 : a3 = b3
  case neg => simp only [if_neg h3, beq_eq_false_iff_ne.2 h3, Bool.false_and]
  simp only [if_pos h3, beq_iff_eq.2 h3, Bool.true_and]
  by_cases h4 : a4 = b4
  case neg => simp only [if_neg h4, beq_eq_false_iff_ne.2 h4]
  simp only [if_pos h4, beq_iff_eq.2 h4]
set_option maxRecDepth 100000 in
theorem run_eql_call (w : World) (a b : Cl) : (binOp .eql 68 (ck a) (ck b)).run Try.prog w = .ok (.bool (eqC a b)) w := by
  rw [run_eql_struct, run_eqlIn_call 9998]; rfl
set_option maxRecDepth 100000 in
set_option maxHeartbeats 4000000 in
theorem l11Clean_any (c : Cl) (w : World) :
    Calls Try.prog 45 #[ck c] w fun e w' => e = .returned (ck (cleanC c)) ∧ Keeps w w' := by
  cases c1 : (c.kind == 1)
  rotate_left
  · have Hr : Hid (cleanC c = c) := by show _ = _; simp [cleanC, c1]
    go_enter Try.func45, Try.ntmps45
    go_wp2
    exact bodyPost_ret (v := ck c) (by simp [results, Try.results45, go_sem]) rfl ⟨by rw [Hr.out], by repeat (first | exact Keeps.refl _ | refine Keeps.setCell ?_ (by simp) _ | refine Keeps.alloc ?_ _ | refine Keeps.drewN ?_ _)⟩
  cases c2 : (c.kind == 2)
  rotate_left
  · have Hr : Hid (cleanC c = c) := by show _ = _; simp [cleanC, c1, c2]
    go_enter Try.func45, Try.ntmps45
    go_wp2
    exact bodyPost_ret (v := ck c) (by simp [results, Try.results45, go_sem]) rfl ⟨by rw [Hr.out], by repeat (first | exact Keeps.refl _ | refine Keeps.setCell ?_ (by simp) _ | refine Keeps.alloc ?_ _ | refine Keeps.drewN ?_ _)⟩
  cases c3 : (c.kind == 3)
  rotate_left
  · have Hr : Hid (cleanC c = { c with b := 0 }) := by show _ = _; simp [cleanC, c1, c2, c3]
    go_enter Try.func45, Try.ntmps45
    go_wp2
    exact bodyPost_ret (v := ck { c with b := 0 }) (by simp [results, Try.results45, go_sem]) rfl ⟨by rw [Hr.out], by repeat (first | exact Keeps.refl _ | refine Keeps.setCell ?_ (by simp) _ | refine Keeps.alloc ?_ _ | refine Keeps.drewN ?_ _)⟩
  cases c4 : (c.kind == 4)
  rotate_left
  · have Hr : Hid (cleanC c = { c with cpu := 0, a := 0, b := 0 }) := by show _ = _; simp [cleanC, c1, c2, c3, c4]
    go_enter Try.func45, Try.ntmps45
    go_wp2
    exact bodyPost_ret (v := ck { c with cpu := 0, a := 0, b := 0 }) (by simp [results, Try.results45, go_sem]) rfl ⟨by rw [Hr.out], by repeat (first | exact Keeps.refl _ | refine Keeps.setCell ?_ (by simp) _ | refine Keeps.alloc ?_ _ | refine Keeps.drewN ?_ _)⟩
  cases c5 : (c.kind == 5)
  rotate_left
  · have Hr : Hid (cleanC c = { c with cpu := 0, a := 0, b := 0 }) := by show _ = _; simp [cleanC, c1, c2, c3, c4, c5]
    go_enter Try.func45, Try.ntmps45
    go_wp2
    exact bodyPost_ret (v := ck { c with cpu := 0, a := 0, b := 0 }) (by simp [results, Try.results45, go_sem]) rfl ⟨by rw [Hr.out], by repeat (first | exact Keeps.refl _ | refine Keeps.setCell ?_ (by simp) _ | refine Keeps.alloc ?_ _ | refine Keeps.drewN ?_ _)⟩
  cases c6 : (c.kind == 6)
  rotate_left
  · have Hr : Hid (cleanC c = { c with cpu := 0, a := 0, b := 0 }) := by show _ = _; simp [cleanC, c1, c2, c3, c4, c5, c6]
    go_enter Try.func45, Try.ntmps45
    go_wp2
    exact bodyPost_ret (v := ck { c with cpu := 0, a := 0, b := 0 }) (by simp [results, Try.results45, go_sem]) rfl ⟨by rw [Hr.out], by repeat (first | exact Keeps.refl _ | refine Keeps.setCell ?_ (by simp) _ | refine Keeps.alloc ?_ _ | refine Keeps.drewN ?_ _)⟩
  cases c7 : (c.kind == 7)
  rotate_left
  · have Hr : Hid (cleanC c = { c with cpu := 0, b := 0 }) := by show _ = _; simp [cleanC, c1, c2, c3, c4, c5, c6, c7]
    go_enter Try.func45, Try.ntmps45
    go_wp2
    exact bodyPost_ret (v := ck { c with cpu := 0, b := 0 }) (by simp [results, Try.results45, go_sem]) rfl ⟨by rw [Hr.out], by repeat (first | exact Keeps.refl _ | refine Keeps.setCell ?_ (by simp) _ | refine Keeps.alloc ?_ _ | refine Keeps.drewN ?_ _)⟩
  cases c8 : (c.kind == 8)
  rotate_left
  · have Hr : Hid (cleanC c = { c with cpu := 0, b := 0 }) := by show _ = _; simp [cleanC, c1, c2, c3, c4, c5, c6, c7, c8]
    go_enter Try.func45, Try.ntmps45
    go_wp2
    exact bodyPost_ret (v := ck { c with cpu := 0, b := 0 }) (by simp [results, Try.results45, go_sem]) rfl ⟨by rw [Hr.out], by repeat (first | exact Keeps.refl _ | refine Keeps.setCell ?_ (by simp) _ | refine Keeps.alloc ?_ _ | refine Keeps.drewN ?_ _)⟩
  cases c9 : (c.kind == 9)
  rotate_left
  · have Hr : Hid (cleanC c = { c with cpu := 0, b := 0 }) := by show _ = _; simp [cleanC, c1, c2, c3, c4, c5, c6, c7, c8, c9]
    go_enter Try.func45, Try.ntmps45
    go_wp2
    exact bodyPost_ret (v := ck { c with cpu := 0, b := 0 }) (by simp [results, Try.results45, go_sem]) rfl ⟨by rw [Hr.out], by repeat (first | exact Keeps.refl _ | refine Keeps.setCell ?_ (by simp) _ | refine Keeps.alloc ?_ _ | refine Keeps.drewN ?_ _)⟩
  cases c10 : (c.kind == 10)
  rotate_left
  · have Hr : Hid (cleanC c = { c with a := 0, b := 0 }) := by show _ = _; simp [cleanC, c1, c2, c3, c4, c5, c6, c7, c8, c9, c10]
    go_enter Try.func45, Try.ntmps45
    go_wp2
    exact bodyPost_ret (v := ck { c with a := 0, b := 0 }) (by simp [results, Try.results45, go_sem]) rfl ⟨by rw [Hr.out], by repeat (first | exact Keeps.refl _ | refine Keeps.setCell ?_ (by simp) _ | refine Keeps.alloc ?_ _ | refine Keeps.drewN ?_ _)⟩
  cases c11 : (c.kind == 11)
  rotate_left
  · have Hr : Hid (cleanC c = { c with no := 0, cpu := 0, b := 0 }) := by show _ = _; simp [cleanC, c1, c2, c3, c4, c5, c6, c7, c8, c9, c10, c11]
    go_enter Try.func45, Try.ntmps45
    go_wp2
    exact bodyPost_ret (v := ck { c with no := 0, cpu := 0, b := 0 }) (by simp [results, Try.results45, go_sem]) rfl ⟨by rw [Hr.out], by repeat (first | exact Keeps.refl _ | refine Keeps.setCell ?_ (by simp) _ | refine Keeps.alloc ?_ _ | refine Keeps.drewN ?_ _)⟩
  have Hr : Hid (cleanC c = c) := by show _ = _; simp [cleanC, c1, c2, c3, c4, c5, c6, c7, c8, c9, c10, c11]
  go_enter Try.func45, Try.ntmps45
  go_wp2
  exact bodyPost_ret (v := ck c) (by simp [results, Try.results45, go_sem]) rfl ⟨by rw [Hr.out], by repeat (first | exact Keeps.refl _ | refine Keeps.setCell ?_ (by simp) _ | refine Keeps.alloc ?_ _ | refine Keeps.drewN ?_ _)⟩
end Go.Proofs.Ythpdlbcdbncnhaa
namespace Go.Proofs.Ythpdlbcdbncnhaa
open Go.RowKit
attribute [local go_sem] Keeps.refl Keeps.alloc Keeps.drew Keeps.drewN
attribute [local go_sem high] run_eql_call

set_option maxRecDepth 100000 in
set_option maxHeartbeats 2000000 in
theorem specCallOk_any (c : Cl) (w : World) :
    Calls Try.prog 37 #[ck c] w fun e w' => e = .returned (.bool (callB c)) ∧ Keeps w w' := by
  have kW : Keeps w (w.alloc (.cells (cc c) 68)) := (Keeps.refl _).alloc _
  have r1 : ∀ w', Keeps (w.alloc (.cells (cc c) 68)) w' → ∀ k, w'.cell? ⟨w.heap.size, k, none⟩ = (cc c)[k]? := fun w' h => ((Blk.new w (cc c) 68).keeps h).cells
  cases b : inB c.kind 1 11
  · have Hr : Hid (callB c = false) := by show _ = _; simp [callB, b]
    go_enter Try.func37, Try.ntmps37
    go_wp2_with fail
    generalize w.alloc (.cells (cc c) 68) = W at *
    refine wp_region_held_drew (S := (fun w' => Keeps W w')) (by kernel_rfl) ?_ (fun hHeld => ?_)
    · exact (Keeps.refl W).drew
    refine Plan.go [0, 1] ?_
    iterate 2 (refine takeL (by simp only [opsAt]; rfl) (by kernel_rfl) (by exact fun _ _ _ h => h) (by rfl) (by assumption) (fun w _ => by go_simp; try (with_reducible rfl)) ?_; try simp only [putAtH])
    refine Plan.nil ?_
    refine callH 2 (by kernel_rfl) (by simp only [opsAt]; rfl) (fun K hK => ?_)
    go_simp
    first
      | (go_at_call 33; refine (l1In_any _ _ _ _).mono ?_; rintro e w' ⟨rfl, hw1⟩; have hw2 := hw1.symm; subst hw2; rw [b])
      | (go_at_call 45; refine (l11Clean_any c _).mono ?_; rintro e w1 ⟨rfl, k1⟩)
    try go_wp2_with fail
    refine hK.out _ _ ?_ (fun hHeld => ?_)
    · first | assumption | exact Keeps.trans (by assumption) (by assumption)
    clear hK K
    try simp only [putAtH]
    refine takeH 3 (v := ?_) (by simp only [opsAt]; rfl) (by kernel_rfl) (by exact fun _ _ _ h => h) (by rfl) (by assumption) ?_ ?_
    rotate_left
    · (intro w _; go_simp; try (with_reducible rfl))
    try simp only [putAtH]
    refine Plan.go [4, 5, 6, 7] ?_
    iterate 4 (refine skipL (by simp only [opsAt]; rfl) (by kernel_rfl) (by exact fun _ _ _ h => h) (by rfl) (by assumption) ?_; try simp only [putAtH])
    refine Plan.nil ?_
    refine Plan.go [8, 9] ?_
    iterate 2 (refine takeL (by simp only [opsAt]; rfl) (by kernel_rfl) (by exact fun _ _ _ h => h) (by rfl) (by assumption) (fun w _ => by go_simp; try (with_reducible rfl)) ?_; try simp only [putAtH])
    refine Plan.nil ?_
    refine wpAnyH_done (by kernel_rfl) ?_ _
    go_wp2
    go_ret
    exact ⟨by rw [Hr.out]; rfl, kW.trans (by assumption)⟩
  · have Hr : Hid (callB c = eqC c (cleanC c)) := by show _ = _; simp [callB, b]
    go_enter Try.func37, Try.ntmps37
    go_wp2_with fail
    generalize w.alloc (.cells (cc c) 68) = W at *
    refine wp_region_held_drew (S := (fun w' => Keeps W w')) (by kernel_rfl) ?_ (fun hHeld => ?_)
    · exact (Keeps.refl W).drew
    refine Plan.go [0, 1] ?_
    iterate 2 (refine takeL (by simp only [opsAt]; rfl) (by kernel_rfl) (by exact fun _ _ _ h => h) (by rfl) (by assumption) (fun w _ => by go_simp; try (with_reducible rfl)) ?_; try simp only [putAtH])
    refine Plan.nil ?_
    refine callH 2 (by kernel_rfl) (by simp only [opsAt]; rfl) (fun K hK => ?_)
    go_simp
    first
      | (go_at_call 33; refine (l1In_any _ _ _ _).mono ?_; rintro e w' ⟨rfl, hw1⟩; have hw2 := hw1.symm; subst hw2; rw [b])
      | (go_at_call 45; refine (l11Clean_any c _).mono ?_; rintro e w1 ⟨rfl, k1⟩)
    try go_wp2_with fail
    refine hK.out _ _ ?_ (fun hHeld => ?_)
    · first | assumption | exact Keeps.trans (by assumption) (by assumption)
    clear hK K
    try simp only [putAtH]
    refine Plan.go [3, 4, 5] ?_
    iterate 3 (refine takeL (by simp only [opsAt]; rfl) (by kernel_rfl) (by exact fun _ _ _ h => h) (by rfl) (by assumption) (fun w _ => by go_simp; try (with_reducible rfl)) ?_; try simp only [putAtH])
    refine Plan.nil ?_
    refine callH 6 (by kernel_rfl) (by simp only [opsAt]; rfl) (fun K hK => ?_)
    go_simp
    first
      | (go_at_call 33; refine (l1In_any _ _ _ _).mono ?_; rintro e w' ⟨rfl, hw1⟩; have hw2 := hw1.symm; subst hw2; rw [b])
      | (go_at_call 45; refine (l11Clean_any c _).mono ?_; rintro e w1 ⟨rfl, k1⟩)
    try go_wp2_with fail
    refine hK.out _ _ ?_ (fun hHeld => ?_)
    · first | assumption | exact Keeps.trans (by assumption) (by assumption)
    clear hK K
    try simp only [putAtH]
    refine Plan.go [7, 8, 9] ?_
    iterate 3 (refine takeL (by simp only [opsAt]; rfl) (by kernel_rfl) (by exact fun _ _ _ h => h) (by rfl) (by assumption) (fun w _ => by go_simp; try (with_reducible rfl)) ?_; try simp only [putAtH])
    refine Plan.nil ?_
    refine wpAnyH_done (by kernel_rfl) ?_ _
    go_wp2
    go_ret
    exact ⟨by rw [Hr.out]; rfl, kW.trans (by assumption)⟩
end Go.Proofs.Ythpdlbcdbncnhaa
namespace Go.Proofs.Ythpdlbcdbncnhaa
open Go.ChangeShapes Go.WideShapes Go.ChangeAt Go.RowKit

def inI (x : Int) : Prop := -9223372036854775808 ≤ x ∧ x ≤ 9223372036854775807
/-- The numbers of a system that come in are int's. -/
def WfS (s : Sy) : Prop := inI s.now ∧ inI s.cpus ∧ inI s.seq ∧ inI s.missed
set_option maxRecDepth 100000 in
theorem readIntR {H : Type} {enc : TypeId × Value → H} {W : World} {base : Nat} {spare : Nat → Bool} {held : Bool} {n : Nat} {cs : List Value} {y : DataW H × List MemPlace}
    (h : DataW.trod enc Try.prog W base spare held n 3 cs = some y) : ∃ x : Int, cs = [.int .i64 x] ∧ inI x := by
  obtain ⟨x, e, _, r⟩ := DataW.trod_int Try.underlying3 h
  refine ⟨x, e, ?_⟩
  simp [Lit.wf, IntKind.min, IntKind.max, IntKind.signed, IntKind.bits] at r
  exact ⟨by omega, by omega⟩
set_option maxRecDepth 100000 in
/-- A row of structs, where each struct's reading says what its cells are. -/
theorem readRow {α : Type} [Inhabited α] {sz : Nat} {c : α → Array Value} (hsz : 0 < sz) (hc : ∀ x, (c x).size = sz) {t e : TypeId} (ht : Try.prog.underlying t = some (.slice e)) (ce : Try.prog.cellsOf e = sz)
    {H : Type} {enc : TypeId × Value → H} {W : World} {base : Nat} {spare : Nat → Bool} {held : Bool} {fuel : Nat} {cs : List Value} {y : DataW H × List MemPlace}
    (hr : ∀ (n : Nat) (cs : List Value) (y : DataW H × List MemPlace), DataW.trod enc Try.prog W base spare held n e cs = some y → ∃ x : α, cs = (c x).toList)
    (h : DataW.trod enc Try.prog W base spare held fuel t cs = some y) : ∃ (a : Option Addr) (cap : Nat) (xs : List α), cs = [.slice a xs.length cap] ∧ xs.length ≤ maxLen ∧ Lies sz c W a xs := by
  rcases Go.Deep.open_slice ht h with ⟨hcs, _⟩ | ⟨x, l, cp, m, n, D, Pl, hcs, _, hl, hm, hmm, _, hx⟩
  · exact ⟨none, 0, [], hcs, by simp, .inl rfl⟩
  · have hml : l ≤ m := by rw [hmm]; split <;> omega
    rw [ce] at hx
    have each : ∀ i, i < l → ∃ t : α, ∀ k, k < sz → W.cell? ((x.add (i * sz)).add k) = (c t)[k]? := by
      intro i hi
      obtain ⟨cs', h1, h2⟩ := hx i (by omega)
      obtain ⟨_, _, hcell⟩ := World.cells?_some h1
      obtain ⟨t, rfl⟩ := hr _ _ _ h2
      exact ⟨t, fun k hk => by rw [hcell k hk]; simp⟩
    obtain ⟨T, hT⟩ := Go.Deep.choose_lt each
    refine ⟨some x, cp, (List.range l).map T, by simpa using hcs, by simp; omega, ?_⟩
    obtain ⟨b, off, spot⟩ := x
    by_cases h0 : l = 0
    · subst h0; exact .inl rfl
    · have h1 := (hT 0 (by omega) 0 hsz).trans (Array.getElem?_eq_getElem (by rw [hc]; exact hsz))
      have hs : spot = none := by
        have h2 := World.cell?_spot h1
        simpa [Addr.add] using h2
      subst hs
      have hb : b < W.heap.size := by
        have := World.block_lt_of_cell? W _ h1
        simpa [Addr.add] using this
      refine .inr ⟨b, off, rfl, hb, fun i t hi k hk => ?_⟩
      have hi' : i < l := by have := lt_of_some hi; simpa using this
      have e : T i = t := by simpa [hi'] using hi
      have := hT i hi' k hk
      rwa [addr_add, addr_add, e] at this
set_option maxHeartbeats 1000000 in
set_option maxRecDepth 100000 in
theorem read_turn {H : Type} {enc : TypeId × Value → H} {W : World} {base : Nat} {spare : Nat → Bool} {held : Bool} {fuel : Nat} {cs : List Value} {x : DataW H × List MemPlace}
    (h : DataW.trod enc Try.prog W base spare held fuel 36 cs = some x) : ∃ r : Tn, cs = (tnc r).toList := by
  have ci : Try.prog.cellsOf 3 = 1 := by kernel_rfl
  have ct : Try.prog.cellsOf 36 = 3 := by kernel_rfl
  obtain ⟨xs, n, _, _, hl, hxl, hf⟩ := DataW.trod_struct Try.underlying36 h
  rw [ct] at hl
  replace hxl : xs.length = 3 := hxl
  have g0 : DataW.trod enc Try.prog W base spare held n 3 ((cs.drop 0).take (Try.prog.cellsOf 3)) = xs[0]? := hf 0 _ rfl
  rw [ci, List.getElem?_eq_getElem (show 0 < xs.length by omega)] at g0
  obtain ⟨x0, e0⟩ := readInt g0
  have g1 : DataW.trod enc Try.prog W base spare held n 3 ((cs.drop 1).take (Try.prog.cellsOf 3)) = xs[1]? := hf 1 _ rfl
  rw [ci, List.getElem?_eq_getElem (show 1 < xs.length by omega)] at g1
  obtain ⟨x1, e1⟩ := readInt g1
  have g2 : DataW.trod enc Try.prog W base spare held n 3 ((cs.drop 2).take (Try.prog.cellsOf 3)) = xs[2]? := hf 2 _ rfl
  rw [ci, List.getElem?_eq_getElem (show 2 < xs.length by omega)] at g2
  obtain ⟨x2, e2⟩ := readInt g2
  match cs, hl with
  | [c0, c1, c2], _ =>
    simp at e0 e1 e2
    subst e0 e1 e2
    exact ⟨⟨x0, x1, x2⟩, rfl⟩
theorem list9 {α : Type} {cs : List α} (h : cs.length = 9) : ∃ c0 c1 c2 c3 c4 c5 c6 c7 c8, cs = [c0, c1, c2, c3, c4, c5, c6, c7, c8] := by
  match cs, h with
  | [c0, c1, c2, c3, c4, c5, c6, c7, c8], _ => exact ⟨c0, c1, c2, c3, c4, c5, c6, c7, c8, rfl⟩
end Go.Proofs.Ythpdlbcdbncnhaa
