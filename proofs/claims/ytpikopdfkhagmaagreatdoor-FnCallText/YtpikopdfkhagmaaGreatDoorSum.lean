/-
  Sums of parts without loss: the plain arithmetic. No Go in sight.
  Sums of parts of time: contracts of the functions that add parts up, of the program and of the model.
  Lists of parts of time: the law's own helpers: a copy is made, two are held against each other, how long one is.
  SumTwo drawn numbers.
  Drawn parts of time: contracts of the model's draws of chapter 1.
  The system, as a plain record, and what chapter 9 asks of it.
  A trace as a plain list: what was used and what was idle are all its turns.
  An element of a row of one's own is written over.
  Rows of ghosts and of turns: the laws' own helpers.
-/
import Derived.Test.YtpikopdfkhagmaaGreatDoorRows
import Derived.Test.YtpikopdfkhagmaaGreatDoorCur
import Derived.Test.YtpikopdfkhagmaaGreatDoorLate2
import Derived.Deep.OwnRows
import Derived.Deep.AppendLies
import Derived.Test.YtpikopdfkhagmaaGreatDoorPickPure
import Derived.Test.YtpikopdfkhagmaaGreatDoorPutC
import Derived.Test.YtpikopdfkhagmaaGreatDoorOwn
import Derived.Deep.RegionHeld3
namespace Go.Proofs.YtpikopdfkhagmaaGreatDoor.Plain

/-- One part more: the sum in lowest terms. -/
def stepQ (s x : Int × Int) : Int × Int :=
  ((s.1 * x.2 + x.1 * s.2) / (Int.gcd (s.1 * x.2 + x.1 * s.2) (s.2 * x.2) : Int), (s.2 * x.2) / (Int.gcd (s.1 * x.2 + x.1 * s.2) (s.2 * x.2) : Int))
def sumI (xs : List (Int × Int)) : Int × Int := xs.foldl stepQ (0, 1)
theorem sumI_snoc (xs : List (Int × Int)) (x : Int × Int) : sumI (xs ++ [x]) = stepQ (sumI xs) x := by simp [sumI]
theorem sumI_take (xs : List (Int × Int)) (k : Nat) (h : k < xs.length) : sumI (xs.take (k + 1)) = stepQ (sumI (xs.take k)) (xs.getD k (0, 0)) := by
  rw [List.take_succ_eq_append_getElem h, sumI_snoc]; simp [h]

/-- What a sum of k parts keeps to. -/
def Inv (k : Nat) (s : Int × Int) : Prop := 0 ≤ s.1 ∧ 1 ≤ s.2 ∧ s.2 ≤ ((40 ^ k : Nat) : Int) ∧ s.1 ≤ (k : Int) * s.2

theorem inv_zero : Inv 0 (0, 1) := by simp [Inv]

theorem div_parts (n d g : Int) (_hg : 1 ≤ g) (hn : g ∣ n) (hd : g ∣ d) : n = g * (n / g) ∧ d = g * (d / g) := ⟨(Int.mul_ediv_cancel' hn).symm, (Int.mul_ediv_cancel' hd).symm⟩

theorem mul_le_mono {a b c : Int} (h : a ≤ b) (hc : 0 ≤ c) : a * c ≤ b * c := Int.mul_le_mul_of_nonneg_right h hc
theorem mul_le_mono' {a b c : Int} (h : a ≤ b) (hc : 0 ≤ c) : c * a ≤ c * b := Int.mul_le_mul_of_nonneg_left h hc

theorem step_inv {k : Nat} {n d q p : Int} (h : Inv k (n, d)) (hp1 : 1 ≤ p) (hp2 : p ≤ 40) (hq1 : 1 ≤ q) (hq2 : q ≤ p) :
    1 ≤ (Int.gcd (n * p + q * d) (d * p) : Int) ∧ (Int.gcd (n * p + q * d) (d * p) : Int) ≤ d * p ∧ 0 ≤ n * p ∧ 0 ≤ q * d ∧ 1 ≤ d * p ∧ n * p + q * d ≤ (k + 1 : Int) * (d * p) ∧ n * p ≤ (k : Int) * (d * p) ∧ q * d ≤ d * p ∧ d * p ≤ ((40 ^ (k + 1) : Nat) : Int) ∧ Inv (k + 1) (stepQ (n, d) (q, p)) := by
  obtain ⟨h1, h2, h3, h4⟩ := h
  simp only at h1 h2 h3 h4
  have a1 : 0 ≤ n * p := Int.mul_nonneg h1 (by omega)
  have a2 : 0 ≤ q * d := Int.mul_nonneg (by omega) (by omega)
  have a3 : 1 * 1 ≤ d * p := Int.mul_le_mul h2 hp1 (by omega) (by omega)
  have a4 : n * p ≤ ((k : Int) * d) * p := mul_le_mono h4 (by omega)
  have a5 : q * d ≤ p * d := mul_le_mono hq2 (by omega)
  have a6 : ((k : Int) * d) * p = (k : Int) * (d * p) := Int.mul_assoc _ _ _
  have a7 : p * d = d * p := Int.mul_comm _ _
  have a8 : (k + 1 : Int) * (d * p) = (k : Int) * (d * p) + d * p := by rw [Int.add_mul, Int.one_mul]
  have a9 : d * p ≤ ((40 ^ k : Nat) : Int) * p := mul_le_mono h3 (by omega)
  have a10 : ((40 ^ k : Nat) : Int) * p ≤ ((40 ^ k : Nat) : Int) * 40 := mul_le_mono' hp2 (by omega)
  have a11 : ((40 ^ (k + 1) : Nat) : Int) = ((40 ^ k : Nat) : Int) * 40 := by rw [Nat.pow_succ]; exact Int.natCast_mul _ _
  have g0 : 0 < Int.gcd (n * p + q * d) (d * p) := Int.gcd_pos_of_ne_zero_right _ (by omega)
  have gd := Int.gcd_dvd_right (n * p + q * d) (d * p)
  have gn := Int.gcd_dvd_left (n * p + q * d) (d * p)
  have gle := Int.le_of_dvd (by omega) gd
  unfold Inv stepQ
  simp only
  generalize (Int.gcd (n * p + q * d) (d * p) : Nat) = g at *
  obtain ⟨e1, e2⟩ := div_parts _ _ (g : Int) (by omega) gn gd
  have f1 : 0 ≤ (n * p + q * d) / (g : Int) := Int.ediv_nonneg (by omega) (by omega)
  have f2 : 0 < (d * p) / (g : Int) := Int.ediv_pos_of_pos_of_dvd (by omega) (by omega) gd
  have f3 : (d * p) / (g : Int) ≤ d * p := Int.ediv_le_self _ (by omega)
  generalize (n * p + q * d) / (g : Int) = n' at *
  generalize (d * p) / (g : Int) = d' at *
  refine ⟨by omega, by omega, a1, a2, by omega, by omega, by omega, by omega, by omega, f1, by omega, by omega, ?_⟩
  have c1 : n * p + q * d ≤ (k + 1 : Int) * (d * p) := by omega
  rw [e1, e2] at c1
  have c2 : (k + 1 : Int) * ((g : Int) * d') = (g : Int) * ((k + 1 : Int) * d') := Int.mul_left_comm _ _ _
  rw [c2] at c1
  have := Int.le_of_mul_le_mul_left c1 (by omega)
  simpa using this

theorem pow40 {k : Nat} (h : k ≤ 7) : ((40 ^ k : Nat) : Int) ≤ 163840000000 := by
  have : 40 ^ k ≤ 40 ^ 7 := Nat.pow_le_pow_right (by omega) h
  omega

theorem step_bd {k : Nat} {n d q p : Int} (h : Inv k (n, d)) (hk : k < 7) (hp1 : 1 ≤ p) (hp2 : p ≤ 40) (hq1 : 1 ≤ q) (hq2 : q ≤ p) :
    0 ≤ n * p ∧ n * p ≤ 1146880000000 ∧ 0 ≤ q * d ∧ q * d ≤ 163840000000 ∧ 1 ≤ d * p ∧ d * p ≤ 163840000000 ∧ 1 ≤ (Int.gcd (n * p + q * d) (d * p) : Int) ∧ (Int.gcd (n * p + q * d) (d * p) : Int) ≤ 163840000000 := by
  obtain ⟨a1, a2, a3, a4, a5, a6, a7, a8, a9, _⟩ := step_inv h hp1 hp2 hq1 hq2
  have := pow40 (k := k + 1) (by omega)
  have : (k : Int) * (d * p) ≤ 7 * (d * p) := mul_le_mono (by omega) (by omega)
  omega
theorem step_next {k : Nat} {n d q p : Int} (h : Inv k (n, d)) (hp1 : 1 ≤ p) (hp2 : p ≤ 40) (hq1 : 1 ≤ q) (hq2 : q ≤ p) : Inv (k + 1) (stepQ (n, d) (q, p)) := (step_inv h hp1 hp2 hq1 hq2).2.2.2.2.2.2.2.2.2
end Go.Proofs.YtpikopdfkhagmaaGreatDoor.Plain
namespace Go.Proofs.YtpikopdfkhagmaaGreatDoor
open Go.RowKit
attribute [local go_sem] Keeps.refl Keeps.alloc Keeps.drew Keeps.drewN

/-- The parts xs lie in the world, one behind the other, from the address on. -/
def Sh (w : World) (a : Option Addr) (xs : List (Int × Int)) : Prop :=
  xs = [] ∨ ∃ b off, a = some ⟨b, off, none⟩ ∧ ∀ i, i < xs.length → w.cell? ⟨b, off + i * 2, none⟩ = some (.int .i64 (xs.getD i (0, 0)).1) ∧ w.cell? ⟨b, off + i * 2 + 1, none⟩ = some (.int .i64 (xs.getD i (0, 0)).2)
theorem Sh.keeps {w w' : World} {a : Option Addr} {xs : List (Int × Int)} (h : Sh w a xs) (k : Keeps w w') : Sh w' a xs := by
  rcases h with h | ⟨b, off, rfl, h⟩
  · exact .inl h
  · exact .inr ⟨b, off, rfl, fun i hi => ⟨Keeps.has (h i hi).1 _ k, Keeps.has (h i hi).2 _ k⟩⟩
theorem Sh.at {w : World} {a : Option Addr} {xs : List (Int × Int)} (h : Sh w a xs) {i : Nat} (hi : i < xs.length) :
    ∃ b off q p, a = some ⟨b, off, none⟩ ∧ xs.getD i (0, 0) = (q, p) ∧ w.cell? ⟨b, off + i * 2, none⟩ = some (.int .i64 q) ∧ w.cell? ⟨b, off + i * 2 + 1, none⟩ = some (.int .i64 p) := by
  rcases h with rfl | ⟨b, off, rfl, h⟩
  · simp at hi
  · exact ⟨b, off, _, _, rfl, rfl, (h i hi).1, (h i hi).2⟩

/-- All are right. -/
def okAll (xs : List (Int × Int)) : Bool := xs.all fun x => okB x.1 x.2
theorem okAll_snoc (xs : List (Int × Int)) (k : Nat) (h : k < xs.length) : okAll (xs.take (k + 1)) = (okAll (xs.take k) && okB (xs.getD k (0, 0)).1 (xs.getD k (0, 0)).2) := by
  rw [List.take_succ_eq_append_getElem h, okAll, List.all_append]; simp [okAll, h]
theorem okAll_no {xs : List (Int × Int)} {k : Nat} (h : k < xs.length) (hk : okB (xs.getD k (0, 0)).1 (xs.getD k (0, 0)).2 = false) : okAll xs = false := by
  rw [okAll, List.all_eq_false]
  refine ⟨xs[k], List.getElem_mem h, ?_⟩
  have e : xs.getD k (0, 0) = xs[k] := by simp [h]
  rw [e] at hk; simp [hk]
def canSumB (xs : List (Int × Int)) : Bool := decide (xs.length ≤ 7) && okAll xs

set_option maxRecDepth 100000 in
theorem l1Gcd_int (a b : Int) (w : World) (ha : 0 ≤ a) (ha' : a ≤ 9223372036854775807) (hb : 0 ≤ b) (hb' : b ≤ 9223372036854775807) :
    Calls Tryz.prog 110 #[.int .i64 a, .int .i64 b] w fun e w' => e = .returned (.int .i64 (Int.gcd a b)) ∧ Quiet w w' := by
  obtain ⟨x, rfl⟩ := Int.eq_ofNat_of_zero_le ha
  obtain ⟨y, rfl⟩ := Int.eq_ofNat_of_zero_le hb
  exact l1Gcd_any x y w (by omega) (by omega)
open Plain

/-- A block of two cells that may be written. -/
def SumTwo (w : World) (b : Nat) (v0 v1 : Value) : Prop := w.cell? ⟨b, 0, none⟩ = some v0 ∧ w.cell? ⟨b, 1, none⟩ = some v1 ∧ w.frozen? ⟨b, 0, none⟩ = false ∧ w.frozen? ⟨b, 1, none⟩ = false

theorem SumTwo.rules {w : World} {b : Nat} {v0 v1 : Value} (h : SumTwo w b v0 v1) : (∀ w', Keeps w w' → w'.cell? ⟨b, 0, none⟩ = some v0) ∧ (∀ w', Keeps w w' → w'.cell? ⟨b, 1, none⟩ = some v1) ∧ (∀ w', Keeps w w' → w'.frozen? ⟨b, 0, none⟩ = false) ∧ ∀ w', Keeps w w' → w'.frozen? ⟨b, 1, none⟩ = false := by
  obtain ⟨h1, h2, h3, h4⟩ := h
  have hb : b < w.heap.size := World.block_lt_of_cell? w _ h1
  exact ⟨Keeps.has h1, Keeps.has h2, fun w' k => (k.frozens b 0 hb).trans h3, fun w' k => (k.frozens b 1 hb).trans h4⟩
theorem SumTwo.keeps {w w' : World} {b : Nat} {v0 v1 : Value} (h : SumTwo w b v0 v1) (k : Keeps w w') : SumTwo w' b v0 v1 :=
  ⟨h.rules.1 _ k, h.rules.2.1 _ k, h.rules.2.2.1 _ k, h.rules.2.2.2 _ k⟩
theorem SumTwo.set {w : World} {b : Nat} {v0 v1 : Value} (h : SumTwo w b v0 v1) (x y : Value) : SumTwo ((w.setCell ⟨b, 0, none⟩ x).setCell ⟨b, 1, none⟩ y) b x y := by
  obtain ⟨h1, h2, h3, h4⟩ := h
  have e2 : (w.setCell ⟨b, 0, none⟩ x).cell? ⟨b, 1, none⟩ = some v1 := by rw [setCell_other (by omega), h2]
  exact ⟨by rw [setCell_other (by omega), setCell_same h1], setCell_same e2 _, by simp [h3], by simp [h4]⟩
theorem SumTwo.other {w : World} {b c : Nat} {v0 v1 : Value} (h : SumTwo w b v0 v1) (hc : c ≠ b) (x y : Value) : SumTwo ((w.setCell ⟨c, 0, none⟩ x).setCell ⟨c, 1, none⟩ y) b v0 v1 := by
  obtain ⟨h1, h2, h3, h4⟩ := h
  exact ⟨by rw [setCell_other (by omega), setCell_other (by omega), h1], by rw [setCell_other (by omega), setCell_other (by omega), h2], by simp [h3], by simp [h4]⟩
theorem SumTwo.lt {w : World} {b : Nat} {v0 v1 : Value} (h : SumTwo w b v0 v1) : b < w.heap.size := World.block_lt_of_cell? w _ h.1

/-- What SumOf answers. -/
def sumOfV (xs : List (Int × Int)) : Int × Int × Bool := if canSumB xs then ((sumI xs).1, (sumI xs).2, true) else (0, 0, false)
theorem sumOfV_no {xs : List (Int × Int)} (h : canSumB xs = false) : sumOfV xs = (0, 0, false) := by simp [sumOfV, h]
theorem sumOfV_yes {xs : List (Int × Int)} (h : canSumB xs = true) : sumOfV xs = ((sumI xs).1, (sumI xs).2, true) := by simp [sumOfV, h]
theorem canSumB_iff {xs : List (Int × Int)} : canSumB xs = true ↔ xs.length ≤ 7 ∧ okAll xs = true := by simp [canSumB]

end Go.Proofs.YtpikopdfkhagmaaGreatDoor
namespace Go.Proofs.YtpikopdfkhagmaaGreatDoor
open Go.RowKit Plain
attribute [local go_sem] Keeps.refl Keeps.alloc Keeps.drew Keeps.drewN

end Go.Proofs.YtpikopdfkhagmaaGreatDoor
namespace Go.Proofs.YtpikopdfkhagmaaGreatDoor
open Go.RowKit

end Go.Proofs.YtpikopdfkhagmaaGreatDoor
namespace Go.Proofs.YtpikopdfkhagmaaGreatDoor
open Go.RowKit
attribute [local go_sem] Keeps.refl Keeps.alloc Keeps.drew Keeps.drewN

theorem SumTwo.but {g : Nat} {w w' : World} {b : Nat} {v0 v1 : Value} (h : SumTwo w b v0 v1) (k : KeepsBut g w w') (hg : b ≠ g) : SumTwo w' b v0 v1 := by
  have hb := h.lt
  obtain ⟨h1, h2, h3, h4⟩ := h
  exact ⟨KeepsBut.has hg h1 _ k, KeepsBut.has hg h2 _ k, (World.frozen?_of_block (w := w) (k.block b hb hg)).trans h3, (World.frozen?_of_block (w := w) (k.block b hb hg)).trans h4⟩
theorem SumTwo.far {w : World} {b c o : Nat} {v0 v1 : Value} (h : SumTwo w b v0 v1) (hc : c ≠ b) (x : Value) : SumTwo (w.setCell ⟨c, o, none⟩ x) b v0 v1 := by
  obtain ⟨h1, h2, h3, h4⟩ := h
  exact ⟨by rw [setCell_other (by omega), h1], by rw [setCell_other (by omega), h2], by simp [h3], by simp [h4]⟩
theorem SumTwo.new (w : World) (v0 v1 : Value) (t : TypeId) : SumTwo (w.alloc (.cells #[v0, v1] t)) w.heap.size v0 v1 := by simp [SumTwo, go_sem]
theorem SumTwo.alloc {w : World} {b : Nat} {v0 v1 : Value} (h : SumTwo w b v0 v1) (o : Obj) : SumTwo (w.alloc o) b v0 v1 := h.keeps ((Keeps.refl w).alloc o)
/-- What the end of a draw of one part needs: the part in block s, room for the answer in block r. -/
structure At (g : Nat) (w W : World) (r s : Nat) (q p : Int) : Prop where
  cur : Cur W g
  keep : KeepsBut g w W
  res : SumTwo W r (.int .i64 0) (.int .i64 0)
  part : SumTwo W s (.int .i64 q) (.int .i64 p)
  gr : g < r
  rs : r < s
  wr : w.heap.size ≤ r
theorem At.but {g : Nat} {w W W' : World} {r s : Nat} {q p : Int} (h : At g w W r s q p) (hc : Cur W' g) (k : KeepsBut g W W') : At g w W' r s q p :=
  ⟨hc, h.keep.trans k, h.res.but k (by have := h.gr; omega), h.part.but k (by have := h.gr; have := h.rs; omega), h.gr, h.rs, h.wr⟩
theorem At.done {g : Nat} {w W : World} {r s : Nat} {q p : Int} (h : At g w W r s q p) (x y : Value) : Cur ((W.setCell ⟨r, 0, none⟩ x).setCell ⟨r, 1, none⟩ y) g ∧ KeepsBut g w ((W.setCell ⟨r, 0, none⟩ x).setCell ⟨r, 1, none⟩ y) :=
  ⟨(h.cur.setNew h.gr _ _).setNew h.gr _ _, (h.keep.setNew h.wr _).setNew h.wr _⟩

end Go.Proofs.YtpikopdfkhagmaaGreatDoor
namespace Go.Proofs.YtpikopdfkhagmaaGreatDoor
open Go.RowKit

/-- A part of time that is still counted. -/
structure Gh where
  cpu : Int
  q : Int
  p : Int
  til : Int
/-- A turn. -/
structure Tn where
  cpu : Int
  ctx : Int
  exe : Int
/-- A system. -/
structure Sy where
  now : Int
  cpus : Int
  tasks : List Tsk
  locks : List Lk
  ghosts : List Gh
  floors : List Int
  seq : Int
  missed : Int
  trace : List Tn
def Gh.zero : Gh := ⟨0, 0, 0, 0⟩
def Tn.zero : Tn := ⟨0, 0, 0⟩
def Sy.zero : Sy := ⟨0, 0, [], [], [], [], 0, 0, []⟩
/-- Who waits for the lock is a task of the processor cpu. -/
def onCpu (ts : List Tsk) (cpu : Int) (x : Int) : Bool := thereB ts x && (tAt ts x).cpu == cpu
def lockOnB (ts : List Tsk) (l : Lk) : Bool := l.owner == 0 || (thereB ts l.owner && l.waits.all (onCpu ts (tAt ts l.owner).cpu))
def sysLocksB (s : Sy) : Bool := s.locks.length == 5 && (locksB s.locks && s.locks.all (lockOnB s.tasks))
/-- A task with a deadline of that processor. -/
def dueOn (cpu : Int) (t : Tsk) : Bool := t.cpu == cpu && t.cls == 1
def partT (t : Tsk) : Int × Int := (t.q, t.p)
def ghOn (cpu : Int) (g : Gh) : Bool := g.cpu == cpu
def partG (g : Gh) : Int × Int := (g.q, g.p)
def sharesL (s : Sy) (cpu : Int) : List (Int × Int) := (s.tasks.filter (dueOn cpu)).map partT ++ (s.ghosts.filter (ghOn cpu)).map partG
def ghB (cpus : Int) (g : Gh) : Bool := inB g.cpu 0 (cpus - 1) && (okB g.q g.p && inB g.til 0 100040)
def ghostsB (s : Sy) : Bool := s.ghosts.all (ghB s.cpus) && decide (s.ghosts.length ≤ 12)
def fitsL (xs : List (Int × Int)) : Bool := canSumB xs && decide ((Plain.sumI xs).1 ≤ (Plain.sumI xs).2)
def headSB (s : Sy) : Bool := inB s.now 0 100000 && (inB s.cpus 1 4 && (tasksB s.tasks && (sysLocksB s && (ghostsB s && ((s.floors.length : Int) == s.cpus && (inB s.seq 0 1000000 && (inB s.missed 0 100000 && decide (s.trace.length ≤ 400))))))))
def floorI (s : Sy) (cpu : Int) : Int := if inB cpu 0 ((s.floors.length : Int) - 1) then s.floors.getD cpu.toNat 0 else 0
def cpuB (s : Sy) (cpu : Nat) : Bool := inB (s.floors.getD cpu 0) 0 100000000 && fitsL (sharesL s cpu)
def sysB (s : Sy) : Bool := headSB s && (s.tasks.all (fun t => decide (t.cpu < s.cpus)) && (List.range s.cpus.toNat).all (cpuB s))
def newS (cpus : Int) : Sy := if inB cpus 1 4 then { Sy.zero with cpus := cpus, locks := List.replicate 5 ⟨0, []⟩, floors := List.replicate cpus.toNat 0 } else Sy.zero
def sameB (s : Sy) (i no : Int) : Bool := inB i 0 ((s.locks.length : Int) - 1) && (thereB s.tasks no && (ownerAt s.locks i.toNat == 0 || (thereB s.tasks (ownerAt s.locks i.toNat) && (tAt s.tasks (ownerAt s.locks i.toNat)).cpu == (tAt s.tasks no).cpu)))
end Go.Proofs.YtpikopdfkhagmaaGreatDoor
namespace Go.Proofs.YtpikopdfkhagmaaGreatDoor
open Go.RowKit

def turnIn (t : Tn) : Prop := (0 ≤ t.cpu ∧ t.cpu < 4) ∧ 0 ≤ t.ctx ∧ t.ctx ≤ 40
end Go.Proofs.YtpikopdfkhagmaaGreatDoor
namespace Go.Proofs.YtpikopdfkhagmaaGreatDoor
open Go.RowKit

/-- From the place k on stand these values. -/
def setLs (xs : List Value) (k : Nat) : List Value → List Value
  | [] => xs
  | v :: r => setLs (xs.set k v) (k + 1) r
theorem setLs_right (A : List Value) : ∀ (L B : List Value) (k : Nat), setLs (A ++ B) (A.length + k) L = A ++ setLs B k L
  | [], _, _ => rfl
  | v :: r, B, k => by
    rw [setLs, setLs, List.set_append_right _ _ (by omega), Nat.add_assoc, show A.length + k - A.length = k by omega]
    exact setLs_right A r (B.set k v) (k + 1)
theorem setLs_all : ∀ (L A B : List Value), A.length = L.length → setLs (A ++ B) 0 L = L ++ B
  | [], A, B, h => by
    have : A = [] := List.length_eq_zero_iff.1 h
    subst this
    rfl
  | v :: r, [], B, h => by simp at h
  | v :: r, a :: A, B, h => by
    have h1 := setLs_right [v] r (A ++ B) 0
    have h2 := setLs_all r A B (by simpa using h)
    rw [setLs]
    simp only [List.cons_append, List.set_cons_zero, List.nil_append, List.length_singleton, Nat.add_zero, Nat.zero_add] at h1 ⊢
    rw [h1, h2]
theorem setLs_flat {α : Type} {c : α → Array Value} {sz : Nat} (hc : ∀ x, (c x).size = sz) (x : α) : ∀ (xs : List α) (i : Nat), i < xs.length → setLs (flatC c xs) (i * sz) (c x).toList = flatC c (xs.set i x)
  | [], i, h => by simp at h
  | y :: r, 0, _ => by
    have e : flatC c (y :: r) = (c y).toList ++ flatC c r := rfl
    have e' : flatC c ((y :: r).set 0 x) = (c x).toList ++ flatC c r := rfl
    rw [e, e', Nat.zero_mul]
    exact setLs_all _ _ _ (by simp [hc])
  | y :: r, i + 1, h => by
    have e : flatC c (y :: r) = (c y).toList ++ flatC c r := rfl
    have e' : flatC c ((y :: r).set (i + 1) x) = (c y).toList ++ flatC c (r.set i x) := rfl
    have hl : (i + 1) * sz = (c y).toList.length + i * sz := by rw [Array.length_toList, hc, Nat.add_mul, Nat.one_mul, Nat.add_comm]
    rw [e, e', hl, setLs_right, setLs_flat hc x r i (by simpa using h)]
theorem ownsRow_putC {base : Nat} {e : TypeId} {size g n cap : Nat} : ∀ (L : List Value) (w : World) (k : Nat) (xs : List Value), w.ownsRow base e size (.slice (some ⟨g, 0, none⟩) n cap) n xs →
    (putC w g k L).ownsRow base e size (.slice (some ⟨g, 0, none⟩) n cap) n (setLs xs k L)
  | [], _, _, _, h => h
  | v :: r, _, k, _, h => ownsRow_putC r _ (k + 1) _ (h.stored k v).1
/-- The element i is another one now. -/
theorem Own.put {α : Type} {e : TypeId} {sz : Nat} {c : α → Array Value} {w : World} {base b cap : Nat} {xs : List α} (hc : ∀ x, (c x).size = sz) (h : Own e sz c w base (.slice (Option.some ⟨b, 0, none⟩) xs.length cap) xs) {i : Nat} (hi : i < xs.length) (x : α) :
    Own e sz c (putC w b (i * sz) (c x).toList) base (.slice (Option.some ⟨b, 0, none⟩) (xs.set i x).length cap) (xs.set i x) := by
  unfold Own at h ⊢
  rw [← setLs_flat hc x xs i hi, List.length_set]
  exact ownsRow_putC _ _ _ _ h
end Go.Proofs.YtpikopdfkhagmaaGreatDoor
namespace Go.Proofs.YtpikopdfkhagmaaGreatDoor
open Go.RowKit
attribute [local go_sem] Keeps.refl Keeps.alloc Keeps.drew Keeps.drewN

abbrev ghc (g : Gh) : Array Value := #[.int .i64 g.cpu, .int .i64 g.q, .int .i64 g.p, .int .i64 g.til]
abbrev tnc (t : Tn) : Array Value := #[.int .i64 t.cpu, .int .i64 t.ctx, .int .i64 t.exe]
theorem ghc_size (g : Gh) : (ghc g).size = 4 := rfl
theorem tnc_size (t : Tn) : (tnc t).size = 3 := rfl
theorem ghc_one (g : Gh) : ∀ u ∈ (ghc g).toList, u.oneCell' = true := by
  intro u hu
  simp at hu
  rcases hu with rfl | rfl | rfl | rfl <;> rfl
theorem tnc_one (t : Tn) : ∀ u ∈ (tnc t).toList, u.oneCell' = true := by
  intro u hu
  simp at hu
  rcases hu with rfl | rfl | rfl <;> rfl
/-- The ghosts gs lie there; the turns rs lie there. -/
abbrev Gs (w : World) (a : Option Addr) (gs : List Gh) : Prop := Lies 4 ghc w a gs
abbrev Rs (w : World) (a : Option Addr) (rs : List Tn) : Prop := Lies 3 tnc w a rs
/-- What make lays is a row of zero values. -/
theorem flat_zeros {α : Type} {c : α → Array Value} {sz : Nat} (hc : ∀ x, (c x).size = sz) (hsz : 0 < sz) (z : α) (n : Nat) : (madeCells (c z) (n * sz)).toList = flatC c (List.replicate n z) := by
  apply List.ext_getElem?
  intro j
  by_cases hj : j < n * sz
  · have hq : j / sz < n := Nat.div_lt_of_lt_mul (by rw [Nat.mul_comm]; exact hj)
    have hm : j % sz < sz := Nat.mod_lt _ hsz
    have hjj : j / sz * sz + j % sz = j := by rw [Nat.mul_comm]; exact Nat.div_add_mod j sz
    have h := flatC_at hc (List.replicate n z) (j / sz) z (by simp [hq]) (j % sz) hm
    rw [hjj] at h
    rw [h]
    simp only [madeCells, Array.getElem?_toList, Array.getElem?_map, Array.getElem?_range, hj, if_true, Option.map_some, hc]
    rw [Array.getElem?_eq_getElem (by rw [hc]; exact hm)]
    simp [hc, hm]
  · rw [List.getElem?_eq_none (by simpa [madeCells] using hj), List.getElem?_eq_none]
    have := flatC_length hc (List.replicate n z)
    simp at this
    omega
theorem Own.zeros {α : Type} {e : TypeId} {c : α → Array Value} {sz : Nat} (hc : ∀ x, (c x).size = sz) (hsz : 0 < sz) (z : α) (w : World) (n : Nat) (hn : n ≤ maxLen) :
    Own e sz c (w.alloc (.cells (madeCells (c z) (n * sz)) e)) w.heap.size (.slice (Option.some ⟨w.heap.size, 0, none⟩) n n) (List.replicate n z) := by
  have h := World.ownsRow_lit (e := e) (size := sz) (base := w.heap.size) w (madeCells (c z) (n * sz)) n (Nat.le_refl _) hn (size_madeCells _ _)
  rw [flat_zeros hc hsz] at h
  unfold Own
  rw [List.length_replicate]
  exact h
end Go.Proofs.YtpikopdfkhagmaaGreatDoor
