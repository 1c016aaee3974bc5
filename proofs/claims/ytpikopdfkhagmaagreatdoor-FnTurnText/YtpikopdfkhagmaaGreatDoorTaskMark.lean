/-
  Locks: the contract of the model's freeing one.
  How much is left of what may be asked, once some locks are counted.
  The system: the laws' own helpers.
  The system: the laws' own copy of it.
  The system: two that are alike.
  Lists of tasks are marked, and looked at again: the laws' own helpers.
  Rows of locks are marked, and looked at again.
  The walks of the exact laws of chapter 7, over contracts of the program's functions.
  The system: its rows are marked, and looked at again.
  The walks of the exact laws over ChainOf, LockAsk and LockFree, over contracts of the program's functions.
  Drawn locks: the contract of the model's l7DrawRight.
  Drawn locks that may be wrong in one place: the contract of the model's l7Draw.
-/
import Derived.Test.YtpikopdfkhagmaaGreatDoorLockAsk
import Derived.Test.YtpikopdfkhagmaaGreatDoorPutC
import Derived.Test.YtpikopdfkhagmaaGreatDoorSysCopy
import Derived.Test.YtpikopdfkhagmaaGreatDoorTasksOkS
import Derived.Test.YtpikopdfkhagmaaGreatDoorCur
import Derived.Test.YtpikopdfkhagmaaGreatDoorPickSpec2
import Derived.Test.YtpikopdfkhagmaaGreatDoorPickPure
import Derived.Test.YtpikopdfkhagmaaGreatDoorOwn
import Derived.Deep.DeepCutAuto
import Derived.Deep.CutBlock
import Derived.Deep.RegionHeld3
namespace Go.Proofs.YtpikopdfkhagmaaGreatDoor
open Go.RowKit
attribute [local go_sem] Keeps.refl Keeps.alloc Keeps.drew Keeps.drewN

set_option maxRecDepth 100000 in
set_option maxHeartbeats 8000000 in
theorem specLockFree_any (a : Option Addr) (cap : Nat) (ls : List Lk) (i no next : Int) (w : World) (hl : sizeN ls ≤ 2097152) (hs : Lks true w a ls) :
    Calls Tryz.prog 99 #[.slice a ls.length cap, .int .i64 i, .int .i64 no, .int .i64 next] w fun e w' => ∃ v vs, e = .returned (.tuple #[v, .bool (freeB ls i no next)]) ∧ Mine w' w.heap.size w'.heap.size v vs (freeL ls i no next) ∧ Keeps w w' := by
  have HL : Hid (sizeN ls ≤ 2097152) := hl
  have hl0 : ls.length ≤ 2097152 := by unfold sizeN at hl; omega
  clear hl
  have HS : Hid (Lks true w a ls) := hs
  clear hs
  have LO : Hid (∀ w', Keeps w w' → Calls Tryz.prog 86 #[.slice a ls.length cap] w' fun e w'' => e = .returned (.bool (locksB ls)) ∧ Keeps w' w'') := fun w' h => specLocksOk_any a cap ls w' HL.out (HS.out.keeps h)
  have CP : Hid (∀ w', Keeps w w' → Calls Tryz.prog 80 #[.slice a ls.length cap] w' fun e w'' => ∃ v vs, e = .returned v ∧ Mine w'' w'.heap.size w''.heap.size v vs ls ∧ Keeps w' w'') := fun w' h => specCopy_any a cap ls w' HL.out (HS.out.keeps h)
  generalize hn : ls.length = n at hl0
  have Hn : Hid (ls.length = n) := hn
  rw [hn] at LO CP
  clear hn
  cases hb : locksB ls
  · have Hr : Hid (freeB ls i no next = false) := by show _ = _; unfold freeB; rw [hb]; rfl
    have Hq : Hid (freeL ls i no next = []) := by show _ = _; unfold freeL; rw [hb]; rfl
    rw [hb] at LO
    go_enter Tryz.func99, Tryz.ntmps99
    go_wp2_with (go_at_call 86; refine (LO.out _ (Keeps.refl _)).mono ?_; rintro e w1 ⟨rfl, k1⟩)
    go_ret2
    refine ⟨_, [], by rw [Hr.out]; rfl, ?_, k1.alloc _⟩
    rw [Hq.out]
    exact Mine.none _ _ _ _ (Own.new 92 2 lvc w1 k1.size) (fun q hq => by simp [Value.ownBlock] at hq; simp; omega)
  rw [hb] at LO
  go_enter Tryz.func99, Tryz.ntmps99
  go_wp2_with (first
    | (go_at_call 86; refine (LO.out _ (Keeps.refl _)).mono ?_; rintro e w1 ⟨rfl, k1⟩)
    | fail)
  refine (CP.out _ k1).mono ?_
  rintro e w2 ⟨v, vs, rfl, M0, k2⟩
  have M : Hid (Mine w2 w.heap.size w2.heap.size v vs ls) := M0.widen k1.size (Nat.le_refl _)
  have K2 : Keeps w w2 := k1.trans k2
  clear M0 k1 k2 LO CP
  have ewrap : IntKind.i64.wrap ((n : Int) - 1) = (n : Int) - 1 := Go.IntWalk.i64_in _ (by omega)
  have BAD : Hid (∀ (_ : (inB i 0 ((n : Int) - 1) && (!(no == 0) && (ownerAt ls i.toNat == no && mayNext (waitsAt ls i.toNat) next))) = false), freeB ls i no next = false ∧ freeL ls i no next = ls) := by
    intro h
    have e1 : freeB ls i no next = false := by unfold freeB; rw [hb, Hn.out, h]; rfl
    refine ⟨e1, ?_⟩
    unfold freeL
    rw [hb, e1]; rfl
  cases c1 : inB i 0 ((n : Int) - 1)
  · have Hr := BAD.out (by rw [c1]; rfl)
    have Hr1 : Hid (freeB ls i no next = false) := Hr.1
    have Hr2 : Hid (freeL ls i no next = ls) := Hr.2
    clear Hr
    go_wp2_with (go_at_call 29; refine (l1In_any _ _ _ _).mono ?_; rintro e w' ⟨rfl, hw'⟩; have hw2 := hw'.symm; subst hw2)
    go_ret2
    exact ⟨_, vs, by rw [Hr1.out]; rfl, by rw [Hr2.out]; exact M.out, K2⟩
  cases c2 : (no == 0)
  rotate_left
  · have Hr := BAD.out (by rw [c2]; simp)
    have Hr1 : Hid (freeB ls i no next = false) := Hr.1
    have Hr2 : Hid (freeL ls i no next = ls) := Hr.2
    clear Hr
    go_wp2_with (go_at_call 29; refine (l1In_any _ _ _ _).mono ?_; rintro e w' ⟨rfl, hw'⟩; have hw2 := hw'.symm; subst hw2)
    go_ret2
    exact ⟨_, vs, by rw [Hr1.out]; rfl, by rw [Hr2.out]; exact M.out, K2⟩
  obtain ⟨h0, h1⟩ := inB_iff.1 c1
  obtain ⟨j, rfl⟩ : ∃ j : Nat, i = (j : Int) := ⟨i.toNat, by omega⟩
  have hj : j < n := by omega
  have hj' : (j : Int) < (n : Int) := by omega
  obtain ⟨l, hl1⟩ := some_in (xs := ls) (k := j) (by rw [Hn.out]; exact hj)
  obtain ⟨b, off, a', cap', rfl, r0, r1, hle, hns⟩ := HS.out.at hl1
  have Hl : Hid (ls[j]? = some l) := hl1
  have N1 : Hid (Ns w a' l.waits) := hns
  have Hle : Hid (l.waits.length ≤ maxLen) := hle
  have Ho : Hid (ownerAt ls (j : Int).toNat = l.owner) := by show _ = _; rw [Int.toNat_natCast]; exact ownerAt_of hl1
  have Hw : Hid (waitsAt ls (j : Int).toNat = l.waits) := by show _ = _; rw [Int.toNat_natCast]; simp [waitsAt, hl1]
  have hw1 : Hid (l.waits.length ≤ 2097152) := by show _ ≤ _; have := sumW_mem Hl.out; have := HL.out; unfold sizeN at this; omega
  clear hl1 hns hle h0 h1
  have eq0 : (l.owner == no) = !(l.owner != no) := by simp [bne]
  cases c4 : (l.owner != no)
  rotate_left
  · have Hr := BAD.out (by rw [Ho.out, eq0, c4]; simp)
    have Hr1 : Hid (freeB ls (j : Int) no next = false) := Hr.1
    have Hr2 : Hid (freeL ls (j : Int) no next = ls) := Hr.2
    clear Hr
    go_wp2_with (go_at_call 29; refine (l1In_any _ _ _ _).mono ?_; rintro e w' ⟨rfl, hw'⟩; have hw2 := hw'.symm; subst hw2)
    go_ret2
    exact ⟨_, vs, by rw [Hr1.out]; rfl, by rw [Hr2.out]; exact M.out, K2⟩
  have GO : Hid (freeB ls (j : Int) no next = mayNext l.waits next) := by
    show _ = _
    unfold freeB
    rw [hb, Hn.out, c1, c2, Ho.out, eq0, c4, Hw.out]
    rfl
  obtain ⟨m, Hm⟩ : ∃ m : Nat, Hid (l.waits.length = m) := ⟨_, rfl⟩
  have hm1 : m ≤ 2097152 := by rw [← Hm.out]; exact hw1.out
  rw [Hm.out] at r1
  have HA : Hid (∀ w', Keeps w w' → Calls Tryz.prog 95 #[.slice a' m cap', .int .i64 next] w' fun e w'' => e = .returned (.bool (hasB l.waits next)) ∧ Keeps w' w'') := by
    intro w' h
    have := specHas_any a' cap' l.waits next w' Hle.out (N1.out.keeps h)
    rwa [Hm.out] at this
  have LE : Hid (∀ w', Keeps w w' → Calls Tryz.prog 118 #[.slice a' m cap', .int .i64 next] w' fun e w'' => ∃ v, e = .returned v ∧ OwnN w'' w'.heap.size v (lessL l.waits next) ∧ Keeps w' w'') := by
    intro w' h
    have := specLess_any a' cap' l.waits next w' hw1.out (N1.out.keeps h)
    rwa [Hm.out] at this
  have MN : Hid (mayNext l.waits next = if (m : Int) == 0 then next == 0 else hasB l.waits next) := by
    show _ = _
    unfold mayNext
    rw [Hm.out]
    by_cases h : m = 0
    · subst h; rfl
    · rw [if_neg (by simpa using h), if_neg (by simp; omega)]
  have Hvn : Hid (vs.length = n) := M.out.len.trans Hn.out
  obtain ⟨b3, cap3, ev⟩ := M.out.own.blk (by rw [Hvn.out]; omega)
  rw [Hvn.out] at ev
  subst ev
  obtain ⟨x, hx⟩ := some_in (xs := vs) (k := j) (by rw [Hvn.out]; exact hj)
  have Hx : Hid (vs[j]? = some x) := hx
  have O0 : Own 92 2 lvc w2 w.heap.size (.slice (some ⟨b3, 0, none⟩) vs.length cap3) vs := by rw [Hvn.out]; exact M.out.own
  have bl : Hid (b3 < w2.heap.size) := (O0.ltb b3 rfl).2
  have bl0 : Hid (w.heap.size ≤ b3) := (O0.ltb b3 rfl).1
  have s0 : ∀ w', Keeps w2 w' → w'.cell? ⟨b3, j * 2, none⟩ = some (.int .i64 x.o) := Keeps.has (O0.cellAt lvc_size (k := 0) hx (by omega))
  have s1 : ∀ w', Keeps w2 w' → w'.cell? ⟨b3, j * 2 + 1, none⟩ = some x.row := Keeps.has (O0.cellAt lvc_size (k := 1) hx (by omega))
  have s2 : ∀ w', Keeps w2 w' → ∀ o, w'.frozen? ⟨b3, o, none⟩ = false := fun w' h o => (h.frozens _ _ bl.out).trans (O0.frozenAt o)
  clear O0 hx eq0
  obtain ⟨xo, xa, xn, xc⟩ := x
  dsimp only at s0 s1
  cases c3 : ((m : Int) == 0)
  · have m0 : decide (0 < m) = true := by simp at c3; simp; omega
    have m0' : (0 : Int) < (m : Int) := by simp at c3; omega
    cases c6 : hasB l.waits next
    · have Hr := BAD.out (by rw [Hw.out, MN.out, c3, c6]; simp)
      have Hr1 : Hid (freeB ls (j : Int) no next = false) := Hr.1
      have Hr2 : Hid (freeL ls (j : Int) no next = ls) := Hr.2
      clear Hr
      go_wp2_with (first | (go_at_call 29; refine (l1In_any _ _ _ _).mono ?_; rintro e w' ⟨rfl, hw'⟩; have hw2 := hw'.symm; subst hw2) | (go_at_call 95; refine (HA.out _ K2).mono ?_; rintro e w3 ⟨rfl, k3⟩; rw [c6]; have kk : Keeps w w3 := K2.trans k3))
      go_ret2
      exact ⟨_, vs, by rw [Hr1.out]; rfl, by rw [Hr2.out]; exact M.out.keeps k3 |>.widen (Nat.le_refl _) k3.size, kk⟩
    · have Hr1 : Hid (freeB ls (j : Int) no next = true) := by show _ = _; rw [GO.out, MN.out, c3, c6]; rfl
      have Hr2 : Hid (freeL ls (j : Int) no next = ls.set j ⟨next, lessL l.waits next⟩) := by show _ = _; unfold freeL; rw [hb, Hr1.out, Int.toNat_natCast, modify_set Hl.out (freed next)]; rfl
      go_wp2_with (first
        | (go_at_call 29; refine (l1In_any _ _ _ _).mono ?_; rintro e w' ⟨rfl, hw'⟩; have hw2 := hw'.symm; subst hw2)
        | (go_at_call 95; refine (HA.out _ K2).mono ?_; rintro e w3 ⟨rfl, k3⟩; rw [c6]; have kk : Keeps w w3 := K2.trans k3)
        | (go_at_call 118; refine (LE.out _ kk).mono ?_; rintro e w4 ⟨v4, rfl, O4, k4⟩; have kk4 : Keeps w w4 := kk.trans k4; have k24 : Keeps w2 w4 := k3.trans k4; obtain ⟨a4, c8, e4, -, -, -⟩ := OwnN.ns O4; obtain ⟨m4, Hm4⟩ : ∃ m, Hid ((lessL l.waits next).length = m) := ⟨_, rfl⟩; rw [Hm4.out] at e4; subst e4; have OH : Hid (OwnN w4 w3.heap.size (.slice a4 m4 c8) (lessL l.waits next)) := O4; clear O4))
      go_ret2
      refine ⟨_, vs.set j ⟨next, a4, m4, c8⟩, by rw [Hr1.out]; rfl, ?_, (kk4.setCell (p := ⟨b3, j * 2, none⟩) bl0.out _).setCell (p := ⟨b3, j * 2 + 1, none⟩) bl0.out _⟩
      rw [Hr2.out]
      have m4' : Mine w4 w.heap.size w3.heap.size (.slice (some ⟨b3, 0, none⟩) n cap3) vs ls := (M.out.keeps k24).widen (Nat.le_refl _) k3.size
      have hb4 : ∀ q, (Value.slice a4 m4 c8).ownBlock = some q → w3.heap.size ≤ q ∧ q < w4.heap.size := fun q hq => OH.out.ltb q hq
      have hn4 : ∀ q, (Value.slice a4 m4 c8).ownBlock = some q → q ≠ b3 := fun q hq => by have := (hb4 q hq).1; have := bl.out; have := k3.size; omega
      refine m4'.swap (x := ⟨xo, xa, xn, xc⟩) (y := ⟨next, a4, m4, c8⟩) Hx.out (m4'.own.setTwo Hx.out ⟨next, a4, m4, c8⟩) (fun q h1 h2 h3 => ?_) rfl ?_ (by have := k24.size; have := k3.size; have := k4.size; simp; omega) (fun q hq => .inl ⟨(hb4 q hq).1, by have := (hb4 q hq).2; simp; omega⟩)
      · have : q ≠ b3 := fun e => h1 (by rw [e]; rfl)
        rw [heap_setCell this, heap_setCell this]
      · refine Own.same (Own.base OH.out kk.size) fun q hq => ?_
        rw [heap_setCell (hn4 q hq), heap_setCell (hn4 q hq)]
  · have m0 : decide (0 < m) = false := by simp at c3; simp; omega
    have eqn : (next == 0) = !(next != 0) := by simp [bne]
    cases c6 : (next != 0)
    rotate_left
    · have Hr := BAD.out (by rw [Hw.out, MN.out, c3, eqn, c6]; simp)
      have Hr1 : Hid (freeB ls (j : Int) no next = false) := Hr.1
      have Hr2 : Hid (freeL ls (j : Int) no next = ls) := Hr.2
      clear Hr
      go_wp2_with (go_at_call 29; refine (l1In_any _ _ _ _).mono ?_; rintro e w' ⟨rfl, hw'⟩; have hw2 := hw'.symm; subst hw2)
      go_ret2
      exact ⟨_, vs, by rw [Hr1.out]; rfl, by rw [Hr2.out]; exact M.out, K2⟩
    · have Hr1 : Hid (freeB ls (j : Int) no next = true) := by show _ = _; rw [GO.out, MN.out, c3, eqn, c6]; rfl
      have Hr2 : Hid (freeL ls (j : Int) no next = ls.set j ⟨next, lessL l.waits next⟩) := by show _ = _; unfold freeL; rw [hb, Hr1.out, Int.toNat_natCast, modify_set Hl.out (freed next)]; rfl
      go_wp2_with (first
        | (go_at_call 29; refine (l1In_any _ _ _ _).mono ?_; rintro e w' ⟨rfl, hw'⟩; have hw2 := hw'.symm; subst hw2)
        | (go_at_call 118; refine (LE.out _ K2).mono ?_; rintro e w4 ⟨v4, rfl, O4, k4⟩; have kk4 : Keeps w w4 := K2.trans k4; have k24 : Keeps w2 w4 := k4; obtain ⟨a4, c8, e4, -, -, -⟩ := OwnN.ns O4; obtain ⟨m4, Hm4⟩ : ∃ m, Hid ((lessL l.waits next).length = m) := ⟨_, rfl⟩; rw [Hm4.out] at e4; subst e4; have OH : Hid (OwnN w4 w2.heap.size (.slice a4 m4 c8) (lessL l.waits next)) := O4; clear O4))
      go_ret2
      refine ⟨_, vs.set j ⟨next, a4, m4, c8⟩, by rw [Hr1.out]; rfl, ?_, (kk4.setCell (p := ⟨b3, j * 2, none⟩) bl0.out _).setCell (p := ⟨b3, j * 2 + 1, none⟩) bl0.out _⟩
      rw [Hr2.out]
      have m4' : Mine w4 w.heap.size w2.heap.size (.slice (some ⟨b3, 0, none⟩) n cap3) vs ls := (M.out.keeps k24).widen (Nat.le_refl _) (Nat.le_refl _)
      have hb4 : ∀ q, (Value.slice a4 m4 c8).ownBlock = some q → w2.heap.size ≤ q ∧ q < w4.heap.size := fun q hq => OH.out.ltb q hq
      have hn4 : ∀ q, (Value.slice a4 m4 c8).ownBlock = some q → q ≠ b3 := fun q hq => by have := (hb4 q hq).1; have := bl.out; omega
      refine m4'.swap (x := ⟨xo, xa, xn, xc⟩) (y := ⟨next, a4, m4, c8⟩) Hx.out (m4'.own.setTwo Hx.out ⟨next, a4, m4, c8⟩) (fun q h1 h2 h3 => ?_) rfl ?_ (by have := k24.size; simp; omega) (fun q hq => .inl ⟨(hb4 q hq).1, by have := (hb4 q hq).2; simp; omega⟩)
      · have : q ≠ b3 := fun e => h1 (by rw [e]; rfl)
        rw [heap_setCell this, heap_setCell this]
      · refine Own.same (Own.base OH.out K2.size) fun q hq => ?_
        rw [heap_setCell (hn4 q hq), heap_setCell (hn4 q hq)]
end Go.Proofs.YtpikopdfkhagmaaGreatDoor
namespace Go.Proofs.YtpikopdfkhagmaaGreatDoor
open Go.RowKit
variable {p p' : Bool}
attribute [local go_sem] Keeps.refl Keeps.alloc Keeps.drew Keeps.drewN

end Go.Proofs.YtpikopdfkhagmaaGreatDoor
namespace Go.Proofs.YtpikopdfkhagmaaGreatDoor
open Go.RowKit
attribute [local go_sem] Keeps.refl Keeps.alloc Keeps.drew Keeps.drewN

end Go.Proofs.YtpikopdfkhagmaaGreatDoor
namespace Go.Proofs.YtpikopdfkhagmaaGreatDoor
open Go.RowKit
attribute [local go_sem] Keeps.refl Keeps.alloc Keeps.drew Keeps.drewN

/-- Behind a call a value is stored over the cell k of the block b. -/
theorem stored {X w' : World} {b k : Nat} {C : Array Value} (h : Keeps X w') (B : Blk X b C) (hk : k < C.size) (u : Value) : Blk w' b C ∧ KeepsBut b X (w'.setCell ⟨b, k, none⟩ u) ∧ Blk (w'.setCell ⟨b, k, none⟩ u) b (C.setIfInBounds k u) :=
  ⟨B.keeps h, (KeepsBut.of h).setCell k u, (B.keeps h).set k hk u⟩
end Go.Proofs.YtpikopdfkhagmaaGreatDoor
namespace Go.Proofs.YtpikopdfkhagmaaGreatDoor
open Go.RowKit
attribute [local go_sem] Keeps.refl Keeps.alloc Keeps.drew Keeps.drewN

end Go.Proofs.YtpikopdfkhagmaaGreatDoor
namespace Go.Proofs.YtpikopdfkhagmaaGreatDoor
open Go.RowKit
attribute [local go_sem] Keeps.refl Keeps.alloc Keeps.drew Keeps.drewN

/-- The block b has m cells that may be written. -/
structure Room (w : World) (b m : Nat) : Prop where
  lt : b < w.heap.size
  cells : ∀ o, o < m → ∃ v, w.cell? ⟨b, o, none⟩ = some v
  frozens : ∀ o, w.frozen? ⟨b, o, none⟩ = false
theorem Room.setCell {w : World} {b m : Nat} (h : Room w b m) (p : Addr) (v : Value) : Room (w.setCell p v) b m :=
  ⟨by simpa using h.lt, fun q hq => by obtain ⟨u, hu⟩ := h.cells q hq; exact cell?_setCell_some hu, fun q => by simpa using h.frozens q⟩
theorem Room.put {w : World} {b m o : Nat} (h : Room w b m) (t : Tsk) : Room (putAt w b o t) b m :=
  (((((((((((((h.setCell _ _).setCell _ _).setCell _ _).setCell _ _).setCell _ _).setCell _ _).setCell _ _).setCell _ _).setCell _ _).setCell _ _).setCell _ _).setCell _ _).setCell _ _).setCell _ _
theorem KeepsBut.put {g o : Nat} {a b : World} (h : KeepsBut g a b) (t : Tsk) : KeepsBut g a (putAt b g o t) :=
  (((((((((((((h.setCell _ _).setCell _ _).setCell _ _).setCell _ _).setCell _ _).setCell _ _).setCell _ _).setCell _ _).setCell _ _).setCell _ _).setCell _ _).setCell _ _).setCell _ _).setCell _ _

end Go.Proofs.YtpikopdfkhagmaaGreatDoor
namespace Go.Proofs.YtpikopdfkhagmaaGreatDoor
open Go.RowKit
variable {p p' : Bool}
attribute [local go_sem] Keeps.refl Keeps.alloc Keeps.drew Keeps.drewN

end Go.Proofs.YtpikopdfkhagmaaGreatDoor
namespace Go.Proofs.YtpikopdfkhagmaaGreatDoor
open Go.RowKit
variable {p : Bool}
attribute [local go_sem] Keeps.refl Keeps.alloc Keeps.drew Keeps.drewN

end Go.Proofs.YtpikopdfkhagmaaGreatDoor
namespace Go.Proofs.YtpikopdfkhagmaaGreatDoor
open Go.RowKit
attribute [local go_sem] Keeps.refl Keeps.alloc Keeps.drew Keeps.drewN

theorem grown_putC {w : World} {b : Nat} : ∀ (L : List Value) (x : World) (k : Nat), w.grownBy x (some b) → w.grownBy (putC x b k L) (some b)
  | [], _, _, h => h
  | v :: r, x, k, h => grown_putC r _ (k + 1) ⟨h.os, h.tape, h.output, Nat.le_trans h.size (by simp), fun q hq hne => (heap_setCell (by intro e; subst e; exact hne rfl)).trans (h.block q hq hne)⟩
end Go.Proofs.YtpikopdfkhagmaaGreatDoor
namespace Go.Proofs.YtpikopdfkhagmaaGreatDoor
open Go.RowKit
variable {p : Bool}
attribute [local go_sem] Keeps.refl Keeps.alloc Keeps.drew Keeps.drewN

theorem sumW_set : ∀ {ls : List Lk} {j : Nat} {l : Lk} (m : Lk), ls[j]? = some l → sumW (ls.set j m) + l.waits.length = sumW ls + m.waits.length
  | [], j, l, m, h => by simp at h
  | x :: r, 0, l, m, h => by
    simp at h
    subst h
    simp only [List.set_cons_zero, sumW]
    omega
  | x :: r, j + 1, l, m, h => by
    have := sumW_set (ls := r) (j := j) m (by simpa using h)
    simp only [List.set_cons_succ, sumW]
    omega
theorem sizeN_set {ls : List Lk} {j : Nat} {l : Lk} (m : Lk) (h : ls[j]? = some l) : sizeN (ls.set j m) + l.waits.length = sizeN ls + m.waits.length := by
  have := sumW_set m h
  unfold sizeN
  rw [List.length_set]
  omega
theorem sizeN_modify {ls : List Lk} (f : Lk → Lk) (j : Nat) (hf : ∀ l, (f l).waits.length ≤ l.waits.length + 1) : sizeN (ls.modify j f) ≤ sizeN ls + 1 := by
  cases h : ls[j]? with
  | none =>
    have hl : ls.length ≤ j := by
      rcases Nat.lt_or_ge j ls.length with h1 | h1
      · rw [List.getElem?_eq_getElem h1] at h; cases h
      · exact h1
    have : ls.modify j f = ls := by
      apply List.ext_getElem?
      intro i
      rw [List.getElem?_modify]
      by_cases e : j = i
      · subst e; rw [h]; rfl
      · simp [e]
    rw [this]; omega
  | some l =>
    rw [modify_set h]
    have := sizeN_set (f l) h
    have := hf l
    omega
theorem askL_size (ls : List Lk) (i no : Int) : sizeN (askL ls i no) ≤ sizeN ls + 1 := by
  unfold askL
  split
  · simp [sizeN, sumW]
  · split
    · exact sizeN_modify _ _ fun l => by simp [setOwner]
    · split
      · exact sizeN_modify _ _ fun l => by simp [addWait]
      · omega
theorem freeL_size (ls : List Lk) (i no next : Int) : sizeN (freeL ls i no next) ≤ sizeN ls + 1 := by
  unfold freeL
  split
  · simp [sizeN, sumW]
  · split
    · exact sizeN_modify _ _ fun l => by have := lessL_le l.waits next; simp [freed]; omega
    · omega
end Go.Proofs.YtpikopdfkhagmaaGreatDoor
namespace Go.Proofs.YtpikopdfkhagmaaGreatDoor
open Go.RowKit
attribute [local go_sem] Keeps.refl Keeps.alloc Keeps.drew Keeps.drewN

/-- Drawn locks, beside the cursor. -/
structure DK (w wr : World) (g : Nat) (v : Value) (ls : List Lk) : Prop where
  mine : ∃ vs, Mine wr w.heap.size wr.heap.size v vs ls
  cur : Cur wr g
  kb : KeepsBut g w wr
theorem DK.but {w wr wr' : World} {g : Nat} {v : Value} {ls : List Lk} (h : DK w wr g v ls) (hg : g < w.heap.size) (k : KeepsBut g wr wr') (hc : Cur wr' g) : DK w wr' g v ls := by
  obtain ⟨vs, M⟩ := h.mine
  exact ⟨⟨vs, (M.same fun b h1 _ h3 => k.block b h3 (by omega)).widen (Nat.le_refl _) k.size⟩, hc, h.kb.trans k⟩
theorem DK.keeps {w wr wr' : World} {g : Nat} {v : Value} {ls : List Lk} (h : DK w wr g v ls) (hg : g < w.heap.size) (k : Keeps wr wr') : DK w wr' g v ls := h.but hg (.of k) (h.cur.keeps k)
theorem DK.made {w wr : World} {g : Nat} (hc : Cur wr g) (k : KeepsBut g w wr) (n : Nat) (hn : n ≤ 1048576) : DK w (wr.alloc (.cells (madeCells #[.int .i64 0, .slice none 0 0] (n * 2)) 92)) g (.slice (some ⟨wr.heap.size, 0, none⟩) n n) (List.replicate n ⟨0, []⟩) :=
  ⟨⟨_, (Mine.zero wr n (by unfold maxLen; omega)).widen k.size (by simp)⟩, hc.keeps ((Keeps.refl _).alloc _), k.alloc _⟩

end Go.Proofs.YtpikopdfkhagmaaGreatDoor
namespace Go.Proofs.YtpikopdfkhagmaaGreatDoor
open Go.RowKit
attribute [local go_sem] Keeps.refl Keeps.alloc Keeps.drew Keeps.drewN KeepsBut.refl KeepsBut.drew KeepsBut.alloc KeepsBut.drewN

/-- What is known of one of some drawn locks. -/
structure DKat (w wr : World) (g : Nat) (b n cap : Nat) (vs : List Lv) (ls : List Lk) (j : Nat) (x : Lv) (l : Lk) : Prop where
  mine : Mine wr w.heap.size wr.heap.size (.slice (some ⟨b, 0, none⟩) n cap) vs ls
  vlen : vs.length = n
  hx : vs[j]? = some x
  hl : ls[j]? = some l
  own : Own 92 2 lvc wr w.heap.size (.slice (some ⟨b, 0, none⟩) n cap) vs
  lo : w.heap.size ≤ b
  hi : b < wr.heap.size
  c0 : wr.cell? ⟨b, j * 2, none⟩ = some (.int .i64 x.o)
  c1 : wr.cell? ⟨b, j * 2 + 1, none⟩ = some x.row
  fz : ∀ o, wr.frozen? ⟨b, o, none⟩ = false
  xo : x.o = l.owner
  row : OwnN wr w.heap.size x.row l.waits
  far : ∀ q, x.row.ownBlock = some q → q < wr.heap.size ∧ q ≠ b
theorem DK.at {w wr : World} {g : Nat} {v : Value} {ls : List Lk} (h : DK w wr g v ls) {j : Nat} {l : Lk} (hl : ls[j]? = some l) : ∃ b cap vs x, v = .slice (some ⟨b, 0, none⟩) ls.length cap ∧ DKat w wr g b ls.length cap vs ls j x l := by
  obtain ⟨vs, M⟩ := h.mine
  have hj := lt_of_some hl
  have hv : vs.length = ls.length := M.len
  obtain ⟨b, cap, e⟩ := M.own.blk (by omega)
  rw [hv] at e
  subst e
  obtain ⟨x, hx⟩ := some_in (xs := vs) (k := j) (by omega)
  have O0 : Own 92 2 lvc wr w.heap.size (.slice (some ⟨b, 0, none⟩) vs.length cap) vs := by rw [hv]; exact M.own
  have X1 := M.rows j x l hx hl
  exact ⟨b, cap, vs, x, rfl, M, hv, hx, hl, M.own, (O0.ltb b rfl).1, (O0.ltb b rfl).2, O0.cellAt lvc_size (k := 0) hx (by omega), O0.cellAt lvc_size (k := 1) hx (by omega), fun o => O0.frozenAt o, X1.1, X1.2,
    fun q hq => ⟨(X1.2.ltb q hq).2, fun e => (M.inn j x q hx hq).2 (by rw [e]; rfl)⟩⟩
theorem DKat.but {w wr wr' : World} {g b n cap : Nat} {vs : List Lv} {ls : List Lk} {j : Nat} {x : Lv} {l : Lk} (h : DKat w wr g b n cap vs ls j x l) (hg : g < w.heap.size) (k : KeepsBut g wr wr') : DKat w wr' g b n cap vs ls j x l := by
  have hb : wr'.heap[b]? = wr.heap[b]? := k.block b h.hi (by have := h.lo; omega)
  exact ⟨(h.mine.same fun q h1 _ h3 => k.block q h3 (by omega)).widen (Nat.le_refl _) k.size, h.vlen, h.hx, h.hl, h.own.same fun q hq => k.block q (h.own.ltb q hq).2 (by have := (h.own.ltb q hq).1; omega), h.lo, Nat.lt_of_lt_of_le h.hi k.size,
    (World.cell?_of_block (w := wr) hb).trans h.c0, (World.cell?_of_block (w := wr) hb).trans h.c1, fun o => (World.frozen?_of_block (w := wr) hb).trans (h.fz o), h.xo, h.row.same fun q hq => k.block q (h.row.ltb q hq).2 (by have := (h.row.ltb q hq).1; omega),
    fun q hq => ⟨Nat.lt_of_lt_of_le (h.far q hq).1 k.size, (h.far q hq).2⟩⟩
theorem DKat.setOwner {w wr : World} {g b n cap : Nat} {vs : List Lv} {ls : List Lk} {j : Nat} {x : Lv} {l : Lk} (h : DKat w wr g b n cap vs ls j x l) (hc : Cur wr g) (kb : KeepsBut g w wr) (hg : g < w.heap.size) (c : Int) :
    DK w (wr.setCell ⟨b, j * 2, none⟩ (.int .i64 c)) g (.slice (some ⟨b, 0, none⟩) n cap) (ls.set j { l with owner := c }) := by
  have m := h.mine
  rw [← h.vlen] at m
  have := m.setOwner h.hx h.hl c
  rw [List.length_set, h.vlen] at this
  refine ⟨⟨_, this.widen (Nat.le_refl _) (by simp)⟩, hc.setNew (Nat.lt_of_lt_of_le hg h.lo) _ _, kb.setNew h.lo _⟩
/-- A row of one lock has grown, and is laid there. -/
theorem DKat.waits {w w5 w6 : World} {g b n cap : Nat} {vs : List Lv} {ls : List Lk} {j : Nat} {x : Lv} {l : Lk} (h : DKat w w5 g b n cap vs ls j x l) (hc : Cur w5 g) (kb : KeepsBut g w w5) (hg : g < w.heap.size) {ws : List Int} {a : Option Addr} {m c : Nat}
    (O6 : OwnN w6 w.heap.size (.slice a m c) ws) (g6 : w5.grownBy w6 x.row.ownBlock) (f6 : ∀ q, (Value.slice a m c).ownBlock = some q → x.row.ownBlock = some q ∨ w5.heap.size ≤ q) :
    DK w (w6.setCell ⟨b, j * 2 + 1, none⟩ (.slice a m c)) g (.slice (some ⟨b, 0, none⟩) n cap) (ls.set j { l with waits := ws }) := by
  have key : ∀ q, q < w5.heap.size → x.row.ownBlock ≠ some q → w6.heap[q]? = w5.heap[q]? := fun q hq hne => g6.block q hq (fun e => hne e.symm)
  have h36 : w6.heap[b]? = w5.heap[b]? := key b h.hi (fun e => (h.far b e).2 rfl)
  have ow6 : Own 92 2 lvc w6 w.heap.size (.slice (some ⟨b, 0, none⟩) n cap) vs := h.own.same fun q hq => by
    have : q = b := by simp [Value.ownBlock] at hq; exact hq.symm
    rw [this]; exact h36
  have hrow : ∀ q, x.row.ownBlock = some q → w.heap.size ≤ q := fun q hq => (h.row.ltb q hq).1
  refine ⟨⟨vs.set j ⟨x.o, a, m, c⟩, ?_⟩, ?_, ?_⟩
  · refine h.mine.swap (x := x) (y := ⟨x.o, a, m, c⟩) h.hx (ow6.setAt lvc_size (i := j) (j := 1) (x := x) (y := ⟨x.o, a, m, c⟩) (u := .slice a m c) h.hx (by omega) rfl) (fun q h1 h2 h3 => ?_) h.xo ?_ (by have := g6.size; simpa using this) (fun q hq => ?_)
    · have : q ≠ b := fun e => h1 (by rw [e]; rfl)
      rw [heap_setCell this]
      exact key q h3 h2
    · refine Own.same O6 fun q hq => heap_setCell ?_
      rcases f6 q hq with h1 | h1
      · exact (h.far q h1).2
      · have := h.hi; omega
    · rcases f6 q hq with h1 | h1
      · exact .inr h1
      · have := O6.ltb q hq
        exact .inl ⟨by omega, by simp; omega⟩
  · exact (hc.grown g6 (fun k hk => Nat.lt_of_lt_of_le hg (hrow k hk))).setNew (Nat.lt_of_lt_of_le hg h.lo) _ _
  · exact (kb.grown g6 (fun k hk => hrow k hk)).setNew h.lo _
theorem DKat.still {w w5 w6 : World} {g b n cap : Nat} {vs : List Lv} {ls : List Lk} {j : Nat} {x : Lv} {l : Lk} (h : DKat w w5 g b n cap vs ls j x l) (g6 : w5.grownBy w6 x.row.ownBlock) : w6.cell? ⟨b, j * 2 + 1, none⟩ = some x.row ∧ ∀ o, w6.frozen? ⟨b, o, none⟩ = false := by
  have h36 : w6.heap[b]? = w5.heap[b]? := g6.block b h.hi (fun e => (h.far b e.symm).2 rfl)
  exact ⟨(World.cell?_of_block (w := w5) h36).trans h.c1, fun o => (World.frozen?_of_block (w := w5) h36).trans (h.fz o)⟩

end Go.Proofs.YtpikopdfkhagmaaGreatDoor
