/-
  Locks: the contract of the model's freeing one.
-/
import Derived.Test.YtglemedcnapneaaLockAsk
namespace Go.Proofs.Ytglemedcnapneaa
open Go.RowKit
attribute [local go_sem] Keeps.refl Keeps.alloc Keeps.drew Keeps.drewN

set_option maxRecDepth 100000 in
set_option maxHeartbeats 8000000 in
theorem specLockFree_any (a : Option Addr) (cap : Nat) (ls : List Lk) (i no next : Int) (w : World) (hl : sizeN ls ≤ 2097152) (hs : Lks true w a ls) :
    Calls Try.prog 31 #[.slice a ls.length cap, .int .i64 i, .int .i64 no, .int .i64 next] w fun e w' => ∃ v vs, e = .returned (.tuple #[v, .bool (freeB ls i no next)]) ∧ Mine w' w.heap.size w'.heap.size v vs (freeL ls i no next) ∧ Keeps w w' := by
  have HL : Hid (sizeN ls ≤ 2097152) := hl
  have hl0 : ls.length ≤ 2097152 := by unfold sizeN at hl; omega
  clear hl
  have HS : Hid (Lks true w a ls) := hs
  clear hs
  have LO : Hid (∀ w', Keeps w w' → Calls Try.prog 14 #[.slice a ls.length cap] w' fun e w'' => e = .returned (.bool (locksB ls)) ∧ Keeps w' w'') := fun w' h => specLocksOk_any a cap ls w' HL.out (HS.out.keeps h)
  have CP : Hid (∀ w', Keeps w w' → Calls Try.prog 54 #[.slice a ls.length cap] w' fun e w'' => ∃ v vs, e = .returned v ∧ Mine w'' w'.heap.size w''.heap.size v vs ls ∧ Keeps w' w'') := fun w' h => specCopy_any a cap ls w' HL.out (HS.out.keeps h)
  generalize hn : ls.length = n at hl0
  have Hn : Hid (ls.length = n) := hn
  rw [hn] at LO CP
  clear hn
  cases hb : locksB ls
  · have Hr : Hid (freeB ls i no next = false) := by show _ = _; unfold freeB; rw [hb]; rfl
    have Hq : Hid (freeL ls i no next = []) := by show _ = _; unfold freeL; rw [hb]; rfl
    rw [hb] at LO
    go_enter Try.func31, Try.ntmps31
    go_wp2_with (go_at_call 14; refine (LO.out _ (Keeps.refl _)).mono ?_; rintro e w1 ⟨rfl, k1⟩)
    go_ret2
    refine ⟨_, [], by rw [Hr.out]; rfl, ?_, k1.alloc _⟩
    rw [Hq.out]
    exact Mine.none _ _ _ _ (Own.new 47 2 lvc w1 k1.size) (fun q hq => by simp [Value.ownBlock] at hq; simp; omega)
  rw [hb] at LO
  go_enter Try.func31, Try.ntmps31
  go_wp2_with (first
    | (go_at_call 14; refine (LO.out _ (Keeps.refl _)).mono ?_; rintro e w1 ⟨rfl, k1⟩)
    | fail)
  refine (CP.out _ k1).mono ?_
  rintro e w2 ⟨v, vs, rfl, M0, k2⟩
  have M : Hid (Mine w2 w.heap.size w2.heap.size v vs ls) := M0.widen k1.size (Nat.le_refl _)
  have K2 : Keeps w w2 := k1.trans k2
  clear M0 k1 k2 LO CP
  have ewrap : IntKind.i64.wrap ((n : Int) - 1) = (n : Int) - 1 := Go.IntWalk.i64_in _ (by omega)
  have BAD : Hid (∀ (_ : (inB i 0 ((n : Int) - 1) && (!(no == 0) && (ownerAt ls i.toNat == no && mayNext (waitsAt ls i.toNat) next))) = false), freeB ls i no next = false ∧ freeL ls i no next = ls) := by
    intro h
    have e1 : freeB ls i no next = false := by unfold freeB; rw [hb, Hn.out, h]; rfl
    refine ⟨e1, ?_⟩
    unfold freeL
    rw [hb, e1]; rfl
  cases c1 : inB i 0 ((n : Int) - 1)
  · have Hr := BAD.out (by rw [c1]; rfl)
    have Hr1 : Hid (freeB ls i no next = false) := Hr.1
    have Hr2 : Hid (freeL ls i no next = ls) := Hr.2
    clear Hr
    go_wp2_with (go_at_call 43; refine (l1In_any _ _ _ _).mono ?_; rintro e w' ⟨rfl, hw'⟩; have hw2 := hw'.symm; subst hw2)
    go_ret2
    exact ⟨_, vs, by rw [Hr1.out]; rfl, by rw [Hr2.out]; exact M.out, K2⟩
  cases c2 : (no == 0)
  rotate_left
  · have Hr := BAD.out (by rw [c2]; simp)
    have Hr1 : Hid (freeB ls i no next = false) := Hr.1
    have Hr2 : Hid (freeL ls i no next = ls) := Hr.2
    clear Hr
    go_wp2_with (go_at_call 43; refine (l1In_any _ _ _ _).mono ?_; rintro e w' ⟨rfl, hw'⟩; have hw2 := hw'.symm; subst hw2)
    go_ret2
    exact ⟨_, vs, by rw [Hr1.out]; rfl, by rw [Hr2.out]; exact M.out, K2⟩
  obtain ⟨h0, h1⟩ := inB_iff.1 c1
  obtain ⟨j, rfl⟩ : ∃ j : Nat, i = (j : Int) := ⟨i.toNat, by omega⟩
  have hj : j < n := by omega
  have hj' : (j : Int) < (n : Int) := by omega
  obtain ⟨l, hl1⟩ := some_in (xs := ls) (k := j) (by rw [Hn.out]; exact hj)
  obtain ⟨b, off, a', cap', rfl, r0, r1, hle, hns⟩ := HS.out.at hl1
  have Hl : Hid (ls[j]? = some l) := hl1
  have N1 : Hid (Ns w a' l.waits) := hns
  have Hle : Hid (l.waits.length ≤ maxLen) := hle
  have Ho : Hid (ownerAt ls (j : Int).toNat = l.owner) := by show _ = _; rw [Int.toNat_natCast]; exact ownerAt_of hl1
  have Hw : Hid (waitsAt ls (j : Int).toNat = l.waits) := by show _ = _; rw [Int.toNat_natCast]; simp [waitsAt, hl1]
  have hw1 : Hid (l.waits.length ≤ 2097152) := by show _ ≤ _; have := sumW_mem Hl.out; have := HL.out; unfold sizeN at this; omega
  clear hl1 hns hle h0 h1
  have eq0 : (l.owner == no) = !(l.owner != no) := by simp [bne]
  cases c4 : (l.owner != no)
  rotate_left
  · have Hr := BAD.out (by rw [Ho.out, eq0, c4]; simp)
    have Hr1 : Hid (freeB ls (j : Int) no next = false) := Hr.1
    have Hr2 : Hid (freeL ls (j : Int) no next = ls) := Hr.2
    clear Hr
    go_wp2_with (go_at_call 43; refine (l1In_any _ _ _ _).mono ?_; rintro e w' ⟨rfl, hw'⟩; have hw2 := hw'.symm; subst hw2)
    go_ret2
    exact ⟨_, vs, by rw [Hr1.out]; rfl, by rw [Hr2.out]; exact M.out, K2⟩
  have GO : Hid (freeB ls (j : Int) no next = mayNext l.waits next) := by
    show _ = _
    unfold freeB
    rw [hb, Hn.out, c1, c2, Ho.out, eq0, c4, Hw.out]
    rfl
  obtain ⟨m, Hm⟩ : ∃ m : Nat, Hid (l.waits.length = m) := ⟨_, rfl⟩
  have hm1 : m ≤ 2097152 := by rw [← Hm.out]; exact hw1.out
  rw [Hm.out] at r1
  have HA : Hid (∀ w', Keeps w w' → Calls Try.prog 52 #[.slice a' m cap', .int .i64 next] w' fun e w'' => e = .returned (.bool (hasB l.waits next)) ∧ Keeps w' w'') := by
    intro w' h
    have := specHas_any a' cap' l.waits next w' Hle.out (N1.out.keeps h)
    rwa [Hm.out] at this
  have LE : Hid (∀ w', Keeps w w' → Calls Try.prog 57 #[.slice a' m cap', .int .i64 next] w' fun e w'' => ∃ v, e = .returned v ∧ OwnN w'' w'.heap.size v (lessL l.waits next) ∧ Keeps w' w'') := by
    intro w' h
    have := specLess_any a' cap' l.waits next w' hw1.out (N1.out.keeps h)
    rwa [Hm.out] at this
  have MN : Hid (mayNext l.waits next = if (m : Int) == 0 then next == 0 else hasB l.waits next) := by
    show _ = _
    unfold mayNext
    rw [Hm.out]
    by_cases h : m = 0
    · subst h; rfl
    · rw [if_neg (by simpa using h), if_neg (by simp; omega)]
  have Hvn : Hid (vs.length = n) := M.out.len.trans Hn.out
  obtain ⟨b3, cap3, ev⟩ := M.out.own.blk (by rw [Hvn.out]; omega)
  rw [Hvn.out] at ev
  subst ev
  obtain ⟨x, hx⟩ := some_in (xs := vs) (k := j) (by rw [Hvn.out]; exact hj)
  have Hx : Hid (vs[j]? = some x) := hx
  have O0 : Own 47 2 lvc w2 w.heap.size (.slice (some ⟨b3, 0, none⟩) vs.length cap3) vs := by rw [Hvn.out]; exact M.out.own
  have bl : Hid (b3 < w2.heap.size) := (O0.ltb b3 rfl).2
  have bl0 : Hid (w.heap.size ≤ b3) := (O0.ltb b3 rfl).1
  have s0 : ∀ w', Keeps w2 w' → w'.cell? ⟨b3, j * 2, none⟩ = some (.int .i64 x.o) := Keeps.has (O0.cellAt lvc_size (k := 0) hx (by omega))
  have s1 : ∀ w', Keeps w2 w' → w'.cell? ⟨b3, j * 2 + 1, none⟩ = some x.row := Keeps.has (O0.cellAt lvc_size (k := 1) hx (by omega))
  have s2 : ∀ w', Keeps w2 w' → ∀ o, w'.frozen? ⟨b3, o, none⟩ = false := fun w' h o => (h.frozens _ _ bl.out).trans (O0.frozenAt o)
  clear O0 hx eq0
  obtain ⟨xo, xa, xn, xc⟩ := x
  dsimp only at s0 s1
  cases c3 : ((m : Int) == 0)
  · have m0 : decide (0 < m) = true := by simp at c3; simp; omega
    have m0' : (0 : Int) < (m : Int) := by simp at c3; omega
    cases c6 : hasB l.waits next
    · have Hr := BAD.out (by rw [Hw.out, MN.out, c3, c6]; simp)
      have Hr1 : Hid (freeB ls (j : Int) no next = false) := Hr.1
      have Hr2 : Hid (freeL ls (j : Int) no next = ls) := Hr.2
      clear Hr
      go_wp2_with (first | (go_at_call 43; refine (l1In_any _ _ _ _).mono ?_; rintro e w' ⟨rfl, hw'⟩; have hw2 := hw'.symm; subst hw2) | (go_at_call 52; refine (HA.out _ K2).mono ?_; rintro e w3 ⟨rfl, k3⟩; rw [c6]; have kk : Keeps w w3 := K2.trans k3))
      go_ret2
      exact ⟨_, vs, by rw [Hr1.out]; rfl, by rw [Hr2.out]; exact M.out.keeps k3 |>.widen (Nat.le_refl _) k3.size, kk⟩
    · have Hr1 : Hid (freeB ls (j : Int) no next = true) := by show _ = _; rw [GO.out, MN.out, c3, c6]; rfl
      have Hr2 : Hid (freeL ls (j : Int) no next = ls.set j ⟨next, lessL l.waits next⟩) := by show _ = _; unfold freeL; rw [hb, Hr1.out, Int.toNat_natCast, modify_set Hl.out (freed next)]; rfl
      go_wp2_with (first
        | (go_at_call 43; refine (l1In_any _ _ _ _).mono ?_; rintro e w' ⟨rfl, hw'⟩; have hw2 := hw'.symm; subst hw2)
        | (go_at_call 52; refine (HA.out _ K2).mono ?_; rintro e w3 ⟨rfl, k3⟩; rw [c6]; have kk : Keeps w w3 := K2.trans k3)
        | (go_at_call 57; refine (LE.out _ kk).mono ?_; rintro e w4 ⟨v4, rfl, O4, k4⟩; have kk4 : Keeps w w4 := kk.trans k4; have k24 : Keeps w2 w4 := k3.trans k4; obtain ⟨a4, c8, e4, -, -, -⟩ := OwnN.ns O4; obtain ⟨m4, Hm4⟩ : ∃ m, Hid ((lessL l.waits next).length = m) := ⟨_, rfl⟩; rw [Hm4.out] at e4; subst e4; have OH : Hid (OwnN w4 w3.heap.size (.slice a4 m4 c8) (lessL l.waits next)) := O4; clear O4))
      go_ret2
      refine ⟨_, vs.set j ⟨next, a4, m4, c8⟩, by rw [Hr1.out]; rfl, ?_, (kk4.setCell (p := ⟨b3, j * 2, none⟩) bl0.out _).setCell (p := ⟨b3, j * 2 + 1, none⟩) bl0.out _⟩
      rw [Hr2.out]
      have m4' : Mine w4 w.heap.size w3.heap.size (.slice (some ⟨b3, 0, none⟩) n cap3) vs ls := (M.out.keeps k24).widen (Nat.le_refl _) k3.size
      have hb4 : ∀ q, (Value.slice a4 m4 c8).ownBlock = some q → w3.heap.size ≤ q ∧ q < w4.heap.size := fun q hq => OH.out.ltb q hq
      have hn4 : ∀ q, (Value.slice a4 m4 c8).ownBlock = some q → q ≠ b3 := fun q hq => by have := (hb4 q hq).1; have := bl.out; have := k3.size; omega
      refine m4'.swap (x := ⟨xo, xa, xn, xc⟩) (y := ⟨next, a4, m4, c8⟩) Hx.out (m4'.own.setTwo Hx.out ⟨next, a4, m4, c8⟩) (fun q h1 h2 h3 => ?_) rfl ?_ (by have := k24.size; have := k3.size; have := k4.size; simp; omega) (fun q hq => .inl ⟨(hb4 q hq).1, by have := (hb4 q hq).2; simp; omega⟩)
      · have : q ≠ b3 := fun e => h1 (by rw [e]; rfl)
        rw [heap_setCell this, heap_setCell this]
      · refine Own.same (Own.base OH.out kk.size) fun q hq => ?_
        rw [heap_setCell (hn4 q hq), heap_setCell (hn4 q hq)]
  · have m0 : decide (0 < m) = false := by simp at c3; simp; omega
    have eqn : (next == 0) = !(next != 0) := by simp [bne]
    cases c6 : (next != 0)
    rotate_left
    · have Hr := BAD.out (by rw [Hw.out, MN.out, c3, eqn, c6]; simp)
      have Hr1 : Hid (freeB ls (j : Int) no next = false) := Hr.1
      have Hr2 : Hid (freeL ls (j : Int) no next = ls) := Hr.2
      clear Hr
      go_wp2_with (go_at_call 43; refine (l1In_any _ _ _ _).mono ?_; rintro e w' ⟨rfl, hw'⟩; have hw2 := hw'.symm; subst hw2)
      go_ret2
      exact ⟨_, vs, by rw [Hr1.out]; rfl, by rw [Hr2.out]; exact M.out, K2⟩
    · have Hr1 : Hid (freeB ls (j : Int) no next = true) := by show _ = _; rw [GO.out, MN.out, c3, eqn, c6]; rfl
      have Hr2 : Hid (freeL ls (j : Int) no next = ls.set j ⟨next, lessL l.waits next⟩) := by show _ = _; unfold freeL; rw [hb, Hr1.out, Int.toNat_natCast, modify_set Hl.out (freed next)]; rfl
      go_wp2_with (first
        | (go_at_call 43; refine (l1In_any _ _ _ _).mono ?_; rintro e w' ⟨rfl, hw'⟩; have hw2 := hw'.symm; subst hw2)
        | (go_at_call 57; refine (LE.out _ K2).mono ?_; rintro e w4 ⟨v4, rfl, O4, k4⟩; have kk4 : Keeps w w4 := K2.trans k4; have k24 : Keeps w2 w4 := k4; obtain ⟨a4, c8, e4, -, -, -⟩ := OwnN.ns O4; obtain ⟨m4, Hm4⟩ : ∃ m, Hid ((lessL l.waits next).length = m) := ⟨_, rfl⟩; rw [Hm4.out] at e4; subst e4; have OH : Hid (OwnN w4 w2.heap.size (.slice a4 m4 c8) (lessL l.waits next)) := O4; clear O4))
      go_ret2
      refine ⟨_, vs.set j ⟨next, a4, m4, c8⟩, by rw [Hr1.out]; rfl, ?_, (kk4.setCell (p := ⟨b3, j * 2, none⟩) bl0.out _).setCell (p := ⟨b3, j * 2 + 1, none⟩) bl0.out _⟩
      rw [Hr2.out]
      have m4' : Mine w4 w.heap.size w2.heap.size (.slice (some ⟨b3, 0, none⟩) n cap3) vs ls := (M.out.keeps k24).widen (Nat.le_refl _) (Nat.le_refl _)
      have hb4 : ∀ q, (Value.slice a4 m4 c8).ownBlock = some q → w2.heap.size ≤ q ∧ q < w4.heap.size := fun q hq => OH.out.ltb q hq
      have hn4 : ∀ q, (Value.slice a4 m4 c8).ownBlock = some q → q ≠ b3 := fun q hq => by have := (hb4 q hq).1; have := bl.out; omega
      refine m4'.swap (x := ⟨xo, xa, xn, xc⟩) (y := ⟨next, a4, m4, c8⟩) Hx.out (m4'.own.setTwo Hx.out ⟨next, a4, m4, c8⟩) (fun q h1 h2 h3 => ?_) rfl ?_ (by have := k24.size; simp; omega) (fun q hq => .inl ⟨(hb4 q hq).1, by have := (hb4 q hq).2; simp; omega⟩)
      · have : q ≠ b3 := fun e => h1 (by rw [e]; rfl)
        rw [heap_setCell this, heap_setCell this]
      · refine Own.same (Own.base OH.out K2.size) fun q hq => ?_
        rw [heap_setCell (hn4 q hq), heap_setCell (hn4 q hq)]
end Go.Proofs.Ytglemedcnapneaa
