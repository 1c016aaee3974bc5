/-
  The program's locks: what asking says.
-/
import Derived.Test.YtglemedcnapneaaImplLockC
namespace Go.Proofs.Ytglemedcnapneaa
open Go.RowKit
attribute [local go_sem] Keeps.refl Keeps.alloc Keeps.drew Keeps.drewN

set_option maxRecDepth 100000 in
set_option maxHeartbeats 400000 in
theorem codeOfAsk_any (a : Option Addr) (cap : Nat) (ls : List Lk) (i no : Int) (w : World) (hl : sizeN ls ≤ 2097152) (hs : Lks true w a ls) (hb : locksB ls = true) :
    Calls Try.prog 55 #[.slice a ls.length cap, .int .i64 i, .int .i64 no] w fun e w' => e = .returned (.int .i64 (askN ls i no)) ∧ Keeps w w' := by
  have HL : Hid (sizeN ls ≤ 2097152) := hl
  have hl0 : ls.length ≤ 2097152 := by unfold sizeN at hl; omega
  clear hl
  have HS : Hid (Lks true w a ls) := hs
  clear hs
  have WA : Hid (∀ w', Keeps w w' → Calls Try.prog 19 #[.slice a ls.length cap, .int .i64 no] w' fun e w'' => e = .returned (.int .i64 (waitAt ls no)) ∧ Keeps w' w'') := fun w' h => implWaitAt_all a cap ls no w' HL.out (HS.out.keeps h)
  have CO : Hid (∀ x w', Keeps w w' → Calls Try.prog 21 #[.slice a ls.length cap, .int .i64 x] w' fun e w'' => ∃ v, e = .returned v ∧ OwnN w'' w'.heap.size v (chainL ls x) ∧ Keeps w' w'') := fun x w' h => implChainOf_all a cap ls x w' HL.out (HS.out.keeps h)
  generalize hn : ls.length = n at hl0
  have Hn : Hid (ls.length = n) := hn
  rw [hn] at WA CO
  clear hn
  have hn1 : n ≤ maxLen := by unfold maxLen; omega
  have HLo : Hid (∀ w', Calls Try.prog 58 #[.slice a n cap, .int .i64 i] w' fun e w'' => e = .returned (.bool (inB i 0 ((n : Int) - 1))) ∧ w'' = w') := fun w' => hasLock_any a cap n i w' hn1
  clear hn1
  have BAD : Hid (∀ (_ : (!inB i 0 ((n : Int) - 1) || (!inB no 1 1000 || decide (0 ≤ waitAt ls no))) = true), askN ls i no = 2) := by
    intro h
    unfold askN; rw [hb, Hn.out, h]; rfl
  cases c1 : inB i 0 ((n : Int) - 1)
  · have Hr : Hid (askN ls i no = 2) := BAD.out (by rw [c1]; rfl)
    rw [c1] at HLo
    go_enter Try.func55, Try.ntmps55
    go_wp2_with (go_at_call 58; refine (HLo.out _).mono ?_; rintro e w' ⟨rfl, hw'⟩; have hw2 := hw'.symm; subst hw2)
    go_ret
    exact ⟨by rw [Hr.out]; rfl, Keeps.refl _⟩
  rw [c1] at HLo
  cases c2 : inB no 1 1000
  · have Hr : Hid (askN ls i no = 2) := BAD.out (by rw [c2]; simp)
    go_enter Try.func55, Try.ntmps55
    go_wp2_with (first
      | (go_at_call 58; refine (HLo.out _).mono ?_; rintro e w' ⟨rfl, hw'⟩; have hw2 := hw'.symm; subst hw2)
      | (go_at_call 68; refine (isWithin_any _ _ _ _).mono ?_; rintro e w' ⟨rfl, hw'⟩; have hw2 := hw'.symm; subst hw2; rw [c2]))
    go_ret
    exact ⟨by rw [Hr.out]; rfl, Keeps.refl _⟩
  obtain ⟨wt, Hwt⟩ : ∃ x, Hid (waitAt ls no = x) := ⟨_, rfl⟩
  cases c3 : decide (0 ≤ waitAt ls no)
  rotate_left
  · have Hr : Hid (askN ls i no = 2) := BAD.out (by rw [c3]; simp)
    rw [Hwt.out] at WA c3
    have c3' : 0 ≤ wt := by simpa using c3
    go_enter Try.func55, Try.ntmps55
    go_wp2_with (first
      | (go_at_call 58; refine (HLo.out _).mono ?_; rintro e w' ⟨rfl, hw'⟩; have hw2 := hw'.symm; subst hw2)
      | (go_at_call 68; refine (isWithin_any _ _ _ _).mono ?_; rintro e w' ⟨rfl, hw'⟩; have hw2 := hw'.symm; subst hw2; rw [c2])
      | (go_at_call 19; refine (WA.out _ (Keeps.refl _)).mono ?_; rintro e w3 ⟨rfl, k3⟩))
    go_ret
    exact ⟨by rw [Hr.out]; rfl, k3⟩
  have Hwa : Hid (waitAt ls no = -1) := waitAt_ge c3
  rw [Hwa.out] at WA
  obtain ⟨h0, h1⟩ := inB_iff.1 c1
  obtain ⟨j, rfl⟩ : ∃ j : Nat, i = (j : Int) := ⟨i.toNat, by omega⟩
  have hj : j < n := by omega
  have hj' : (j : Int) < (n : Int) := by omega
  obtain ⟨l, hl1⟩ := some_in (xs := ls) (k := j) (by rw [Hn.out]; exact hj)
  obtain ⟨b, off, a', cap', rfl, r0, r1, -, -⟩ := HS.out.at hl1
  have Hl : Hid (ls[j]? = some l) := hl1
  have Ho : Hid (ownerAt ls (j : Int).toNat = l.owner) := by show _ = _; rw [Int.toNat_natCast]; exact ownerAt_of hl1
  have go : Hid (askN ls (j : Int) no = if l.owner == no then 3 else if l.owner == 0 then 0 else if hasB (chainL ls l.owner) no then 4 else 1) := by
    show _ = _
    unfold askN
    rw [hb, Hn.out, c1, c2, c3, Ho.out]
    rfl
  clear hl1 r1 BAD h0 h1 Hwt
  cases c4 : (l.owner == no)
  rotate_left
  · have Hr : Hid (askN ls (j : Int) no = 3) := by show _ = _; rw [go.out, c4]; rfl
    go_enter Try.func55, Try.ntmps55
    go_wp2_with (first
      | (go_at_call 58; refine (HLo.out _).mono ?_; rintro e w' ⟨rfl, hw'⟩; have hw2 := hw'.symm; subst hw2)
      | (go_at_call 68; refine (isWithin_any _ _ _ _).mono ?_; rintro e w' ⟨rfl, hw'⟩; have hw2 := hw'.symm; subst hw2; rw [c2])
      | (go_at_call 19; refine (WA.out _ (Keeps.refl _)).mono ?_; rintro e w3 ⟨rfl, k3⟩))
    go_ret
    exact ⟨by rw [Hr.out]; rfl, k3⟩
  cases c5 : (l.owner == 0)
  rotate_left
  · have Hr : Hid (askN ls (j : Int) no = 0) := by show _ = _; rw [go.out, c4, c5]; rfl
    go_enter Try.func55, Try.ntmps55
    go_wp2_with (first
      | (go_at_call 58; refine (HLo.out _).mono ?_; rintro e w' ⟨rfl, hw'⟩; have hw2 := hw'.symm; subst hw2)
      | (go_at_call 68; refine (isWithin_any _ _ _ _).mono ?_; rintro e w' ⟨rfl, hw'⟩; have hw2 := hw'.symm; subst hw2; rw [c2])
      | (go_at_call 19; refine (WA.out _ (Keeps.refl _)).mono ?_; rintro e w3 ⟨rfl, k3⟩))
    go_ret
    exact ⟨by rw [Hr.out]; rfl, k3⟩
  have HasC : Hid (∀ v w', OwnN w' w.heap.size v (chainL ls l.owner) → Calls Try.prog 69 #[v, .int .i64 no] w' fun e w'' => e = .returned (.bool (hasB (chainL ls l.owner) no)) ∧ Keeps w' w'') := fun v w' h => by
    obtain ⟨a4, c4', e4, N4, l4, l4'⟩ := OwnN.ns h
    rw [e4]
    exact sliceHas_any a4 c4' _ no w' (Nat.le_trans l4 l4') N4
  obtain ⟨g, Hg⟩ : ∃ g, Hid (hasB (chainL ls l.owner) no = g) := ⟨_, rfl⟩
  rw [Hg.out] at HasC go
  cases g
  · have Hr : Hid (askN ls (j : Int) no = 1) := by show _ = _; rw [go.out, c4, c5]; rfl
    go_enter Try.func55, Try.ntmps55
    go_wp2_with (first
      | (go_at_call 58; refine (HLo.out _).mono ?_; rintro e w' ⟨rfl, hw'⟩; have hw2 := hw'.symm; subst hw2)
      | (go_at_call 68; refine (isWithin_any _ _ _ _).mono ?_; rintro e w' ⟨rfl, hw'⟩; have hw2 := hw'.symm; subst hw2; rw [c2])
      | (go_at_call 19; refine (WA.out _ (Keeps.refl _)).mono ?_; rintro e w3 ⟨rfl, k3⟩)
      | (go_at_call 21; refine (CO.out _ _ k3).mono ?_; rintro e w4 ⟨v4, rfl, o4, k4⟩; have O4 : Hid (OwnN w4 w.heap.size v4 (chainL ls l.owner)) := o4.base k3.size; have kk4 : Keeps w w4 := k3.trans k4; clear o4)
      | (go_at_call 69; refine (HasC.out v4 _ O4.out).mono ?_; rintro e w5 ⟨rfl, k5⟩))
    go_ret
    exact ⟨by rw [Hr.out]; rfl, kk4.trans k5⟩
  · have Hr : Hid (askN ls (j : Int) no = 4) := by show _ = _; rw [go.out, c4, c5]; rfl
    go_enter Try.func55, Try.ntmps55
    go_wp2_with (first
      | (go_at_call 58; refine (HLo.out _).mono ?_; rintro e w' ⟨rfl, hw'⟩; have hw2 := hw'.symm; subst hw2)
      | (go_at_call 68; refine (isWithin_any _ _ _ _).mono ?_; rintro e w' ⟨rfl, hw'⟩; have hw2 := hw'.symm; subst hw2; rw [c2])
      | (go_at_call 19; refine (WA.out _ (Keeps.refl _)).mono ?_; rintro e w3 ⟨rfl, k3⟩)
      | (go_at_call 21; refine (CO.out _ _ k3).mono ?_; rintro e w4 ⟨v4, rfl, o4, k4⟩; have O4 : Hid (OwnN w4 w.heap.size v4 (chainL ls l.owner)) := o4.base k3.size; have kk4 : Keeps w w4 := k3.trans k4; clear o4)
      | (go_at_call 69; refine (HasC.out v4 _ O4.out).mono ?_; rintro e w5 ⟨rfl, k5⟩))
    go_ret
    exact ⟨by rw [Hr.out]; rfl, kk4.trans k5⟩

end Go.Proofs.Ytglemedcnapneaa
