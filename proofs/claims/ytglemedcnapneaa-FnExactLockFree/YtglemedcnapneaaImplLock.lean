/-
  The program's locks: asking for one, freeing one; what each function says.
-/
import Derived.Test.YtglemedcnapneaaImplLockD
import Derived.Test.YtglemedcnapneaaLockPure3
import Derived.Test.YtglemedcnapneaaLockLaws
namespace Go.Proofs.Ytglemedcnapneaa
open Go.RowKit
attribute [local go_sem] Keeps.refl Keeps.alloc Keeps.drew Keeps.drewN

set_option maxRecDepth 100000 in
set_option maxHeartbeats 2000000 in
theorem implLockAsk_all (a : Option Addr) (cap : Nat) (ls : List Lk) (i no : Int) (w : World) (hl : sizeN ls ≤ 2097152) (hs : Lks true w a ls) :
    Calls Try.prog 29 #[.slice a ls.length cap, .int .i64 i, .int .i64 no] w fun e w' => ∃ v vs, e = .returned (.tuple #[v, .int .i64 (askN ls i no)]) ∧ Mine w' w.heap.size w'.heap.size v vs (askL ls i no) ∧ Keeps w w' := by
  have HL : Hid (sizeN ls ≤ 2097152) := hl
  have hl0 : ls.length ≤ 2097152 := by unfold sizeN at hl; omega
  clear hl
  have HS : Hid (Lks true w a ls) := hs
  clear hs
  have LO : Hid (∀ w', Keeps w w' → Calls Try.prog 16 #[.slice a ls.length cap] w' fun e w'' => e = .returned (.bool (locksB ls)) ∧ Keeps w' w'') := fun w' h => implLocksOk_all a cap ls w' HL.out (HS.out.keeps h)
  have CP : Hid (∀ w', Keeps w w' → Calls Try.prog 56 #[.slice a ls.length cap] w' fun e w'' => ∃ b vs, e = .returned (.slice (some ⟨b, 0, none⟩) ls.length ls.length) ∧ Mine w'' w'.heap.size w''.heap.size (.slice (some ⟨b, 0, none⟩) ls.length ls.length) vs ls ∧ Keeps w' w'') := fun w' h => copyLocks_any a cap ls w' HL.out (HS.out.keeps h)
  have CA : Hid (locksB ls = true → ∀ w', Keeps w w' → Calls Try.prog 55 #[.slice a ls.length cap, .int .i64 i, .int .i64 no] w' fun e w'' => e = .returned (.int .i64 (askN ls i no)) ∧ Keeps w' w'') := fun hb w' h => codeOfAsk_any a cap ls i no w' HL.out (HS.out.keeps h) hb
  generalize hn : ls.length = n at hl0
  have Hn : Hid (ls.length = n) := hn
  rw [hn] at LO CP CA
  clear hn
  cases hb : locksB ls
  · have Hr : Hid (askN ls i no = 2) := by show _ = _; unfold askN; rw [hb]; rfl
    have Hq : Hid (askL ls i no = []) := by show _ = _; unfold askL; rw [hb]; rfl
    rw [hb] at LO
    go_enter Try.func29, Try.ntmps29
    go_wp2_with (go_at_call 16; refine (LO.out _ (Keeps.refl _)).mono ?_; rintro e w1 ⟨rfl, k1⟩)
    go_ret2
    refine ⟨_, [], by rw [Hr.out]; rfl, ?_, k1⟩
    rw [Hq.out]
    exact Mine.none _ _ _ _ (World.ownsRow_nil _ _ _ _) (fun q hq => by simp [Value.ownBlock] at hq)
  have R := right_iff.1 hb
  have CA' : Hid (∀ w', Keeps w w' → Calls Try.prog 55 #[.slice a n cap, .int .i64 i, .int .i64 no] w' fun e w'' => e = .returned (.int .i64 (askN ls i no)) ∧ Keeps w' w'') := CA.out hb
  rw [hb] at LO
  clear CA
  rcases asked R i no with ⟨h, e⟩ | ⟨j, l, hi, hl, h0, hno, hn, h, e⟩ | ⟨j, l, hi, hl, hc, h, e⟩ | ⟨j, l, hi, hl, h0, h1, hno, hn, hc, h, e⟩
  · have He : Hid (askL ls i no = ls) := e
    clear e
    rcases h with h | h
    · rw [h] at CA' ⊢
      go_enter Try.func29, Try.ntmps29
      go_wp2_with (first
        | (go_at_call 16; refine (LO.out _ (Keeps.refl _)).mono ?_; rintro e w1 ⟨rfl, k1⟩)
        | (go_at_call 55; refine (CA'.out _ k1).mono ?_; rintro e w2 ⟨rfl, k2⟩; have K2 : Keeps w w2 := k1.trans k2)
        | (go_at_call 56; refine (CP.out _ K2).mono ?_; rintro e w3 ⟨b3, vs, rfl, m3, k3⟩; have M : Hid (Mine w3 w.heap.size w3.heap.size (.slice (some ⟨b3, 0, none⟩) n n) vs ls) := m3.widen K2.size (Nat.le_refl _); have K3 : Keeps w w3 := K2.trans k3; clear m3))
      go_ret2
      exact ⟨_, vs, rfl, by rw [He.out]; exact M.out, K3⟩
    · rw [h] at CA' ⊢
      go_enter Try.func29, Try.ntmps29
      go_wp2_with (first
        | (go_at_call 16; refine (LO.out _ (Keeps.refl _)).mono ?_; rintro e w1 ⟨rfl, k1⟩)
        | (go_at_call 55; refine (CA'.out _ k1).mono ?_; rintro e w2 ⟨rfl, k2⟩; have K2 : Keeps w w2 := k1.trans k2)
        | (go_at_call 56; refine (CP.out _ K2).mono ?_; rintro e w3 ⟨b3, vs, rfl, m3, k3⟩; have M : Hid (Mine w3 w.heap.size w3.heap.size (.slice (some ⟨b3, 0, none⟩) n n) vs ls) := m3.widen K2.size (Nat.le_refl _); have K3 : Keeps w w3 := K2.trans k3; clear m3))
      go_ret2
      exact ⟨_, vs, rfl, by rw [He.out]; exact M.out, K3⟩
  · have He : Hid (askL ls i no = ls.set j ⟨no, []⟩) := e
    have Hz : Hid ({ l with owner := no } = (⟨no, []⟩ : Lk)) := by show _ = _; rw [R.free j l hl h0]
    have Hl : Hid (ls[j]? = some l) := hl
    have hj : j < n := by have := lt_of_some hl; rwa [Hn.out] at this
    have hj' : (j : Int) < (n : Int) := by omega
    subst hi
    clear e hl R hn hno
    rw [h] at CA' ⊢
    go_enter Try.func29, Try.ntmps29
    go_wp2_with (first
      | (go_at_call 16; refine (LO.out _ (Keeps.refl _)).mono ?_; rintro e w1 ⟨rfl, k1⟩)
      | (go_at_call 55; refine (CA'.out _ k1).mono ?_; rintro e w2 ⟨rfl, k2⟩; have K2 : Keeps w w2 := k1.trans k2)
      | fail)
    refine (CP.out _ K2).mono ?_
    rintro e w3 ⟨b3, vs, rfl, m3, k3⟩
    have M : Hid (Mine w3 w.heap.size w3.heap.size (.slice (some ⟨b3, 0, none⟩) n n) vs ls) := m3.widen K2.size (Nat.le_refl _)
    have K3 : Keeps w w3 := K2.trans k3
    clear m3
    have Hvn : Hid (vs.length = n) := M.out.len.trans Hn.out
    obtain ⟨x, hx⟩ := some_in (xs := vs) (k := j) (by rw [Hvn.out]; exact hj)
    have Hx : Hid (vs[j]? = some x) := hx
    have O0 : Own 47 2 lvc w3 w.heap.size (.slice (some ⟨b3, 0, none⟩) vs.length n) vs := by rw [Hvn.out]; exact M.out.own
    have bl0 : Hid (w.heap.size ≤ b3) := (O0.ltb b3 rfl).1
    have s0 : w3.cell? ⟨b3, j * 2, none⟩ = some (.int .i64 x.o) := O0.cellAt lvc_size (k := 0) hx (by omega)
    have s2 : ∀ o, w3.frozen? ⟨b3, o, none⟩ = false := fun o => O0.frozenAt o
    clear O0 hx
    go_wp2
    go_ret2
    refine ⟨_, vs.set j { x with o := no }, rfl, ?_, K3.setCell (p := ⟨b3, j * 2, none⟩) bl0.out _⟩
    rw [He.out]
    have m : Mine w3 w.heap.size w3.heap.size (.slice (some ⟨b3, 0, none⟩) vs.length n) vs ls := by rw [Hvn.out]; exact M.out
    have := m.setOwner Hx.out Hl.out no
    rw [List.length_set, Hvn.out, Hz.out] at this
    simpa using this
  · have He : Hid (askL ls i no = ls) := e
    clear e hi hl hc
    rw [h] at CA' ⊢
    go_enter Try.func29, Try.ntmps29
    go_wp2_with (first
      | (go_at_call 16; refine (LO.out _ (Keeps.refl _)).mono ?_; rintro e w1 ⟨rfl, k1⟩)
      | (go_at_call 55; refine (CA'.out _ k1).mono ?_; rintro e w2 ⟨rfl, k2⟩; have K2 : Keeps w w2 := k1.trans k2)
      | (go_at_call 56; refine (CP.out _ K2).mono ?_; rintro e w3 ⟨b3, vs, rfl, m3, k3⟩; have M : Hid (Mine w3 w.heap.size w3.heap.size (.slice (some ⟨b3, 0, none⟩) n n) vs ls) := m3.widen K2.size (Nat.le_refl _); have K3 : Keeps w w3 := K2.trans k3; clear m3))
    go_ret2
    exact ⟨_, vs, rfl, by rw [He.out]; exact M.out, K3⟩
  · have Hr2 : Hid (askL ls i no = ls.set j { l with waits := l.waits ++ [no] }) := e
    have Hl : Hid (ls[j]? = some l) := hl
    have hj : j < n := by have := lt_of_some hl; rwa [Hn.out] at this
    have hj' : (j : Int) < (n : Int) := by omega
    have hw1 : Hid (l.waits.length ≤ 2097152) := by show _ ≤ _; have := sumW_mem hl; have := HL.out; unfold sizeN at this; omega
    subst hi
    clear e hl R hn hno
    rw [h] at CA' ⊢
    go_enter Try.func29, Try.ntmps29
    go_wp2_with (first
      | (go_at_call 16; refine (LO.out _ (Keeps.refl _)).mono ?_; rintro e w1 ⟨rfl, k1⟩)
      | (go_at_call 55; refine (CA'.out _ k1).mono ?_; rintro e w2 ⟨rfl, k2⟩; have K2 : Keeps w w2 := k1.trans k2)
      | fail)
    refine (CP.out _ K2).mono ?_
    rintro e w3 ⟨b3, vs, rfl, m3, k3⟩
    have M : Hid (Mine w3 w.heap.size w3.heap.size (.slice (some ⟨b3, 0, none⟩) n n) vs ls) := m3.widen K2.size (Nat.le_refl _)
    have K3 : Keeps w w3 := K2.trans k3
    clear m3
    have Hvn : Hid (vs.length = n) := M.out.len.trans Hn.out
    obtain ⟨x, hx⟩ := some_in (xs := vs) (k := j) (by rw [Hvn.out]; exact hj)
    have Hx : Hid (vs[j]? = some x) := hx
    have O0 : Own 47 2 lvc w3 w.heap.size (.slice (some ⟨b3, 0, none⟩) vs.length n) vs := by rw [Hvn.out]; exact M.out.own
    have bl : Hid (b3 < w3.heap.size) := (O0.ltb b3 rfl).2
    have bl0 : Hid (w.heap.size ≤ b3) := (O0.ltb b3 rfl).1
    have s0 : w3.cell? ⟨b3, j * 2, none⟩ = some (.int .i64 x.o) := O0.cellAt lvc_size (k := 0) hx (by omega)
    have s1 : w3.cell? ⟨b3, j * 2 + 1, none⟩ = some x.row := O0.cellAt lvc_size (k := 1) hx (by omega)
    have s2 : ∀ o, w3.frozen? ⟨b3, o, none⟩ = false := fun o => O0.frozenAt o
    have X1 := (M.out.rows j x l hx Hl.out)
    have OX : Hid (∀ w', Keeps w3 w' → OwnN w' w.heap.size x.row l.waits) := fun w' h => X1.2.keeps h
    have Xb : Hid (∀ q, x.row.ownBlock = some q → q < w3.heap.size ∧ q ≠ b3) := fun q hq => ⟨(X1.2.ltb q hq).2, fun e => (M.out.inn j x q hx hq).2 (by rw [e]; rfl)⟩
    have Xo : Hid (x.o = l.owner) := X1.1
    clear X1 O0 hx
    obtain ⟨xo, xa, xn, xc⟩ := x
    dsimp only at s0 s1
    go_wp2_with (at_builtin; (refine wpList_pushF rfl _ _ 31 rfl w.heap.size 3 (.int .i64 0) 1 8 ic Try.underlying31 (by kernel_rfl) rfl (by decide) ic_size ic_one _ l.waits rfl (OX.out _ ((Keeps.refl _).alloc _)) (by have := K3.size; simp; omega) no _ 1 (Blk.new _ _ _) rfl ?c1 ?c2 ?_))
    case c1 => have := hw1.out; unfold maxLen; omega
    case c2 => have := hw1.out; omega
    intro v6 w6 o6 g6 f6
    obtain ⟨a6, c7, e6, -, -, -⟩ := OwnN.ns o6
    obtain ⟨m6, Hm6⟩ : ∃ m, Hid ((l.waits ++ [no]).length = m) := ⟨_, rfl⟩
    rw [Hm6.out] at e6
    subst e6
    have O6 : Hid (OwnN w6 w.heap.size (.slice a6 m6 c7) (l.waits ++ [no])) := o6
    have key : Hid (∀ q, q < w3.heap.size → (Value.slice xa xn xc).ownBlock ≠ some q → w6.heap[q]? = w3.heap[q]?) := fun q hq hne => (g6.block q (by simp; omega) (fun e => hne e.symm)).trans (Below.block ((Keeps.refl w3).alloc _) q hq)
    have h36 : w6.heap[b3]? = w3.heap[b3]? := key.out b3 bl.out (fun e => (Xb.out b3 e).2 rfl)
    have s3 : w6.cell? ⟨b3, j * 2 + 1, none⟩ = some (.slice xa xn xc) := (World.cell?_of_block (w := w3) h36).trans s1
    have s4 : ∀ o, w6.frozen? ⟨b3, o, none⟩ = false := fun o => (World.frozen?_of_block (w := w3) h36).trans (s2 o)
    have sz6 : Hid (w3.heap.size + 1 ≤ w6.heap.size) := by have := g6.size; simp at this; exact this
    have f6' : Hid (∀ q, (Value.slice a6 m6 c7).ownBlock = some q → (Value.slice xa xn xc).ownBlock = some q ∨ q = w3.heap.size + 1) := fun q hq => by have := f6 q hq; simpa using this
    have kk6 : Hid (Keeps w w6) := Keeps.grown (K3.alloc _) g6 (fun q hq => ((OX.out _ (Keeps.refl _)).ltb q hq).1)
    clear o6 g6 f6 s0 s1 s2
    go_wp2
    go_ret2
    refine ⟨_, vs.set j ⟨xo, a6, m6, c7⟩, rfl, ?_, kk6.out.setCell (p := ⟨b3, j * 2 + 1, none⟩) bl0.out _⟩
    rw [Hr2.out]
    have ow6 : Own 47 2 lvc w6 w.heap.size (.slice (some ⟨b3, 0, none⟩) n n) vs := M.out.own.same fun q hq => by
      have : q = b3 := by simp [Value.ownBlock] at hq; exact hq.symm
      rw [this]; exact h36
    refine M.out.swap (x := ⟨xo, xa, xn, xc⟩) (y := ⟨xo, a6, m6, c7⟩) Hx.out (ow6.setAt lvc_size (i := j) (j := 1) (x := ⟨xo, xa, xn, xc⟩) (y := ⟨xo, a6, m6, c7⟩) (u := .slice a6 m6 c7) Hx.out (by omega) rfl) (fun q h1 h2 h3 => ?_) Xo.out ?_ (by have := sz6.out; simp; omega) (fun q hq => ?_)
    · have : q ≠ b3 := fun e => h1 (by rw [e]; rfl)
      rw [heap_setCell this]
      exact key.out q h3 h2
    · refine Own.same O6.out fun q hq => heap_setCell ?_
      rcases f6'.out q hq with h | h
      · exact (Xb.out q h).2
      · have := bl.out; omega
    · rcases f6'.out q hq with h | h
      · exact .inr h
      · have := sz6.out
        have := O6.out.ltb q hq
        exact .inl ⟨by omega, by simp; omega⟩

theorem freeB_of {ls : List Lk} {j : Nat} {l : Lk} (hb : locksB ls = true) (hl : ls[j]? = some l) (no next : Int) : freeB ls (j : Int) no next = passB l no next := by
  unfold freeB passB
  have h1 : inB (j : Int) 0 ((ls.length : Int) - 1) = true := inB_yes (by omega) (by have := lt_of_some hl; omega)
  rw [hb, h1, Int.toNat_natCast, ownerAt_of hl]
  simp [waitsAt, hl]
set_option maxRecDepth 100000 in
set_option maxHeartbeats 4000000 in
theorem implLockFree_all (a : Option Addr) (cap : Nat) (ls : List Lk) (i no next : Int) (w : World) (hl : sizeN ls ≤ 2097152) (hs : Lks true w a ls) :
    Calls Try.prog 32 #[.slice a ls.length cap, .int .i64 i, .int .i64 no, .int .i64 next] w fun e w' => ∃ v vs, e = .returned (.tuple #[v, .bool (freeB ls i no next)]) ∧ Mine w' w.heap.size w'.heap.size v vs (freeL ls i no next) ∧ Keeps w w' := by
  have HL : Hid (sizeN ls ≤ 2097152) := hl
  have hl0 : ls.length ≤ 2097152 := by unfold sizeN at hl; omega
  clear hl
  have HS : Hid (Lks true w a ls) := hs
  clear hs
  have LO : Hid (∀ w', Keeps w w' → Calls Try.prog 16 #[.slice a ls.length cap] w' fun e w'' => e = .returned (.bool (locksB ls)) ∧ Keeps w' w'') := fun w' h => implLocksOk_all a cap ls w' HL.out (HS.out.keeps h)
  have CP : Hid (∀ w', Keeps w w' → Calls Try.prog 56 #[.slice a ls.length cap] w' fun e w'' => ∃ b vs, e = .returned (.slice (some ⟨b, 0, none⟩) ls.length ls.length) ∧ Mine w'' w'.heap.size w''.heap.size (.slice (some ⟨b, 0, none⟩) ls.length ls.length) vs ls ∧ Keeps w' w'') := fun w' h => copyLocks_any a cap ls w' HL.out (HS.out.keeps h)
  have PL : Hid (∀ w', Keeps w w' → Calls Try.prog 48 #[.slice a ls.length cap] w' fun e w'' => e = .returned (.map (some w'.heap.size)) ∧ MapI w'' w'.heap.size (placesL ls) ∧ Keeps w' w'') := fun w' k => places_any a cap ls w' HL.out (HS.out.keeps k)
  generalize hn : ls.length = n at hl0
  have Hn : Hid (ls.length = n) := hn
  rw [hn] at LO CP PL
  clear hn
  have hn1 : n ≤ maxLen := by unfold maxLen; omega
  have HLo : Hid (∀ w', Calls Try.prog 58 #[.slice a n cap, .int .i64 i] w' fun e w'' => e = .returned (.bool (inB i 0 ((n : Int) - 1))) ∧ w'' = w') := fun w' => hasLock_any a cap n i w' hn1
  clear hn1
  cases hb : locksB ls
  · have Hr : Hid (freeB ls i no next = false) := by show _ = _; unfold freeB; rw [hb]; rfl
    have Hq : Hid (freeL ls i no next = []) := by show _ = _; unfold freeL; rw [hb]; rfl
    rw [hb] at LO
    go_enter Try.func32, Try.ntmps32
    go_wp2_with (go_at_call 16; refine (LO.out _ (Keeps.refl _)).mono ?_; rintro e w1 ⟨rfl, k1⟩)
    go_ret2
    refine ⟨_, [], by rw [Hr.out]; rfl, ?_, k1⟩
    rw [Hq.out]
    exact Mine.none _ _ _ _ (World.ownsRow_nil _ _ _ _) (fun q hq => by simp [Value.ownBlock] at hq)
  rw [hb] at LO
  have BAD : Hid (∀ (_ : freeB ls i no next = false), freeL ls i no next = ls) := by
    intro h
    unfold freeL
    rw [hb, h]; rfl
  cases c1 : inB i 0 ((n : Int) - 1)
  · have Hr : Hid (freeB ls i no next = false) := by show _ = _; unfold freeB; rw [hb, Hn.out, c1]; rfl
    have Hq : Hid (freeL ls i no next = ls) := BAD.out Hr.out
    rw [c1] at HLo
    go_enter Try.func32, Try.ntmps32
    go_wp2_with (first
      | (go_at_call 16; refine (LO.out _ (Keeps.refl _)).mono ?_; rintro e w1 ⟨rfl, k1⟩)
      | (go_at_call 56; refine (CP.out _ k1).mono ?_; rintro e w2 ⟨b3, vs, rfl, m2, k2⟩; have M : Hid (Mine w2 w.heap.size w2.heap.size (.slice (some ⟨b3, 0, none⟩) n n) vs ls) := m2.widen k1.size (Nat.le_refl _); have K2 : Keeps w w2 := k1.trans k2; clear m2)
      | (go_at_call 58; refine (HLo.out _).mono ?_; rintro e w' ⟨rfl, hw'⟩; have hw2 := hw'.symm; subst hw2))
    go_ret2
    exact ⟨_, vs, by rw [Hr.out]; rfl, by rw [Hq.out]; exact M.out, K2⟩
  rw [c1] at HLo
  obtain ⟨h0, h1⟩ := inB_iff.1 c1
  obtain ⟨j, rfl⟩ : ∃ j : Nat, i = (j : Int) := ⟨i.toNat, by omega⟩
  have hj : j < n := by omega
  have hj' : (j : Int) < (n : Int) := by omega
  obtain ⟨l, hl1⟩ := some_in (xs := ls) (k := j) (by rw [Hn.out]; exact hj)
  obtain ⟨b, off, a', cap', rfl, r0, r1, hle, hns⟩ := HS.out.at hl1
  have Hl : Hid (ls[j]? = some l) := hl1
  have N1 : Hid (Ns w a' l.waits) := hns
  have Hle : Hid (l.waits.length ≤ maxLen) := hle
  have hw1 : Hid (l.waits.length ≤ 2097152) := by show _ ≤ _; have := sumW_mem Hl.out; have := HL.out; unfold sizeN at this; omega
  have HF : Hid (freeB ls (j : Int) no next = passB l no next) := freeB_of hb hl1 no next
  clear hl1 hns hle h0 h1
  obtain ⟨m, Hm⟩ : ∃ m : Nat, Hid (l.waits.length = m) := ⟨_, rfl⟩
  rw [Hm.out] at r1
  obtain ⟨g, Hg⟩ : ∃ g, Hid (passB l no next = g) := ⟨_, rfl⟩
  have CN : Hid (∀ w', Keeps w w' → Calls Try.prog 59 #[.agg #[.int .i64 l.owner, .slice a' m cap'], .int .i64 no, .int .i64 next] w' fun e w'' => e = .returned (.bool g) ∧ Keeps w' w'') := fun w' k => by
    have := canPass_any l.owner a' cap' l.waits no next w' Hle.out (N1.out.keeps k)
    rwa [Hm.out, show (⟨l.owner, l.waits⟩ : Lk) = l from rfl, Hg.out] at this
  cases g
  · have Hr : Hid (freeB ls (j : Int) no next = false) := HF.out.trans Hg.out
    have Hq : Hid (freeL ls (j : Int) no next = ls) := BAD.out Hr.out
    go_enter Try.func32, Try.ntmps32
    go_wp2_with (first
      | (go_at_call 16; refine (LO.out _ (Keeps.refl _)).mono ?_; rintro e w1 ⟨rfl, k1⟩)
      | (go_at_call 56; refine (CP.out _ k1).mono ?_; rintro e w2 ⟨b3, vs, rfl, m2, k2⟩; have M : Hid (Mine w2 w.heap.size w2.heap.size (.slice (some ⟨b3, 0, none⟩) n n) vs ls) := m2.widen k1.size (Nat.le_refl _); have K2 : Keeps w w2 := k1.trans k2; clear m2)
      | (go_at_call 58; refine (HLo.out _).mono ?_; rintro e w' ⟨rfl, hw'⟩; have hw2 := hw'.symm; subst hw2)
      | (go_at_call 59; refine (CN.out _ K2).mono ?_; rintro e w3 ⟨rfl, k3⟩))
    go_ret2
    exact ⟨_, vs, by rw [Hr.out]; rfl, by rw [Hq.out]; exact (M.out.keeps k3).widen (Nat.le_refl _) k3.size, K2.trans k3⟩
  have Hr : Hid (freeB ls (j : Int) no next = true) := HF.out.trans Hg.out
  have Hq : Hid (freeL ls (j : Int) no next = ls.set j ⟨next, lessL l.waits next⟩) := by show _ = _; unfold freeL; rw [hb, Hr.out, Int.toNat_natCast, modify_set Hl.out (freed next)]; rfl
  have Hst : Hid (l.waits.filter (fun y => hasM (delM (placesL ls) next) y) = lessL l.waits next) := still_less Hl.out next
  have ST : Hid (∀ B w', Keeps w w' → MapI w' B (delM (placesL ls) next) → Calls Try.prog 60 #[.map (some B), .agg #[.int .i64 l.owner, .slice a' m cap']] w' fun e w'' => ∃ a4 m4 c4, e = .returned (.slice a4 m4 c4) ∧ OwnN w'' w'.heap.size (.slice a4 m4 c4) (lessL l.waits next) ∧ Keeps w' w'') := fun B w' k mm => by
    have := still_any B (delM (placesL ls) next) l.owner a' cap' l.waits w' hw1.out (N1.out.keeps k) mm
    rw [Hm.out, Hst.out] at this
    refine this.mono ?_
    rintro e w'' ⟨v, rfl, o, k'⟩
    obtain ⟨a4, c4, e4, -, -, -⟩ := OwnN.ns o
    subst e4
    exact ⟨_, _, _, rfl, o, k'⟩
  clear HF BAD Hst
  go_enter Try.func32, Try.ntmps32
  go_wp2_with (first
    | (go_at_call 16; refine (LO.out _ (Keeps.refl _)).mono ?_; rintro e w1 ⟨rfl, k1⟩)
    | (go_at_call 56; fail)
    | fail)
  refine (CP.out _ k1).mono ?_
  rintro e w2 ⟨b3, vs, rfl, m2, k2⟩
  have M : Hid (Mine w2 w.heap.size w2.heap.size (.slice (some ⟨b3, 0, none⟩) n n) vs ls) := m2.widen k1.size (Nat.le_refl _)
  have K2 : Keeps w w2 := k1.trans k2
  clear m2
  have Hvn : Hid (vs.length = n) := M.out.len.trans Hn.out
  obtain ⟨x, hx⟩ := some_in (xs := vs) (k := j) (by rw [Hvn.out]; exact hj)
  have Hx : Hid (vs[j]? = some x) := hx
  have O0 : Own 47 2 lvc w2 w.heap.size (.slice (some ⟨b3, 0, none⟩) vs.length n) vs := by rw [Hvn.out]; exact M.out.own
  have bl : Hid (b3 < w2.heap.size) := (O0.ltb b3 rfl).2
  have bl0 : Hid (w.heap.size ≤ b3) := (O0.ltb b3 rfl).1
  have s0 : ∀ w', Keeps w2 w' → w'.cell? ⟨b3, j * 2, none⟩ = some (.int .i64 x.o) := Keeps.has (O0.cellAt lvc_size (k := 0) hx (by omega))
  have s1 : ∀ w', Keeps w2 w' → w'.cell? ⟨b3, j * 2 + 1, none⟩ = some x.row := Keeps.has (O0.cellAt lvc_size (k := 1) hx (by omega))
  have s2 : ∀ w', Keeps w2 w' → ∀ o, w'.frozen? ⟨b3, o, none⟩ = false := fun w' h o => (h.frozens _ _ bl.out).trans (O0.frozenAt o)
  clear O0 hx
  obtain ⟨xo, xa, xn, xc⟩ := x
  dsimp only at s0 s1
  go_wp2_with (first
    | (go_at_call 58; refine (HLo.out _).mono ?_; rintro e w' ⟨rfl, hw'⟩; have hw2 := hw'.symm; subst hw2)
    | (go_at_call 59; refine (CN.out _ K2).mono ?_; rintro e w3 ⟨rfl, k3⟩; have K3 : Keeps w w3 := K2.trans k3)
    | (go_at_call 48; refine (PL.out _ K3).mono ?_; rintro e w4 ⟨rfl, m4, k4⟩; have M4 : Hid (MapI w4 w3.heap.size (placesL ls)) := m4; clear m4)
    | (at_delete; refine wpList_delI rfl _ _ 59 3 rfl 3 Try.underlying59 Try.underlying3 w3.heap.size (placesL ls) rfl M4.out next rfl ?_; intro w5 m5 g5; have M5 : Hid (MapI w5 w3.heap.size (delM (placesL ls) next)) := m5; have k25 : Keeps w2 w5 := (k3.trans k4).grown g5 (by rintro q ⟨⟩; exact k3.size); have K5 : Keeps w w5 := K2.trans k25; clear m5 g5)
    | (go_at_call 60; refine (ST.out _ _ K5 M5.out).mono ?_; rintro e w6 ⟨a4, m4, c4, rfl, o6, k6⟩; have O6 : Hid (OwnN w6 w5.heap.size (.slice a4 m4 c4) (lessL l.waits next)) := o6; have k26 : Keeps w2 w6 := k25.trans k6; have K6 : Keeps w w6 := K5.trans k6; clear o6))
  go_ret2
  refine ⟨_, vs.set j ⟨next, a4, m4, c4⟩, by rw [Hr.out]; rfl, ?_, (K6.setCell (p := ⟨b3, j * 2, none⟩) bl0.out _).setCell (p := ⟨b3, j * 2 + 1, none⟩) bl0.out _⟩
  rw [Hq.out]
  have m4' : Mine w6 w.heap.size w5.heap.size (.slice (some ⟨b3, 0, none⟩) n n) vs ls := (M.out.keeps k26).widen (Nat.le_refl _) k25.size
  have hb4 : ∀ q, (Value.slice a4 m4 c4).ownBlock = some q → w5.heap.size ≤ q ∧ q < w6.heap.size := fun q hq => O6.out.ltb q hq
  have hn4 : ∀ q, (Value.slice a4 m4 c4).ownBlock = some q → q ≠ b3 := fun q hq => by have := (hb4 q hq).1; have := bl.out; have := k25.size; omega
  refine m4'.swap (x := ⟨xo, xa, xn, xc⟩) (y := ⟨next, a4, m4, c4⟩) Hx.out (m4'.own.setTwo Hx.out ⟨next, a4, m4, c4⟩) (fun q h1 h2 h3 => ?_) rfl ?_ (by have := k6.size; simp; omega) (fun q hq => .inl ⟨(hb4 q hq).1, by have := (hb4 q hq).2; simp; omega⟩)
  · have : q ≠ b3 := fun e => h1 (by rw [e]; rfl)
    rw [heap_setCell this, heap_setCell this]
  · refine Own.same (Own.base O6.out K5.size) fun q hq => ?_
    rw [heap_setCell (hn4 q hq), heap_setCell (hn4 q hq)]

theorem implLocksOk_says : SaysLocksOk := fun a cap ls w hl _ hs => implLocksOk_all a cap ls w hl hs
theorem implWaitAt_says : SaysWaitAt := fun a cap ls no w hl _ hs => implWaitAt_all a cap ls no w hl hs
theorem implOwnsAny_says : SaysOwnsAny := fun a cap ls no w hl _ hs => implOwnsAny_all a cap ls no w (by unfold sizeN at hl; unfold maxLen; omega) hs
theorem implChainOf_says : SaysChainOf := fun a cap ls no w hl _ hs => implChainOf_all a cap ls no w hl hs
theorem implLockAsk_says : SaysLockAsk := fun a cap ls i no w hl _ hs => implLockAsk_all a cap ls i no w hl hs
theorem implLockFree_says : SaysLockFree := fun a cap ls i no next w hl _ hs => implLockFree_all a cap ls i no next w hl hs
end Go.Proofs.Ytglemedcnapneaa
