/-
  Locks: the model's copy of them.
  Rows of locks are marked, and looked at again.
  Locks: the contract of the model's asking for one.
  The walks of the exact laws of chapter 7, over contracts of the program's functions.
-/
import Derived.Test.YtfbjnhifjingeaaGLock2
namespace Go.Proofs.Ytfbjnhifjingeaa
open Go.RowKit
attribute [local go_sem] Keeps.refl Keeps.alloc Keeps.drew Keeps.drewN

theorem lies_blk {α : Type} {sz : Nat} {c : α → Array Value} {w : World} {b : Nat} {y : α} (hb : Blk w b (c y)) : Lies sz c w (some ⟨b, 0, none⟩) [y] := by
  refine .inr ⟨_, _, rfl, hb.lt, fun i x hx k hk => ?_⟩
  cases i with
  | zero => simp at hx; subst hx; simpa using hb.cells k
  | succ i => simp at hx

end Go.Proofs.Ytfbjnhifjingeaa
namespace Go.Proofs.Ytfbjnhifjingeaa
open Go.RowKit
variable {p p' : Bool}
attribute [local go_sem] Keeps.refl Keeps.alloc Keeps.drew Keeps.drewN

/-- The mark of a lock of so many that wait. -/
def markL (k : Int) (l : Lk) : Lk := ⟨k, upFrom (k + 1) l.waits.length⟩
def marksL (k0 : Int) (ls : List Lk) : List Lk := ls.mapIdx fun i l => markL (k0 + (offN ls i : Int)) l
theorem marksL_at {k0 : Int} {ls : List Lk} {i : Nat} {l : Lk} (h : ls[i]? = some l) : (marksL k0 ls)[i]? = some (markL (k0 + (offN ls i : Int)) l) := by simp [marksL, List.getElem?_mapIdx, h]
theorem marksL_length (k0 : Int) (ls : List Lk) : (marksL k0 ls).length = ls.length := by simp [marksL]

set_option maxRecDepth 100000 in
set_option maxHeartbeats 2000000 in
theorem markLockS_k (k0 : Int) (h0 : 0 ≤ k0) (h1 : k0 ≤ 50000000) (v : Value) (vs0 : List Lv) (ls : List Lk) (lo hi : Nat) (w : World) (hl : sizeN ls ≤ 2097152) (h : Mine w lo hi v vs0 ls) :
    Calls Try.prog 36 #[v, .int .i64 k0] w fun e w' => e = .returned (.int .i64 (k0 + (sizeN ls : Int))) ∧ (∃ vs, Mine w' lo hi v vs (marksL k0 ls)) ∧ Within lo hi w w' := by
  have MH : Hid (Mine w lo hi v vs0 ls) := h
  obtain ⟨a, cap, rfl, -, -⟩ := h.lks
  clear h
  have HL : Hid (sizeN ls ≤ 2097152) := hl
  have hl0 : ls.length ≤ 2097152 := by unfold sizeN at hl; omega
  clear hl
  generalize hn : ls.length = n at hl0
  have Hn : Hid (ls.length = n) := hn
  rw [hn] at MH
  clear hn
  go_enter Try.func36, Try.ntmps36
  go_wp2
  go_loopw [1, 5] (fun c i wr => ∃ (k : Nat) (vs : List Lv) (P : List Lk) (q : Nat), k ≤ n ∧ i = .int .i64 k ∧ c = .int .i64 (k0 + (q : Int)) ∧ Hid (offN ls k = q) ∧ q ≤ 2097152 ∧ Hid (Mine wr lo hi (.slice a n cap) vs P) ∧ Hid (P.length = n) ∧ Hid (∀ (j : Nat) (l : Lk), j < k → ls[j]? = some l → P[j]? = some (markL (k0 + (offN ls j : Int)) l)) ∧ Hid (∀ (j : Nat) (l : Lk), k ≤ j → ls[j]? = some l → P[j]? = some l) ∧ Hid (Within lo hi w wr)) (fun _ i _ => n - (intOf i).toNat)
  case atStart => exact ⟨0, vs0, ls, 0, Nat.zero_le _, rfl, by simp, offN_zero ls, by omega, MH, Hn, fun j _ hj => by omega, fun j l _ h => h, Within.refl _ _ _⟩
  case round =>
    obtain ⟨k, vs, P, q, hk, rfl, rfl, Hq, hq1, M, hP, hf, hg, hW⟩ := hrel
    clear MH
    by_cases hlt : k < n
    · obtain ⟨l, hl1⟩ := some_in (xs := ls) (k := k) (by rw [Hn.out]; exact hlt)
      have hlt' : (k : Int) < (n : Int) := by omega
      have Hl : Hid (ls[k]? = some l) := hl1
      have hPk : Hid (P[k]? = some l) := hg.out k l (Nat.le_refl _) hl1
      have hw : Hid (q + 1 + l.waits.length ≤ 2097152) := by
        show _ ≤ _
        have h1 := offN_succ hl1
        have h2 := offN_le (ls := ls) (k := k + 1) (by rw [Hn.out]; exact hlt)
        have h3 := HL.out
        rw [Hq.out] at h1
        omega
      clear hl1
      have hvl : Hid (k < vs.length) := by show _ < _; rw [M.out.len, hP.out]; exact hlt
      obtain ⟨x, hx⟩ := some_in hvl.out
      have Hx : Hid (vs[k]? = some x) := hx
      have hvn : Hid (vs.length = n) := M.out.len.trans hP.out
      have O0 := M.out.own
      obtain ⟨b, cap2, e⟩ := O0.blk (by have := hvl.out; omega)
      simp only [Value.slice.injEq] at e
      obtain ⟨rfl, -, rfl⟩ := e
      rw [← hvn.out] at O0
      have s0 : wr.cell? ⟨b, k * 2, none⟩ = some (.int .i64 x.o) := O0.cellAt lvc_size (k := 0) hx (by omega)
      have s1 : wr.cell? ⟨b, k * 2 + 1, none⟩ = some x.row := O0.cellAt lvc_size (k := 1) hx (by omega)
      have s2 : ∀ o, wr.frozen? ⟨b, o, none⟩ = false := fun o => O0.frozenAt o
      have bl : Hid (lo ≤ b ∧ b < hi) := ⟨(O0.ltb b rfl).1, M.out.out b rfl⟩
      have M1 : Hid (Mine (wr.setCell ⟨b, k * 2, none⟩ (.int .i64 (k0 + (q : Int)))) lo hi (.slice (some ⟨b, 0, none⟩) n cap) (vs.set k { x with o := k0 + (q : Int) }) (P.set k { l with owner := k0 + (q : Int) })) := by
        have m := M.out
        rw [← hvn.out] at m
        have := m.setOwner hx hPk.out (k0 + (q : Int))
        rw [List.length_set, hvn.out] at this
        exact this
      clear O0 hx
      obtain ⟨xo, xa, xn, xc⟩ := x
      dsimp only at s0 s1
      go_wp2_with fail
      have hx2 : (vs.set k { (⟨xo, xa, xn, xc⟩ : Lv) with o := k0 + (q : Int) })[k]? = some ⟨k0 + (q : Int), xa, xn, xc⟩ := List.getElem?_set_self hvl.out
      have hl2 : (P.set k { l with owner := k0 + (q : Int) })[k]? = some { l with owner := k0 + (q : Int) } := List.getElem?_set_self (by rw [hP.out]; exact hlt)
      have own1 := (M1.out.rows k _ _ hx2 hl2).2
      have hww := hw.out
      refine (markIntS_own (.slice xa xn xc) lo l.waits _ _ (by omega) (by omega) (by omega) own1).mono ?_
      rintro e w2 ⟨rfl, O2, g2⟩
      have M2 := M1.out.turned hx2 hl2 g2 O2
      have HM2 : Hid (Mine w2 lo hi (.slice (some ⟨b, 0, none⟩) n cap) (vs.set k { (⟨xo, xa, xn, xc⟩ : Lv) with o := k0 + (q : Int) }) ((P.set k { l with owner := k0 + (q : Int) }).set k { owner := k0 + (q : Int), waits := upFrom (k0 + (q : Int) + 1) l.waits.length })) := M2
      have W2 : Hid (Within lo hi w w2) := by
        refine hW.out.trans (Within.trans (b := wr.setCell ⟨b, k * 2, none⟩ (.int .i64 (k0 + (q : Int)))) ⟨rfl, rfl, rfl, by simp, fun c hc ho => heap_setCell (by have := bl.out; omega)⟩ (Within.grown g2 fun c hc => ?_))
        exact ⟨(own1.ltb c hc).1, (M1.out.inn k _ c hx2 hc).1⟩
      obtain ⟨m, Hm⟩ : ∃ m : Nat, Hid (l.waits.length = m) := ⟨_, rfl⟩
      rw [Hm.out] at hww ⊢
      clear M1 M2 own1 g2 O2 hx2 hl2 s0 s1 s2
      go_wp2
      refine ⟨⟨k + 1, _, _, q + 1 + m, by omega, by go_num, by rw [show k0 + ((q + 1 + m : Nat) : Int) = k0 + (q : Int) + 1 + (m : Int) from by omega], by show _ = _; rw [offN_succ Hl.out, Hq.out, Hm.out], by omega, HM2, by show _ = _; simpa using hP.out, ?_, ?_, W2⟩, by simp only [intOf]; omega⟩
      · intro j y hj hy
        by_cases e : j = k
        · subst e
          rw [Hl.out] at hy
          cases hy
          rw [Hq.out, List.getElem?_set_self (by simp [hP.out]; exact hlt)]
          rfl
        · rw [List.getElem?_set_ne (Ne.symm e), List.getElem?_set_ne (Ne.symm e)]
          exact hf.out j y (by omega) hy
      · intro j y hj hy
        rw [List.getElem?_set_ne (by omega), List.getElem?_set_ne (by omega)]
        exact hg.out j y (by omega) hy
    · have e : k = n := by omega
      subst e
      have e2 : Hid (P = marksL k0 ls) := by
        show _ = _
        apply List.ext_getElem?
        intro j
        rcases Nat.lt_or_ge j k with hj | hj
        · obtain ⟨m, hm⟩ := some_in (xs := ls) (k := j) (by rw [Hn.out]; exact hj)
          rw [marksL_at hm]; exact hf.out j m hj hm
        · rw [List.getElem?_eq_none (by rw [hP.out]; exact hj), List.getElem?_eq_none (by rw [marksL_length, Hn.out]; exact hj)]
      have e3 : Hid (sizeN ls = q) := by show _ = _; rw [← offN_all, Hn.out]; exact Hq.out
      go_wp2
      go_ret
      refine ⟨by rw [e3.out]; rfl, ⟨vs, ?_⟩, hW.out⟩
      have := M.out
      rw [e2.out] at this
      exact this

set_option maxRecDepth 100000 in
set_option maxHeartbeats 2000000 in
theorem heldLockS_k (k0 : Int) (h0 : 0 ≤ k0) (h1 : k0 ≤ 50000000) (a : Option Addr) (cap : Nat) (ls : List Lk) (w : World) (hl : sizeN ls ≤ 2097152) (hs : Lks p w a (marksL k0 ls)) :
    Calls Try.prog 40 #[.slice a ls.length cap, .int .i64 k0] w fun e w' => e = .returned (.int .i64 (k0 + (sizeN ls : Int))) ∧ Keeps w w' := by
  have HL : Hid (sizeN ls ≤ 2097152) := hl
  have hl0 : ls.length ≤ 2097152 := by unfold sizeN at hl; omega
  clear hl
  generalize hn : ls.length = n at hl0
  have Hn : Hid (ls.length = n) := hn
  clear hn
  have e1 : ∀ x : Int, (x != x) = false := by simp
  go_enter Try.func40, Try.ntmps40
  go_wp2
  go_loopw [1, 5] (fun c i wr => ∃ (k q : Nat), k ≤ n ∧ i = .int .i64 k ∧ c = .int .i64 (k0 + (q : Int)) ∧ Hid (offN ls k = q) ∧ q ≤ 2097152 ∧ Keeps w wr) (fun _ i _ => n - (intOf i).toNat)
  case atStart => exact ⟨0, 0, Nat.zero_le _, rfl, by simp, offN_zero ls, by omega, Keeps.refl _⟩
  case round =>
    obtain ⟨k, q, hk, rfl, rfl, Hq, hq1, hK⟩ := hrel
    by_cases hlt : k < n
    · obtain ⟨l, hl1⟩ := some_in (xs := ls) (k := k) (by rw [Hn.out]; exact hlt)
      have hlt' : (k : Int) < (n : Int) := by omega
      have Hl : Hid (ls[k]? = some l) := hl1
      have hw : q + 1 + l.waits.length ≤ 2097152 := by
        have h1 := offN_succ hl1
        have h2 := offN_le (ls := ls) (k := k + 1) (by rw [Hn.out]; exact hlt)
        have h3 := HL.out
        rw [Hq.out] at h1
        omega
      obtain ⟨b, off, a', cap', rfl, r0, r1, -, hns⟩ := hs.at (marksL_at (k0 := k0) hl1)
      have r0' : ∀ w', Keeps w w' → w'.cell? ⟨b, off + k * 2, none⟩ = some (.int .i64 (k0 + (q : Int))) := by rw [← Hq.out]; exact r0
      have r1' : ∀ w', Keeps w w' → w'.cell? ⟨b, off + k * 2 + 1, none⟩ = some (.slice a' l.waits.length cap') := by
        have := r1
        simp only [markL, upFrom_length] at this
        exact this
      have N1 : Hid (Ns w a' (upFrom (k0 + (q : Int) + 1) l.waits.length)) := by rw [← Hq.out]; exact hns
      clear hs hl1 r0 r1 hns
      obtain ⟨m, Hm⟩ : ∃ m : Nat, Hid (l.waits.length = m) := ⟨_, rfl⟩
      rw [Hm.out] at hw r1' N1
      have z1 : (k0 + (q : Int) + 1 + (m : Int) < 0) = False := by simp; omega
      have z2 : decide (k0 + (q : Int) + 1 + (m : Int) < 0) = false := by simp; omega
      go_wp2_with (go_at_call 42; refine (heldIntS_any a' cap' m (k0 + (q : Int) + 1) _ (by omega) (by omega) (by omega) (N1.out.keeps hK)).mono ?_; rintro e w1 ⟨rfl, k1⟩)
      refine ⟨⟨k + 1, q + 1 + m, by omega, by go_num, by rw [show k0 + ((q + 1 + m : Nat) : Int) = k0 + (q : Int) + 1 + (m : Int) from by omega], by show _ = _; rw [offN_succ Hl.out, Hq.out, Hm.out], by omega, hK.trans k1⟩, by simp only [intOf]; omega⟩
    · have e : k = n := by omega
      subst e
      have e3 : Hid (sizeN ls = q) := by show _ = _; rw [← offN_all, Hn.out]; exact Hq.out
      go_wp2
      go_ret
      exact ⟨by rw [e3.out]; rfl, hK⟩
set_option maxRecDepth 100000 in
theorem markLockS_any (v : Value) (vs0 : List Lv) (ls : List Lk) (lo hi : Nat) (w : World) (hl : sizeN ls ≤ 2097152) (h : Mine w lo hi v vs0 ls) :
    Calls Try.prog 36 #[v, .int .i64 1] w fun e w' => e = .returned (.int .i64 (1 + (sizeN ls : Int))) ∧ (∃ vs, Mine w' lo hi v vs (marksL 1 ls)) ∧ Within lo hi w w' := markLockS_k 1 (by decide) (by decide) v vs0 ls lo hi w hl h
set_option maxRecDepth 100000 in
theorem heldLockS_any (a : Option Addr) (cap : Nat) (ls : List Lk) (w : World) (hl : sizeN ls ≤ 2097152) (hs : Lks p w a (marksL 1 ls)) :
    Calls Try.prog 40 #[.slice a ls.length cap, .int .i64 1] w fun e w' => e = .returned (.int .i64 (1 + (sizeN ls : Int))) ∧ Keeps w w' := heldLockS_k 1 (by decide) (by decide) a cap ls w hl hs
end Go.Proofs.Ytfbjnhifjingeaa
namespace Go.Proofs.Ytfbjnhifjingeaa
open Go.RowKit
attribute [local go_sem] Keeps.refl Keeps.alloc Keeps.drew Keeps.drewN

theorem modify_set {ls : List Lk} {i : Nat} {l : Lk} (h : ls[i]? = some l) (f : Lk → Lk) : ls.modify i f = ls.set i (f l) := by
  apply List.ext_getElem?
  intro j
  by_cases e : i = j
  · subst e
    rw [List.getElem?_modify, List.getElem?_set_self (lt_of_some h), h]
    simp
  · rw [List.getElem?_modify, List.getElem?_set_ne e]
    simp [e]
theorem waitAt_ge {ls : List Lk} {no : Int} (h : decide (0 ≤ waitAt ls no) = false) : waitAt ls no = -1 := by
  unfold waitAt at h ⊢
  split
  · rename_i i hi; rw [hi] at h; simp at h
  · rfl

end Go.Proofs.Ytfbjnhifjingeaa
namespace Go.Proofs.Ytfbjnhifjingeaa
open Go.RowKit
variable {p : Bool}
attribute [local go_sem] Keeps.refl Keeps.alloc Keeps.drew Keeps.drewN

set_option maxRecDepth 100000 in
theorem toLockS_all (a : Option Addr) (cap : Nat) (ls : List Lk) (w : World) (hl : sizeN ls ≤ 1048576) (hs : Lks p w a ls) :
    Calls Try.prog 50 #[.slice a ls.length cap] w fun e w' => ∃ b vs, e = .returned (.slice (some ⟨b, 0, none⟩) ls.length ls.length) ∧ Mine w' w.heap.size w'.heap.size (.slice (some ⟨b, 0, none⟩) ls.length ls.length) vs ls ∧ Lks true w' (some ⟨b, 0, none⟩) ls ∧ Plain w' (some ⟨b, 0, none⟩) ls.length ls.length ∧ Keeps w w' := by
  refine (toLockS_any a cap ls w hl hs).mono ?_
  rintro e w' ⟨b, vs, rfl, M, k⟩
  obtain ⟨a1, c1, e1, L1, P1, -⟩ := M.args
  simp only [Value.slice.injEq] at e1
  obtain ⟨rfl, -, rfl⟩ := e1
  exact ⟨b, vs, rfl, M, L1, P1, k⟩
theorem szAll_ok {ls : List Lk} (h : sizeN ls ≤ 1048576) : ∃ q : Int, szAll ls = q ∧ 0 ≤ q := ⟨_, rfl, by unfold szAll; rw [if_pos h]; omega⟩
theorem szAll_bad {ls : List Lk} (h : ¬ sizeN ls ≤ 1048576) : szAll ls = -1 := by unfold szAll; rw [if_neg h]

end Go.Proofs.Ytfbjnhifjingeaa
