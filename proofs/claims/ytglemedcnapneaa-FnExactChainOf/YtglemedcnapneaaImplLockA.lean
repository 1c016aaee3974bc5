/-
  The program's locks: who waits where, and what follows from it, its own helpers.
-/
import Derived.Test.YtglemedcnapneaaImplLockP
import Derived.Test.YtglemedcnapneaaImplIn
import Derived.Test.YtglemedcnapneaaOwn
import Derived.WalkMore
namespace Go.Proofs.Ytglemedcnapneaa
open Go.RowKit
variable {p : Bool}
attribute [local go_sem] Keeps.refl Keeps.alloc Keeps.drew Keeps.drewN

set_option maxRecDepth 100000 in
theorem zeroI (w : World) : (zeroValue 3).run Try.prog w = .ok (.int .i64 0) w := by kernel_rfl

set_option maxRecDepth 100000 in
set_option maxHeartbeats 1000000 in
theorem sliceIndex_any (a : Option Addr) (cap : Nat) (xs : List Int) (x : Int) (w : World) (hl : xs.length ≤ maxLen) (hs : Ns w a xs) :
    Calls Try.prog 73 #[.slice a xs.length cap, .int .i64 x] w fun e w' => ∃ i : Int, e = .returned (.int .i64 i) ∧ decide (0 ≤ i) = hasB xs x ∧ Keeps w w' := by
  unfold maxLen at hl
  generalize hn : xs.length = n at hl
  have Hn : Hid (xs.length = n) := hn
  clear hn
  go_enter Try.func73, Try.ntmps73
  go_wp2
  go_loopw [8] (fun i wr => ∃ k : Nat, k ≤ n ∧ i = .int .i64 k ∧ Keeps w wr ∧ Hid (∀ (j : Nat) (y : Int), j < k → xs[j]? = some y → (y == x) = false)) (fun i _ => n - (intOf i).toNat)
  case atStart => exact ⟨0, Nat.zero_le _, rfl, Keeps.refl _, fun j y hj => by omega⟩
  case round =>
    obtain ⟨k, hk, rfl, hK, H⟩ := hrel
    by_cases hlt : k < n
    · obtain ⟨y, hy⟩ := some_in (xs := xs) (k := k) (by rw [Hn.out]; exact hlt)
      obtain ⟨b, off, rfl, r0⟩ := hs.at hy
      have hlt' : (k : Int) < (n : Int) := by omega
      have Hy : Hid (xs[k]? = some y) := hy
      clear hs hy
      have hsym : (x == y) = (y == x) := Bool.beq_comm
      cases hq : (y == x)
      · rw [hq] at hsym
        go_wp2
        exact ⟨⟨k + 1, by omega, by go_num, hK, fun j s hj hs => by
          by_cases e : j = k
          · subst e; rw [Hy.out] at hs; cases hs; exact hq
          · exact H.out j s (by omega) hs⟩, by simp only [intOf]; omega⟩
      · rw [hq] at hsym
        have Hr : Hid (hasB xs x = true) := hasB_at Hy.out hq
        go_wp2
        go_ret
        exact ⟨_, rfl, by rw [Hr.out]; simp, hK⟩
    · have Hr : Hid (hasB xs x = false) := hasB_none fun j y hy => H.out j y (by have := lt_of_some hy; rw [Hn.out] at this; omega) hy
      go_wp2
      go_ret
      exact ⟨_, rfl, by rw [Hr.out]; simp, hK⟩
set_option maxRecDepth 100000 in
theorem sliceHas_any (a : Option Addr) (cap : Nat) (xs : List Int) (x : Int) (w : World) (hl : xs.length ≤ maxLen) (hs : Ns w a xs) :
    Calls Try.prog 69 #[.slice a xs.length cap, .int .i64 x] w fun e w' => e = .returned (.bool (hasB xs x)) ∧ Keeps w w' := by
  have C := sliceIndex_any a cap xs x w hl hs
  obtain ⟨n, Hn⟩ : ∃ n, Hid (xs.length = n) := ⟨_, rfl⟩
  rw [Hn.out] at C ⊢
  go_enter Try.func69, Try.ntmps69
  go_wp2_with (go_at_call 73; refine C.mono ?_; rintro e w1 ⟨i, rfl, hi, k1⟩; have Hi : Hid (decide (0 ≤ i) = hasB xs x) := hi; clear hi)
  go_ret
  exact ⟨by rw [← Hi.out]; rfl, k1⟩

set_option maxRecDepth 100000 in
set_option maxHeartbeats 1000000 in
theorem countWaits_any (a : Option Addr) (cap : Nat) (ls : List Lk) (w : World) (hl : sizeN ls ≤ 2097152) (hs : Lks p w a ls) :
    Calls Try.prog 49 #[.slice a ls.length cap] w fun e w' => e = .returned (.int .i64 (sumW ls)) ∧ Keeps w w' := by
  have HL : Hid (sizeN ls ≤ 2097152) := hl
  have hl0 : ls.length ≤ 2097152 := by unfold sizeN at hl; omega
  clear hl
  generalize hn : ls.length = n at hl0
  have Hn : Hid (ls.length = n) := hn
  clear hn
  go_enter Try.func49, Try.ntmps49
  go_wp2
  go_loopw [3, 8] (fun c i wr => ∃ (k q : Nat), k ≤ n ∧ i = .int .i64 k ∧ c = .int .i64 q ∧ Hid (sumW (ls.take k) = q) ∧ q ≤ 2097152 ∧ Keeps w wr) (fun _ i _ => n - (intOf i).toNat)
  case atStart => exact ⟨0, 0, Nat.zero_le _, rfl, rfl, by show _ = _; simp [sumW], by omega, Keeps.refl _⟩
  case round =>
    obtain ⟨k, q, hk, rfl, rfl, Hq, hq1, hK⟩ := hrel
    by_cases hlt : k < n
    · obtain ⟨l, hl1⟩ := some_in (xs := ls) (k := k) (by rw [Hn.out]; exact hlt)
      obtain ⟨b, off, a', cap', rfl, r0, r1, hle, hns⟩ := hs.at hl1
      have hlt' : (k : Int) < (n : Int) := by omega
      have Hl : Hid (ls[k]? = some l) := hl1
      have hw2 : Hid (q + l.waits.length ≤ 2097152) := by
        show _ ≤ _
        have h1 := sumW_take hl1
        have h2 := sumW_le ls (k + 1)
        have h4 := HL.out
        rw [Hq.out] at h1
        unfold sizeN at h4
        omega
      clear hl1 hle hns hs
      obtain ⟨m, Hm⟩ : ∃ m : Nat, Hid (l.waits.length = m) := ⟨_, rfl⟩
      have hm2 : q + m ≤ 2097152 := by rw [← Hm.out]; exact hw2.out
      rw [Hm.out] at r1
      go_wp2
      exact ⟨⟨k + 1, q + m, by omega, by go_num, by go_num, by show _ = _; rw [sumW_take Hl.out, Hq.out, Hm.out], by omega, hK.alloc _⟩, by simp only [intOf]; omega⟩
    · have e : k = n := by omega
      subst e
      have Hr : Hid (sumW ls = q) := by show _ = _; rw [← Hq.out, ← Hn.out, List.take_length]
      go_wp2
      go_ret
      exact ⟨by rw [Hr.out]; rfl, hK⟩

set_option maxRecDepth 100000 in
set_option maxHeartbeats 4000000 in
theorem places_any (a : Option Addr) (cap : Nat) (ls : List Lk) (w : World) (hl : sizeN ls ≤ 2097152) (hs : Lks p w a ls) :
    Calls Try.prog 48 #[.slice a ls.length cap] w fun e w' => e = .returned (.map (some w.heap.size)) ∧ MapI w' w.heap.size (placesL ls) ∧ Keeps w w' := by
  have HL : Hid (sizeN ls ≤ 2097152) := hl
  have hl0 : ls.length ≤ 2097152 := by unfold sizeN at hl; omega
  clear hl
  have HS : Hid (Lks p w a ls) := hs
  clear hs
  generalize hn : ls.length = n at hl0
  have Hn : Hid (ls.length = n) := hn
  clear hn
  have hmm := @run_makeMap Try.prog
  go_enter Try.func48, Try.ntmps48
  go_wp2
  clear hmm
  have kz : Hid (Keeps w (w.alloc (.map #[] 0))) := (Keeps.refl _).alloc _
  have M0 : Hid (MapI (w.alloc (.map #[] 0)) w.heap.size []) := MapI.made w
  generalize w.alloc (.map #[] 0) = W at *
  go_loopw [13] (fun i wr => ∃ (k : Nat), k ≤ n ∧ i = .int .i64 k ∧ Hid (MapI wr w.heap.size (placesTo ls k)) ∧ Keeps w wr) (fun i _ => n - (intOf i).toNat)
  case atStart => exact ⟨0, Nat.zero_le _, rfl, M0, kz.out⟩
  case round =>
    obtain ⟨k, hk, rfl, M, hK⟩ := hrel
    clear M0 kz
    by_cases hlt : k < n
    · obtain ⟨l, hl1⟩ := some_in (xs := ls) (k := k) (by rw [Hn.out]; exact hlt)
      obtain ⟨b, off, a', cap', rfl, r0, r1, hle, hns⟩ := HS.out.at hl1
      have hlt' : (k : Int) < (n : Int) := by omega
      have Hl : Hid (ls[k]? = some l) := hl1
      have hw1 : Hid (l.waits.length ≤ 2097152) := by show _ ≤ _; have := sumW_mem hl1; have := HL.out; unfold sizeN at this; omega
      clear hl1 hle
      obtain ⟨m, Hm⟩ : ∃ m : Nat, Hid (l.waits.length = m) := ⟨_, rfl⟩
      have hm1 : m ≤ 2097152 := by rw [← Hm.out]; exact hw1.out
      rw [Hm.out] at r1
      have M1 : Hid (∀ o, MapI (wr.alloc o) w.heap.size (placesTo ls k)) := fun o => M.out.keeps ((Keeps.refl wr).alloc o)
      go_wp2
      go_loopw [21] (fun i w2 => ∃ (j : Nat), j ≤ m ∧ i = .int .i64 j ∧ Hid (MapI w2 w.heap.size (addL k (placesTo ls k) (l.waits.take j))) ∧ Keeps w w2) (fun i _ => m - (intOf i).toNat)
      case atStart => exact ⟨0, Nat.zero_le _, rfl, M1.out _, hK.alloc _⟩
      case round =>
        obtain ⟨j, hj, rfl, M2, hK2⟩ := hrel
        clear M M1
        by_cases hlt2 : j < m
        · obtain ⟨x, hx⟩ := some_in (xs := l.waits) (k := j) (by rw [Hm.out]; exact hlt2)
          obtain ⟨b2, off2, rfl, x0⟩ := hns.at hx
          have hlt3 : (j : Int) < (m : Int) := by omega
          have Hx : Hid (l.waits[j]? = some x) := hx
          clear hns hx
          obtain ⟨E, HE⟩ : ∃ E, Hid (addL k (placesTo ls k) (l.waits.take j) = E) := ⟨_, rfl⟩
          rw [HE.out] at M2
          have HN : Hid (addL k (placesTo ls k) (l.waits.take (j + 1)) = addW k E x) := by show _ = _; rw [addL_take Hx.out, HE.out]
          obtain ⟨v, Hv⟩ : ∃ v, Hid (valM E x = v) := ⟨_, rfl⟩
          cases hq : hasM E x
          · have Hq : Hid (lookM E x = none) := by show _ = _; unfold hasM at hq; simpa using hq
            have HQ : Hid (hasM E x = false) := hq
            have HA : Hid (addW k E x = E ++ [(x, (k : Int))]) := by show _ = _; unfold addW; rw [hq]; rfl
            clear hq
            go_wp2_with (first
              | (at_lookup; refine wpList_lookI rfl _ _ 59 rfl 3 3 Try.underlying59 Try.underlying3 (zeroI _) w.heap.size E rfl M2.out x rfl v false Hv.out HQ.out ?_)
              | (at_mapUpdate; refine wpList_putI rfl _ _ _ 59 rfl 3 3 Try.underlying59 Try.underlying3 w.heap.size E rfl M2.out x k rfl rfl Hq.out ?_; intro w5 m5 g5; have M5 : Hid (MapI w5 w.heap.size (E ++ [(x, (k : Int))])) := m5; have K5 : Hid (Keeps w w5) := hK2.grown g5 (by rintro q ⟨⟩; exact Nat.le_refl _); clear m5 g5))
            exact ⟨⟨j + 1, by omega, by go_num, by show MapI _ _ _; rw [HN.out, HA.out]; exact M5.out, K5.out⟩, by simp only [intOf]; omega⟩
          · have HQ : Hid (hasM E x = true) := hq
            have HA : Hid (addW k E x = E) := by show _ = _; unfold addW; rw [hq]; rfl
            clear hq
            go_wp2_with (first
              | (at_lookup; refine wpList_lookI rfl _ _ 59 rfl 3 3 Try.underlying59 Try.underlying3 (zeroI _) w.heap.size E rfl M2.out x rfl v true Hv.out HQ.out ?_))
            exact ⟨⟨j + 1, by omega, by go_num, by show MapI _ _ _; rw [HN.out, HA.out]; exact M2.out, hK2⟩, by simp only [intOf]; omega⟩
        · have e : j = m := by omega
          subst e
          have HN : Hid (placesTo ls (k + 1) = addL k (placesTo ls k) (l.waits.take j)) := by show _ = _; rw [placesTo_step Hl.out, ← Hm.out, List.take_length]
          go_wp2
          exact ⟨⟨k + 1, by omega, by go_num, by show MapI _ _ _; rw [HN.out]; exact M2.out, hK2⟩, by simp only [intOf]; omega⟩
    · have e : k = n := by omega
      subst e
      have HR : Hid (placesTo ls k = placesL ls) := by show _ = _; unfold placesL; rw [Hn.out]
      rw [HR.out] at M
      go_wp2
      go_ret
      exact ⟨rfl, M.out, hK⟩

def sliceLen : Value → Nat
  | .slice _ n _ => n
  | _ => 0
set_option maxRecDepth 100000 in
set_option maxHeartbeats 4000000 in
theorem chainFrom_any (B : Nat) (a : Option Addr) (cap : Nat) (ls : List Lk) (no : Int) (w : World) (hl : ls.length ≤ 2097152) (hs : Lks p w a ls) (hm : MapI w B (placesL ls)) :
    Calls Try.prog 53 #[.map (some B), .int .i64 no, .slice a ls.length cap] w fun e w' => ∃ v, e = .returned (.tuple #[v, .bool (chainN ls (ls.length + 1) no).2]) ∧ ((chainN ls (ls.length + 1) no).2 = true → OwnN w' w.heap.size v (chainN ls (ls.length + 1) no).1) ∧ Keeps w w' := by
  have HS : Hid (Lks p w a ls) := hs
  have HM : Hid (MapI w B (placesL ls)) := hm
  clear hs hm
  generalize hn : ls.length = n at hl
  have Hn : Hid (ls.length = n) := hn
  clear hn
  obtain ⟨C, HC⟩ : ∃ C, Hid (chainN ls (n + 1) no = C) := ⟨_, rfl⟩
  rw [HC.out]
  go_enter Try.func53, Try.ntmps53
  go_wp2
  go_step3
  go_wp2
  go_step3
  go_wp2
  have kz : Hid (Keeps w (w.alloc (.cells #[.int .i64 no] 3))) := (Keeps.refl _).alloc _
  have own0 : Hid (OwnN (w.alloc (.cells #[.int .i64 no] 3)) w.heap.size (.slice (some ⟨w.heap.size, 0, none⟩) 1 1) ([] ++ [no])) := World.ownsRow_lit w #[.int .i64 no] 1 (Nat.le_refl _) (by unfold maxLen; omega) rfl
  generalize w.alloc (.cells #[.int .i64 no] 3) = W at *
  go_loopw [1, 8] (fun c v wr => ∃ (done : List Int) (cur : Int), done.length ≤ n ∧ c = .int .i64 cur ∧ Hid (OwnN wr w.heap.size v (done ++ [cur])) ∧ Keeps w wr ∧ Hid (C = (done ++ (chainN ls (n + 1 - done.length) cur).1, (chainN ls (n + 1 - done.length) cur).2))) (fun _ v _ => n + 1 - sliceLen v)
  case atStart => exact ⟨[], no, Nat.zero_le _, rfl, own0, kz.out, by show _ = _; rw [← HC.out]; simp⟩
  case round =>
    obtain ⟨done, cur, hd, rfl, own, hK, HI⟩ := hrel
    clear own0 kz
    obtain ⟨k, Hk⟩ : ∃ k, Hid (done.length = k) := ⟨_, rfl⟩
    have hd' : k ≤ n := by rw [← Hk.out]; exact hd
    clear hd
    rw [Hk.out] at HI
    obtain ⟨av, cv, ev, -, -, -⟩ := OwnN.ns own.out
    have el : Hid ((done ++ [cur]).length = k + 1) := by show _ = _; simp [Hk.out]
    rw [el.out] at ev
    subst ev
    obtain ⟨f, Hf⟩ : ∃ f, Hid (n + 1 - k = f + 1) := ⟨n - k, by show _ = _; omega⟩
    have HI2 : Hid (C = (done ++ (chainN ls (f + 1) cur).1, (chainN ls (f + 1) cur).2)) := by show _ = _; rw [← Hf.out]; exact HI.out
    have MM : Hid (MapI wr B (placesL ls)) := HM.out.keeps hK
    cases hx : waitIx ls cur with
    | none =>
      have HQ : Hid (hasM (placesL ls) cur = false) := placesL_none hx
      obtain ⟨v, Hv⟩ : ∃ v, Hid (valM (placesL ls) cur = v) := ⟨_, rfl⟩
      have HR : Hid (C = (done ++ [cur], true)) := by show _ = _; rw [HI2.out, chainN_end hx]
      go_wp2_with (first
        | (at_lookup; refine wpList_lookI rfl _ _ 59 rfl 3 3 Try.underlying59 Try.underlying3 (zeroI _) B (placesL ls) rfl MM.out cur rfl v false Hv.out HQ.out ?_))
      rw [Exit.noGoto_ret]
      go_ret2
      exact ⟨_, by rw [HR.out]; rfl, fun _ => by rw [HR.out]; exact own.out, hK⟩
    | some i =>
      have HQ : Hid (hasM (placesL ls) cur = true) := (placesL_some hx).1
      have Hv : Hid (valM (placesL ls) cur = (i : Int)) := (placesL_some hx).2
      obtain ⟨l, hl1, -, -⟩ := waitIx_some hx
      have Hi : Hid (i < n) := by show _ < _; have := lt_of_some hl1; rw [Hn.out] at this; exact this
      have hi1 : (i : Int) < (n : Int) := by have := Hi.out; omega
      obtain ⟨b, off, a', cap', rfl, r0, r1, -, -⟩ := HS.out.at hl1
      have HR : Hid (C = ((done ++ [cur]) ++ (chainN ls f l.owner).1, (chainN ls f l.owner).2)) := by
        show _ = _
        rw [HI2.out, chainN_step hx, ownerAt_of hl1]
        simp
      clear hl1 r1
      by_cases hlt : k < n
      · have hlt' : ¬ ((n : Int) < (k : Int) + 1) := by omega
        have hlt2 : decide ((n : Int) < (k : Int) + 1) = false := by simpa using hlt'
        go_wp2_with (first
          | (at_lookup; refine wpList_lookI rfl _ _ 59 rfl 3 3 Try.underlying59 Try.underlying3 (zeroI _) B (placesL ls) rfl MM.out cur rfl (i : Int) true Hv.out HQ.out ?_)
          | (at_builtin; (refine wpList_push rfl _ _ 31 rfl w 3 (.int .i64 0) 1 8 ic Try.underlying31 (by kernel_rfl) rfl (by decide) ic_size ic_one _ (done ++ [cur]) rfl wr own.out hK ((Keeps.refl _).alloc _) l.owner _ 1 (Blk.new _ _ _) rfl ?c1 ?c2 ?_)))
        case c1 => have := Hk.out; unfold maxLen; omega
        case c2 => have := Hk.out; omega
        intro v' w5 own5 k5 _
        have HO : Hid (OwnN w5 w.heap.size v' (done ++ [cur] ++ [l.owner])) := by show OwnN _ _ _ _; simpa using own5
        clear own5 own
        go_wp2
        refine ⟨⟨done ++ [cur], l.owner, by rw [el.out]; omega, rfl, HO, k5, ?_⟩, ?_⟩
        · show _ = _
          rw [HR.out, el.out, show n + 1 - (k + 1) = f from by have := Hf.out; omega]
        · obtain ⟨a6, c6, e6, -, -, -⟩ := OwnN.ns HO.out
          rw [e6, List.length_append, el.out]
          simp only [sliceLen, List.length_singleton]
          omega
      · have e : k = n := by omega
        have hlt' : ((n : Int) < (k : Int) + 1) := by omega
        have Hff : Hid (C.2 = false) := by show _ = _; rw [HR.out, show f = 0 from by have := Hf.out; omega]; rfl
        go_wp2_with (first
          | (at_lookup; refine wpList_lookI rfl _ _ 59 rfl 3 3 Try.underlying59 Try.underlying3 (zeroI _) B (placesL ls) rfl MM.out cur rfl (i : Int) true Hv.out HQ.out ?_))
        rw [Exit.noGoto_ret]
        go_ret2
        exact ⟨_, by rw [Hff.out]; rfl, fun h => (by rw [Hff.out] at h; cases h), hK⟩
end Go.Proofs.Ytglemedcnapneaa
