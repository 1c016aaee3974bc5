/-
  The program's CallLine.
  The program's CallParse, part by part: a line cut at its blanks, numbers that are read, the place of a word.
-/
import Derived.Test.YtpikopdfkhagmaaGreatDoorImplNums
import Derived.Test.YtpikopdfkhagmaaGreatDoorDeskRead
import Derived.Lib.OthersKept
namespace Go.Proofs.YtpikopdfkhagmaaGreatDoor
open Go.RowKit
attribute [local go_sem] Keeps.refl Keeps.alloc Keeps.drew Keeps.drewN

set_option maxRecDepth 100000 in
set_option maxHeartbeats 4000000 in
theorem implCallLine_any (c : Cl) (w : World) (hg : GlobT w) :
    Calls Tryz.prog 7 #[ck c] w fun e w' => e = .returned (.tuple #[strV (lineL c), .bool (lineB c)]) ∧ Keeps w w' := by
  have kW := blkK w (.cells (cc c) 25)
  have hb := blkR w (cc c) 25
  have HG : Hid (GlobT w) := hg
  clear hg
  cases hcb : lineB c
  · have H1 : Hid (lineL c = []) := by show _ = _; unfold lineL; rw [hcb]; rfl
    go_enter Tryz.func7, Tryz.ntmps7
    go_wp2_with fail
    generalize w.alloc (.cells (cc c) 25) = W at *
    refine (implHasLine_any c W).mono ?_
    rintro e w1 ⟨rfl, k1⟩
    rw [hcb]
    go_wp2
    go_ret2
    exact ⟨by rw [H1.out]; rfl, kW.trans k1⟩
  have hl0 := lineB_parts hcb
  obtain ⟨k, Hk⟩ : ∃ k : Nat, Hid (c.kind = (k : Int)) := ⟨c.kind.toNat, by show _ = _; omega⟩
  have hkt : c.kind.toNat = k := by rw [Hk.out]; rfl
  have hk2 : 1 ≤ k ∧ k ≤ 11 := by have := hl0.1; have := Hk.out; omega
  have HA : Hid (∀ (i : Nat) (x : Int), (numsL c)[i]? = some x → ∃ o, (placesO (k : Int))[i]? = some o ∧ (cc c)[o]? = some (Value.int .i64 x)) := fun i x hx => by
    have := places_at hx
    rw [Hk.out] at this
    exact this
  have HLen : Hid ((placesO (k : Int)).length = (numsL c).length) := by
    have := places_length c
    rw [Hk.out] at this
    exact this
  obtain ⟨WD, HWD⟩ : ∃ x : List UInt8, Hid (wordL (k : Int) = x) := ⟨_, rfl⟩
  have hwl : WD.length ≤ 6 := by rw [← HWD.out]; exact wordL_length _
  have HW0 : Hid (WD = lineK c 0) := by show _ = wordL c.kind; rw [Hk.out]; exact HWD.out.symm
  have cN : Hid (∀ W, Calls Tryz.prog 25 #[strV WD, .pointer (some ⟨w.heap.size, 0, none⟩)] W fun e w' => ∃ rb cap, e = .returned (.slice (some ⟨rb, 0, none⟩) (placesO (k : Int)).length cap) ∧ (∀ i o, (placesO (k : Int))[i]? = some o → w'.cell? ⟨rb, i, none⟩ = some (.pointer (some ⟨w.heap.size, o, none⟩))) ∧ Keeps W w') := fun W => by rw [← HWD.out]; exact implNums_any (k : Int) (by omega) w.heap.size W
  have hkl : c.kind < 12 := by have := hl0.1; omega
  have hk0 : (0 : Int) ≤ c.kind := by have := hl0.1; omega
  have HF : Hid (firstsB c (numsL c).length = true) := hl0.2.2
  have cH := fun W => implHasLine_any c W
  rw [hcb] at cH
  have HB : Hid (lineB c = true) := hcb
  clear hl0 hcb
  go_enter Tryz.func7, Tryz.ntmps7
  go_wp2_with fail
  generalize w.alloc (.cells (cc c) 25) = W at *
  refine (cH W).mono ?_
  rintro e w1 ⟨rfl, k1⟩
  have r1 := fun w' (q : Keeps w1 w') => hb w' (k1.trans q)
  have K1 : Hid (Keeps w w1) := kW.trans k1
  clear hb cH k1 kW
  go_upto_region 3 with fail
  refine wp_region_held_drew (S := (fun w' => Keeps w1 w')) (by kernel_rfl) ?_ (fun hHeld => ?_)
  · exact (Keeps.refl w1).drew
  refine Plan.go [1, 2] ?_
  iterate 2 (refine takeL (by simp only [opsAt]; rfl) (by kernel_rfl) (by exact fun _ _ _ h => h) (by rfl) (by assumption) (fun w _ => by go_simp; try (with_reducible rfl)) ?_; try simp only [putAtH])
  refine Plan.nil ?_
  refine callH 0 (by kernel_rfl) (by simp only [opsAt]; rfl) (fun K hK => ?_)
  go_simp
  first | (go_at_call 24; refine (implCallWords_any _).mono ?_; rintro e w2 ⟨wb, rfl, h2, k2⟩; have h2k : ∀ w', Keeps w2 w' → w'.cell? ⟨wb, k, none⟩ = some (strV WD) := (by rw [← HWD.out]; exact Keeps.has (h2 k (by omega))); have h3k := h2k w2 (Keeps.refl _); clear h2) | skip
  try go_wp2_with fail
  refine hK.out _ _ ?_ (fun hHeld => ?_)
  · first | assumption | exact Keeps.trans (by assumption) (by assumption)
  clear hK K
  try simp only [putAtH]
  refine callH 3 (by kernel_rfl) (by simp only [opsAt]; rfl) (fun K hK => ?_)
  go_simp
  first | (go_at_call 24; refine (implCallWords_any _).mono ?_; rintro e w2 ⟨wb, rfl, h2, k2⟩; have h2k : ∀ w', Keeps w2 w' → w'.cell? ⟨wb, k, none⟩ = some (strV WD) := (by rw [← HWD.out]; exact Keeps.has (h2 k (by omega))); have h3k := h2k w2 (Keeps.refl _); clear h2) | skip
  try go_wp2_with fail
  refine hK.out _ _ ?_ (fun hHeld => ?_)
  · first | assumption | exact Keeps.trans (by assumption) (by assumption)
  clear hK K
  try simp only [putAtH]
  refine callH 4 (by kernel_rfl) (by simp only [opsAt]; rfl) (fun K hK => ?_)
  go_simp
  first | (go_at_call 24; refine (implCallWords_any _).mono ?_; rintro e w2 ⟨wb, rfl, h2, k2⟩; have h2k : ∀ w', Keeps w2 w' → w'.cell? ⟨wb, k, none⟩ = some (strV WD) := (by rw [← HWD.out]; exact Keeps.has (h2 k (by omega))); have h3k := h2k w2 (Keeps.refl _); clear h2) | skip
  try go_wp2_with fail
  refine hK.out _ _ ?_ (fun hHeld => ?_)
  · first | assumption | exact Keeps.trans (by assumption) (by assumption)
  clear hK K
  try simp only [putAtH]
  refine callH 5 (by kernel_rfl) (by simp only [opsAt]; rfl) (fun K hK => ?_)
  go_simp
  first | (go_at_call 24; refine (implCallWords_any _).mono ?_; rintro e w2 ⟨wb, rfl, h2, k2⟩; have h2k : ∀ w', Keeps w2 w' → w'.cell? ⟨wb, k, none⟩ = some (strV WD) := (by rw [← HWD.out]; exact Keeps.has (h2 k (by omega))); have h3k := h2k w2 (Keeps.refl _); clear h2) | skip
  try go_wp2_with fail
  refine hK.out _ _ ?_ (fun hHeld => ?_)
  · first | assumption | exact Keeps.trans (by assumption) (by assumption)
  clear hK K
  try simp only [putAtH]
  refine wpAnyH_done (by kernel_rfl) ?_ _
  have K2 : Hid (Keeps w1 w2) := (by assumption)
  have r2 := fun w' (q : Keeps w2 w') => r1 w' (K2.out.trans q)
  clear r1 h2k h3k k2 hHeld
  go_upto_region 6 with (go_at_call 25; refine (cN.out _).mono ?_; rintro e w3 ⟨rb, cap, rfl, hpl, k3⟩)
  obtain ⟨n, HN⟩ : ∃ n, Hid ((placesO (k : Int)).length = n) := ⟨_, rfl⟩
  have HNn : Hid ((numsL c).length = n) := by show _ = _; rw [← HLen.out]; exact HN.out
  have hn4 : 1 ≤ n ∧ n ≤ 4 := by have := numsL_length c; have := HNn.out; omega
  have HP : Hid (∀ i o, (placesO (k : Int))[i]? = some o → w3.cell? ⟨rb, i, none⟩ = some (.pointer (some ⟨w.heap.size, o, none⟩))) := hpl
  have r3 := fun w' (q : Keeps w3 w') => r2 w' (k3.trans q)
  have K3 : Hid (Keeps w w3) := (K1.out.trans K2.out).trans k3
  have HG3 : Hid (GlobT w3) := HG.out.keeps K3.out
  rw [HN.out]
  clear r2 hpl k3 cN hkl hk0 hkt
  go_loopw [5, 20] (fun o i wr => ∃ (j : Nat) (l : List UInt8), j ≤ n ∧ l.length ≤ 6 + 20 * j ∧ i = .int .i64 j ∧ o = strV l ∧ Hid (l = lineK c j) ∧ Hid (Keeps w3 wr)) (fun _ i _ => n - (intOf i).toNat)
  case atStart => exact ⟨0, WD, Nat.zero_le _, by omega, rfl, rfl, HW0, Keeps.refl _⟩
  case round =>
    obtain ⟨j, l, hj, hll, rfl, rfl, HE, hK⟩ := hrel
    have r4 := fun w' (q : Keeps wr w') => r3 w' (hK.out.trans q)
    clear r3
    by_cases hlt : j < n
    · obtain ⟨x, hx⟩ := some_in (xs := numsL c) (k := j) (by rw [HNn.out]; exact hlt)
      obtain ⟨o, ho, hox⟩ := HA.out j x hx
      have hgx : (numsL c).getD j 0 = x := by rw [List.getD_eq_getElem?_getD, hx]; rfl
      have hc0 : ∀ w', Keeps wr w' → w'.cell? ⟨rb, j, none⟩ = some (.pointer (some ⟨w.heap.size, o, none⟩)) := fun w' q => Keeps.has (HP.out j o ho) w' (hK.out.trans q)
      have hc1 : ∀ w', Keeps wr w' → w'.cell? ⟨w.heap.size, o, none⟩ = some (.int .i64 x) := fun w' q => by rw [r4 w' q o]; exact hox
      have hlt' : (j : Int) < (n : Int) := by omega
      have hin : -9 ≤ x ∧ x ≤ 9999999 := by
        have h1 := firstsB_at _ j HF.out (by rw [HNn.out]; exact hlt)
        rw [hgx] at h1
        unfold numOkB at h1
        have h2 := inB_iff.1 h1
        have h3 : leastI c j = -9 ∨ leastI c j = 0 := by unfold leastI; split <;> simp
        omega
      obtain ⟨NX, HNX⟩ : ∃ y : List UInt8, Hid (numL x = y) := ⟨_, rfl⟩
      have bnx : NX.length ≤ 9 := by rw [← HNX.out]; exact numL_length (by omega) (by omega)
      have cN : Calls Tryz.prog 26 #[.int .i64 x] wr fun e w' => e = .returned (strV NX) ∧ Keeps wr w' := by rw [← HNX.out]; exact itoa_any _ wr (HG3.out.keeps hK.out) (by omega) (by omega)
      obtain ⟨P1, hP1⟩ : ∃ y : List UInt8, [32] ++ NX = y := ⟨_, rfl⟩
      have HP1 : Hid ([32] ++ NX = P1) := hP1
      clear hP1
      have p1 : P1.length ≤ 10 := by rw [← HP1.out]; simp; omega
      obtain ⟨P2, HP2⟩ : ∃ y : List UInt8, Hid (l ++ P1 = y) := ⟨_, rfl⟩
      have p2 : P2.length ≤ 16 + 20 * j := by rw [← HP2.out]; simp; omega
      have a1 : ∀ W : World, (Op.stringOp .add ⟨#[32]⟩ ⟨NX.toArray⟩).run Tryz.prog W = .ok (strV P1) W := fun W => by rw [show (#[32] : Array UInt8) = [32].toArray from rfl, run_addStr W _ _ (by simp) (by omega), HP1.out]
      have a2 : ∀ W : World, (Op.stringOp .add ⟨l.toArray⟩ ⟨P1.toArray⟩).run Tryz.prog W = .ok (strV P2) W := fun W => by rw [run_addStr W _ _ (by omega) (by omega), HP2.out]
      have HE2 : Hid (P2 = lineK c (j + 1)) := by show P2 = lineK c j ++ [32] ++ numL ((numsL c).getD j 0); rw [hgx, ← HE.out, HNX.out, ← HP2.out, ← HP1.out, List.append_assoc]
      clear HE HP1 HP2 HNX hx hgx ho hox r4
      go_wp2_with (go_at_call 26; refine cN.mono ?_; rintro e w5 ⟨rfl, k5⟩)
      exact ⟨⟨j + 1, P2, by omega, by omega, by go_num, rfl, HE2, hK.out.trans k5⟩, by simp only [intOf]; omega⟩
    · have hlt' : decide ((j : Int) < (n : Int)) = false := by simp; omega
      have HR : Hid (lineL c = l) := by
        show _ = _
        unfold lineL
        rw [HB.out, HNn.out, show n = j from by omega]
        exact HE.out.symm
      go_wp2
      go_ret2
      exact ⟨by rw [HR.out]; rfl, K3.out.trans hK.out⟩
end Go.Proofs.YtpikopdfkhagmaaGreatDoor
namespace Go.Proofs.YtpikopdfkhagmaaGreatDoor
open Go.RowKit
attribute [local go_sem] Keeps.refl Keeps.alloc Keeps.drew Keeps.drewN

theorem own_iterAt {α : Type} {e : TypeId} {sz : Nat} {c : α → Array Value} {w : World} {base : Nat} {v : Value} {xs : List α} (h : Own e sz c w base v xs) {k : Nat} {s : ByteArray} {pos : Nat} (hit : w.heap[k]? = some (.stringIter s pos)) (p : Nat) : Own e sz c (w.iterAt k s p) base v xs := by
  obtain ⟨h1, h2⟩ := h
  refine ⟨h1, ?_⟩
  rcases h2 with h2 | ⟨b, cap, cur, hv, hb, hh, r⟩
  · exact .inl h2
  · refine .inr ⟨b, cap, cur, hv, hb, ?_, r⟩
    rw [Lib.iterAt_other w k b s p (fun e => by rw [e, hit] at hh; cases hh)]
    exact hh
theorem own_notIter {α : Type} {e : TypeId} {sz : Nat} {c : α → Array Value} {w : World} {base : Nat} {v : Value} {xs : List α} (h : Own e sz c w base v xs) {k : Nat} {s : ByteArray} {pos : Nat} (hit : w.heap[k]? = some (.stringIter s pos)) : some k ≠ v.ownBlock := by
  intro e2
  rcases h.2 with ⟨rfl, _⟩ | ⟨b, cap, cur, rfl, _, hh, _⟩
  · simp [Value.ownBlock] at e2
  · simp only [Value.ownBlock, Option.some.injEq] at e2
    subst e2
    rw [hit] at hh
    cases hh
set_option maxRecDepth 100000 in
set_option maxHeartbeats 4000000 in
theorem implCutAt_any (l : List UInt8) (w : World) (hl : l.length ≤ 1048576) :
    Calls Tryz.prog 53 #[strV l, .int .i32 32] w fun e w' => ∃ v, e = .returned v ∧ Own 9 1 sc w' w.heap.size v (wordsF l) ∧ Keeps w w' := by
  generalize hn : l.length = n at hl
  have Hn : Hid (l.length = n) := hn
  have hsz : (⟨l.toArray⟩ : ByteArray).size = n := by simpa [ByteArray.size] using hn
  clear hn
  have kW : Keeps w (w.alloc (.stringIter ⟨l.toArray⟩ 0)) := (Keeps.refl _).alloc _
  have O0 : Hid (Own 9 1 sc (w.alloc (.stringIter ⟨l.toArray⟩ 0)) w.heap.size (.slice .none 0 0) []) := Own.none _ _ _ _ _
  go_enter Tryz.func53, Tryz.ntmps53
  go_wp2
  go_loopw [5, 6] (fun o f wr => ∃ (k p : Nat) (xs : List (List UInt8)), k ≤ n ∧ p ≤ k ∧ xs.length ≤ k ∧ f = .int .i64 p ∧ Hid (wordsF l = xs ++ splitF (curF l p k) (l.drop k)) ∧ Hid (Own 9 1 sc wr w.heap.size o xs) ∧ wr.heap[w.heap.size]? = some (.stringIter ⟨l.toArray⟩ k) ∧ Keeps w wr) (fun _ _ wr => n - wr.iterPos w.heap.size)
  case atStart =>
    refine ⟨0, 0, [], by omega, by omega, by simp, rfl, ?_, ?_, ?_, ?_⟩
    · show wordsF l = [] ++ splitF (curF l 0 0) (l.drop 0)
      rw [curF_new]
      rfl
    · exact O0
    · have := World.iter_heap w ⟨l.toArray⟩ 0
      simpa using this
    · exact kW
  case round =>
    obtain ⟨k, p, xs, hk, hp, hxl, rfl, HW, O, hit, hK⟩ := hrel
    clear O0 kW
    have hbl : w.heap.size < wr.heap.size := (Array.getElem?_eq_some_iff.1 hit).1
    by_cases hlt : k < n
    · have hks : k < (⟨l.toArray⟩ : ByteArray).size := by rw [hsz]; exact hlt
      have hnx : ∀ ty, (Instr.next (.pointer (some ⟨w.heap.size, 0, none⟩)) true ty).run Tryz.prog wr = _ := fun ty => Lib.run_next_any_at wr w.heap.size ⟨l.toArray⟩ k ty hit hks
      have hsk := fun h => rune_skip (l := l) (p := p) hp (by rw [Hn.out]; exact hlt) h
      have hbk := fun h => rune_blank (l := l) (k := k) (by rw [Hn.out]; exact hlt) h
      have hpm : (wr.iterPos w.heap.size) = k := by unfold World.iterPos; rw [hit]
      generalize Utf8.decode ⟨l.toArray⟩ k = d at hnx hsk hbk
      obtain ⟨r, m⟩ := d
      simp only at hnx hsk hbk
      have O2 : Hid (Own 9 1 sc (wr.iterAt w.heap.size ⟨l.toArray⟩ (k + m)) w.heap.size u5 xs) := own_iterAt O.out hit _
      have K2 : Keeps w (wr.iterAt w.heap.size ⟨l.toArray⟩ (k + m)) := Lib.below_iterAt hK (Nat.le_refl _) _ _
      have hit2 := Lib.iterAt_heap wr w.heap.size ⟨l.toArray⟩ k (k + m) hit
      have hbl2 : w.heap.size < (wr.iterAt w.heap.size ⟨l.toArray⟩ (k + m)).heap.size := by rw [Lib.iterAt_size]; exact hbl
      generalize wr.iterAt w.heap.size ⟨l.toArray⟩ (k + m) = X at *
      by_cases h32 : r = 32
      · obtain ⟨rfl, hb⟩ := hbk h32
        have hr : ((r : Int) == 32) = true := by simp; omega
        have HN : Hid (wordsF l = (xs ++ [curF l p k]) ++ splitF (curF l (k + 1) (k + 1)) (l.drop (k + 1))) := by
          show _ = _
          rw [curF_new, HW.out, split_go _ hb, if_pos (by rfl)]
          simp
        have hsub := str_extract l p k
        have Hc : Hid ((l.drop p).take (k - p) = curF l p k) := rfl
        rw [Hc.out] at hsub
        generalize curF l p k = cu at *
        clear HW hsk hbk hb
        go_wp2_with (at_builtin; (refine wpList_push rfl _ _ 51 rfl w 9 (.string ⟨#[]⟩) 1 16 sc Tryz.underlying51 (by kernel_rfl) rfl (by decide) sc_size sc_one _ xs rfl X O2.out K2 ((Keeps.refl _).alloc _) cu _ 1 (Blk.new _ _ _) rfl ?c1 ?c2 ?_))
        case c1 => unfold maxLen; omega
        case c2 => omega
        intro v' w5 own5 k5 f5
        have HO : Hid (Own 9 1 sc w5 w.heap.size v' (xs ++ [cu])) := own5
        have hit5 : w5.heap[w.heap.size]? = some (.stringIter ⟨l.toArray⟩ (k + 1)) := by rw [f5 _ hbl2 (own_notIter O2.out hit2)]; exact hit2
        clear own5 O f5
        go_wp2
        exact ⟨⟨k + 1, k + 1, xs ++ [cu], by omega, by omega, by simp; omega, by go_num, HN, HO, hit5, k5⟩, by simp only [World.iterPos, hit5, hit]; omega⟩
      · have hr : ((r : Int) == 32) = false := by simp; omega
        obtain ⟨h1, h2, h3⟩ := hsk h32
        have HN : Hid (wordsF l = xs ++ splitF (curF l p (k + m)) (l.drop (k + m))) := by
          show _ = _
          rw [HW.out, h3]
        rw [Hn.out] at h1
        clear HW hsk hbk h3
        go_wp2
        exact ⟨⟨k + m, p, xs, by omega, by omega, by omega, rfl, HN, O2, hit2, K2⟩, by simp only [World.iterPos, hit2, hit]; omega⟩
    · obtain rfl : k = n := by omega
      have hnx : ∀ ty, (Instr.next (.pointer (some ⟨w.heap.size, 0, none⟩)) true ty).run Tryz.prog wr = _ := fun ty => Lib.run_next_end_at wr w.heap.size ⟨l.toArray⟩ k ty hit (by rw [hsz]; omega)
      have HD : Hid (wordsF l = xs ++ [curF l p k]) := by
        show _ = _
        rw [HW.out, List.drop_eq_nil_of_le (by rw [Hn.out]; omega)]
        rfl
      have hsub := str_extract l p k
      have Hc : Hid ((l.drop p).take (k - p) = curF l p k) := rfl
      rw [Hc.out] at hsub
      generalize curF l p k = cu at *
      clear HW
      go_wp2_with (at_builtin; (refine wpList_push rfl _ _ 51 rfl w 9 (.string ⟨#[]⟩) 1 16 sc Tryz.underlying51 (by kernel_rfl) rfl (by decide) sc_size sc_one _ xs rfl wr O.out hK ((Keeps.refl _).alloc _) cu _ 1 (Blk.new _ _ _) rfl ?c1 ?c2 ?_))
      case c1 => unfold maxLen; omega
      case c2 => omega
      intro v' w5 own5 k5 _
      have HO : Hid (Own 9 1 sc w5 w.heap.size v' (xs ++ [cu])) := own5
      clear own5 O
      go_wp2
      go_ret
      exact ⟨_, rfl, by rw [HD.out]; exact HO.out, k5⟩
/-- What is told of a text that is read as a number. -/
def NumSays (s : List UInt8) (e : Ending) : Prop := (∃ v, numO s = some v ∧ e = .returned (.int .i64 v)) ∨ (numO s = none ∧ Fell e)
theorem numGo_cons {s : List UInt8} {k : Nat} {b : UInt8} (f : Bool) (acc sg : Int) (h : s[k]? = some b) : numGo f acc sg (s.drop k) = if f && b == 45 then numGo false acc (-1) (s.drop (k + 1)) else if digB b then numGo false (numStep acc b) sg (s.drop (k + 1)) else none := by
  have hk : k < s.length := by
    rcases Nat.lt_or_ge k s.length with h1 | h1
    · exact h1
    · simp [List.getElem?_eq_none h1] at h
  have e : s.drop k = b :: s.drop (k + 1) := by
    rw [List.drop_eq_getElem_cons hk]
    rw [List.getElem?_eq_getElem hk] at h
    rw [Option.some.inj h]
  rw [e, numGo]
set_option maxRecDepth 100000 in
set_option maxHeartbeats 4000000 in
theorem implNumberIn_any (s : List UInt8) (w : World) (hg : GlobL w) (hl : s.length ≤ 1048576) :
    Calls Tryz.prog 55 #[strV s] w fun e w' => NumSays s e ∧ Keeps w w' := by
  generalize hn : s.length = n at hl
  have Hn : Hid (s.length = n) := hn
  have hsz : (⟨s.toArray⟩ : ByteArray).size = n := by simpa [ByteArray.size] using hn
  clear hn
  obtain ⟨tp, pa, hg⟩ := hg
  have HG : Hid (w.cell? ⟨0, 0, none⟩ = some (.iface tp (.pointer (some pa)))) := hg
  clear hg
  have kW : Keeps w (w.alloc (.stringIter ⟨s.toArray⟩ 0)) := (Keeps.refl _).alloc _
  go_enter Tryz.func55, Tryz.ntmps55
  go_wp2
  go_loopw [3, 4] (fun a g wr => ∃ (k : Nat) (acc sg : Int), k ≤ n ∧ a = .int .i64 acc ∧ g = .int .i64 sg ∧ Hid (numO s = numGo (k == 0) acc sg (s.drop k)) ∧ wr.heap[w.heap.size]? = some (.stringIter ⟨s.toArray⟩ k) ∧ Keeps w wr) (fun _ _ wr => n - wr.iterPos w.heap.size)
  case atStart =>
    refine ⟨0, 0, 1, by omega, rfl, rfl, rfl, ?_, ?_⟩
    · have := World.iter_heap w ⟨s.toArray⟩ 0
      simpa using this
    · exact kW
  case round =>
    obtain ⟨k, acc, sg, hk, rfl, rfl, HW, hit, hK⟩ := hrel
    clear kW
    have hbl : w.heap.size < wr.heap.size := (Array.getElem?_eq_some_iff.1 hit).1
    by_cases hlt : k < n
    · have hks : k < (⟨s.toArray⟩ : ByteArray).size := by rw [hsz]; exact hlt
      have hnx : ∀ ty, (Instr.next (.pointer (some ⟨w.heap.size, 0, none⟩)) true ty).run Tryz.prog wr = _ := fun ty => Lib.run_next_any_at wr w.heap.size ⟨s.toArray⟩ k ty hit hks
      obtain ⟨b, hb⟩ := some_in (xs := s) (k := k) (by rw [Hn.out]; exact hlt)
      have hbb : ((⟨s.toArray⟩ : ByteArray)[k]'hks) = b := by
        rw [List.getElem?_eq_getElem (by rw [Hn.out]; exact hlt)] at hb
        exact Option.some.inj hb
      have hlo : b.toNat < 128 → Utf8.decode ⟨s.toArray⟩ k = (b.toNat, 1) := fun h => by rw [decode_ascii _ k hks (by rw [hbb]; exact h), hbb]
      have hhi : 128 ≤ b.toNat → 128 ≤ (Utf8.decode ⟨s.toArray⟩ k).1 := fun h => (decode_high _ k hks (by rw [hbb]; exact h)).1
      have hst := numGo_cons (k == 0) acc sg hb
      have K2 := fun p => Lib.below_iterAt (B := w.heap.size) hK (Nat.le_refl _) ⟨s.toArray⟩ p
      have hit2 := fun p => Lib.iterAt_heap wr w.heap.size ⟨s.toArray⟩ k p hit
      generalize Utf8.decode ⟨s.toArray⟩ k = d at hnx hlo hhi
      obtain ⟨r, m⟩ := d
      simp only at hnx hlo hhi
      replace K2 : Keeps w (wr.iterAt w.heap.size ⟨s.toArray⟩ (k + m)) := K2 _
      replace hit2 := hit2 (k + m)
      have hg2 : (wr.iterAt w.heap.size ⟨s.toArray⟩ (k + m)).cell? ⟨0, 0, none⟩ = some (.iface tp (.pointer (some pa))) := Keeps.has HG.out _ K2
      generalize wr.iterAt w.heap.size ⟨s.toArray⟩ (k + m) = X at *
      clear hbb hb
      by_cases hd : digB b = true
      · have hb2 := digB_parts hd
        obtain ⟨e1, e2⟩ := Prod.mk.inj (hlo (by omega))
        subst e1 e2
        have h45 : (b == 45) = false := by
          rw [beq_eq_false_iff_ne]
          intro e
          rw [e] at hb2
          exact absurd hb2.1 (by decide)
        rw [h45, Bool.and_false, if_neg (by simp), if_pos hd] at hst
        obtain ⟨q, hq⟩ : ∃ q : Nat, b.toNat = 48 + q := ⟨b.toNat - 48, by omega⟩
        have HN : Hid (numO s = numGo (k + 1 == 0) (wrap64 (wrap64 (acc * 10) + (q : Int))) sg (s.drop (k + 1))) := by
          show _ = _
          rw [HW.out, hst]
          unfold numStep
          rw [hq, show ((48 + q : Nat) : Int) - 48 = (q : Int) from by omega]
          rfl
        have hr1 : ((b.toNat : Int) == 45) = false := by simp; omega
        have hr2 : decide ((48 : Int) ≤ (b.toNat : Int)) = true := by simp; omega
        have hr3 : decide ((b.toNat : Int) ≤ 57) = true := by simp; omega
        have hr4 : (b.toNat : Int) - 48 = (q : Int) := by omega
        have hq9 : q ≤ 9 := by omega
        clear hst HW hlo hhi
        go_wp2
        refine ⟨⟨k + 1, _, sg, by omega, rfl, rfl, ?_, hit2, K2⟩, by simp only [World.iterPos, hit2, hit]; omega⟩
        rw [show (48 : Int) + (q : Int) - 48 = (q : Int) from by omega]
        exact HN
      rw [Bool.not_eq_true] at hd
      by_cases h45 : b = 45 ∧ k = 0
      · obtain ⟨rfl, rfl⟩ := h45
        obtain ⟨e1, e2⟩ := Prod.mk.inj (hlo (by decide))
        subst e1 e2
        have HN : Hid (numO s = numGo (0 + 1 == 0) acc (-1) (s.drop (0 + 1))) := by
          show _ = _
          rw [HW.out, hst]
          rfl
        have hr1 : (((45 : UInt8).toNat : Int) == 45) = true := by decide
        clear hst HW hlo hhi
        go_wp2
        exact ⟨⟨1, acc, -1, by omega, rfl, rfl, HN, hit2, K2⟩, by simp only [World.iterPos, hit2, hit]; omega⟩
      have HR : Hid (numO s = none) := by
        show _ = _
        rw [HW.out, hst, if_neg, if_neg (by rw [hd]; simp)]
        simp only [Bool.and_eq_true, beq_iff_eq]
        exact fun h => h45 ⟨h.2, h.1⟩
      have hno : ¬ (r = 45 ∧ k = 0) := fun h => by
        by_cases h8 : b.toNat < 128
        · obtain ⟨e1, e2⟩ := Prod.mk.inj (hlo h8)
          exact h45 ⟨UInt8.toNat_inj.1 (by rw [← e1, h.1]; rfl), h.2⟩
        · have := hhi (by omega)
          omega
      have hno2 : ¬ (48 ≤ r ∧ r ≤ 57) := fun h => by
        by_cases h8 : b.toNat < 128
        · obtain ⟨e1, e2⟩ := Prod.mk.inj (hlo h8)
          unfold digB at hd
          simp at hd
          omega
        · have := hhi (by omega)
          omega
      clear hst HW hlo hhi h45 hd
      by_cases x1 : r = 45
      · subst x1
        have hk0 : ((k : Int) == 0) = false := by
          have : k ≠ 0 := fun h => hno ⟨rfl, h⟩
          simp
          omega
        clear hno hno2
        go_wp2
        exact ⟨rfl, .inr ⟨HR.out, tp, pa, rfl⟩, K2⟩
      · have hr1 : ((r : Int) == 45) = false := by simp; omega
        by_cases x2 : 48 ≤ r
        · have hr2 : decide ((48 : Int) ≤ (r : Int)) = true := by simp; omega
          have hr3 : decide ((r : Int) ≤ 57) = false := by simp; omega
          clear hno hno2
          go_wp2
          exact ⟨rfl, .inr ⟨HR.out, tp, pa, rfl⟩, K2⟩
        · have hr2 : decide ((48 : Int) ≤ (r : Int)) = false := by simp; omega
          clear hno hno2
          go_wp2
          exact ⟨rfl, .inr ⟨HR.out, tp, pa, rfl⟩, K2⟩
    · obtain rfl : k = n := by omega
      have hnx : ∀ ty, (Instr.next (.pointer (some ⟨w.heap.size, 0, none⟩)) true ty).run Tryz.prog wr = _ := fun ty => Lib.run_next_end_at wr w.heap.size ⟨s.toArray⟩ k ty hit (by rw [hsz]; omega)
      have HD : Hid (numO s = some (wrap64 (sg * acc))) := by
        show _ = _
        rw [HW.out, List.drop_eq_nil_of_le (by rw [Hn.out]; omega)]
        rfl
      clear HW
      go_wp2
      go_ret
      exact ⟨.inl ⟨_, HD.out, rfl⟩, hK⟩
end Go.Proofs.YtpikopdfkhagmaaGreatDoor
