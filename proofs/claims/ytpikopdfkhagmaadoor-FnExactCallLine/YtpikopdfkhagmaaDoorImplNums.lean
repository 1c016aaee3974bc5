/-
  The program's numbersBehind: the places of a word's numbers in a call, in the order of the line; of no word: a panic.
-/
import Derived.Test.YtpikopdfkhagmaaDoorImplLine
import Derived.Test.YtpikopdfkhagmaaDoorLockSpec3
import Derived.Test.YtpikopdfkhagmaaDoorLockRows
import Derived.Test.YtpikopdfkhagmaaDoorLate
import Derived.Deep.RegionHeld3
namespace Go.Proofs.YtpikopdfkhagmaaDoor
open Go.RowKit
attribute [local go_sem] Keeps.refl Keeps.alloc Keeps.drew Keeps.drewN

set_option maxRecDepth 100000 in
/-- The row of a call's places, turned round. -/
theorem reverse_row {w W : World} {cb : Nat} {v : Value} {xs : List Nat} (o : Own 50 1 (pc cb) W w.heap.size v xs) (k : Keeps w W) (h0 : 0 < xs.length) (hl : xs.length ≤ 4) :
    Calls Tryd.prog 41 #[v] W fun e w' => e = .returned (.tuple #[]) ∧ (∃ rb cap, v = .slice (some ⟨rb, 0, none⟩) xs.length cap ∧ ∀ i o, xs.reverse[i]? = some o → w'.cell? ⟨rb, i, none⟩ = some (.pointer (some ⟨cb, o, none⟩))) ∧ Keeps w w' := by
  obtain ⟨b, cap, e⟩ := o.blk h0
  subst e
  have hB : w.heap.size ≤ b := (World.ownsRow.lt o b rfl).1
  have hH : Sort.Holds (fun o : Nat => Value.pointer (some ⟨cb, o, none⟩)) W b 0 xs.toArray := by
    intro j hj
    have hj' : j < xs.length := by simpa using hj
    refine ⟨?_, o.frozenAt _⟩
    have h1 := o.cellAt (pc_size cb) (List.getElem?_eq_getElem hj') (k := 0) (by omega)
    simp only [Nat.mul_one, Nat.add_zero] at h1
    rw [Nat.zero_add, h1]
    simp [hj']
  refine (AnyE.slices_Reverse Tryd.laysRev (fun o : Nat => Value.pointer (some ⟨cb, o, none⟩)) (fun _ => rfl) b 0 cap xs W hH (by omega)).mono ?_
  rintro e w' ⟨rfl, n, rfl⟩
  refine ⟨rfl, ⟨b, cap, rfl, fun i x hx => ?_⟩, ?_⟩
  · have hi : i < xs.length := by
      have := lt_of_some hx
      simpa using this
    have h1 := Sort.cell?_putRow (fun o : Nat => Value.pointer (some ⟨cb, o, none⟩)) (Sort.ahead W n) b 0 xs.toArray xs.reverse.toArray hH (by simp) i (by simpa using hi)
    rw [Nat.zero_add] at h1
    rw [h1]
    have h2 : xs.reverse.toArray[i]! = x := by
      rw [getElem!_pos _ i (by simpa using hi)]
      rw [List.getElem?_eq_getElem (by simpa using hi)] at hx
      simpa using hx
    rw [h2]
  · refine ⟨k.os, k.tape, k.output, ?_, fun q hq => ?_⟩
    · rw [Sort.size_putRow]
      exact k.size
    · show (W.heap.modify b _)[q]? = _
      rw [Array.getElem?_modify, if_neg (by omega)]
      exact Below.block k q hq
theorem lies_two {cb x y : Nat} {w : World} {b : Nat} (hb : Blk w b #[.pointer (some ⟨cb, x, none⟩), .pointer (some ⟨cb, y, none⟩)]) : Lies 1 (pc cb) w (some ⟨b, 0, none⟩) [x, y] := by
  refine .inr ⟨_, _, rfl, hb.lt, fun i z hz k hk => ?_⟩
  obtain rfl : k = 0 := by omega
  match i, hz with
  | 0, hz => simp at hz; subst hz; simpa using hb.cells 0
  | 1, hz => simp at hz; subst hz; simpa using hb.cells 1
  | i + 2, hz => simp at hz
/-- What numbersBehind tells of a kind's word. -/
def SaysNums (k : Int) : Prop := ∀ (cb : Nat) (w : World), Calls Tryd.prog 24 #[strV (wordL k), .pointer (some ⟨cb, 0, none⟩)] w fun e w' => ∃ rb cap, e = .returned (.slice (some ⟨rb, 0, none⟩) (placesO k).length cap) ∧ (∀ i o, (placesO k)[i]? = some o → w'.cell? ⟨rb, i, none⟩ = some (.pointer (some ⟨cb, o, none⟩))) ∧ Keeps w w'
set_option maxRecDepth 100000 in
set_option maxHeartbeats 4000000 in
theorem implNums_1 : SaysNums 1 := by
  intro cb w
  have O0 : Hid (Own 50 1 (pc cb) w w.heap.size (.slice .none 0 0) []) := Own.none _ _ _ _ _
  go_enter Tryd.func24, Tryd.ntmps24
  go_wp2_with (at_builtin; (refine wpList_push rfl _ _ 47 rfl w 50 (.pointer .none) 1 8 (pc cb) Tryd.underlying47 (by kernel_rfl) rfl (by decide) (pc_size cb) (pc_one cb) _ [] rfl w O0.out (Keeps.refl w) ((Keeps.refl _).alloc _) 4 _ 1 (Blk.new _ _ _) rfl ?c1 ?c2 ?_))
  case c1 => simp [maxLen]
  case c2 => simp
  intro v1 w1 ownO1 k1 _
  have O1 : Hid (Own 50 1 (pc cb) w1 w.heap.size v1 ([] ++ [4])) := ownO1
  clear ownO1
  go_wp2_with (at_builtin; (refine wpList_push rfl _ _ 47 rfl w 50 (.pointer .none) 1 8 (pc cb) Tryd.underlying47 (by kernel_rfl) rfl (by decide) (pc_size cb) (pc_one cb) _ ([] ++ [4]) rfl w1 O1.out k1 ((Keeps.refl _).alloc _) 3 _ 1 (Blk.new _ _ _) rfl ?c1 ?c2 ?_))
  case c1 => simp [maxLen]
  case c2 => simp
  intro v2 w2 ownO2 k2 _
  have O2 : Hid (Own 50 1 (pc cb) w2 w.heap.size v2 (([] ++ [4]) ++ [3])) := ownO2
  clear ownO2
  go_wp2_with (at_builtin; (refine wpList_push rfl _ _ 47 rfl w 50 (.pointer .none) 1 8 (pc cb) Tryd.underlying47 (by kernel_rfl) rfl (by decide) (pc_size cb) (pc_one cb) _ (([] ++ [4]) ++ [3]) rfl w2 O2.out k2 ((Keeps.refl _).alloc _) 2 _ 1 (Blk.new _ _ _) rfl ?c1 ?c2 ?_))
  case c1 => simp [maxLen]
  case c2 => simp
  intro v3 w3 ownO3 k3 _
  have O3 : Hid (Own 50 1 (pc cb) w3 w.heap.size v3 ((([] ++ [4]) ++ [3]) ++ [2])) := ownO3
  clear ownO3
  go_wp2_with (at_builtin; (refine wpList_push rfl _ _ 47 rfl w 50 (.pointer .none) 1 8 (pc cb) Tryd.underlying47 (by kernel_rfl) rfl (by decide) (pc_size cb) (pc_one cb) _ ((([] ++ [4]) ++ [3]) ++ [2]) rfl w3 O3.out k3 ((Keeps.refl _).alloc _) 1 _ 1 (Blk.new _ _ _) rfl ?c1 ?c2 ?_))
  case c1 => simp [maxLen]
  case c2 => simp
  intro v4 w4 ownO4 k4 _
  have O4 : Hid (Own 50 1 (pc cb) w4 w.heap.size v4 (((([] ++ [4]) ++ [3]) ++ [2]) ++ [1])) := ownO4
  clear ownO4
  have cR := reverse_row O4.out k4 (by simp) (by simp)
  go_wp2_with (go_at_call 41; refine cR.mono ?_; rintro e wz ⟨rfl, ⟨rb, cap, rfl, hz⟩, kz⟩)
  go_ret
  exact ⟨rb, cap, rfl, hz, kz⟩
set_option maxRecDepth 100000 in
set_option maxHeartbeats 4000000 in
theorem implNums_2 : SaysNums 2 := by
  intro cb w
  have O0 : Hid (Own 50 1 (pc cb) w w.heap.size (.slice .none 0 0) []) := Own.none _ _ _ _ _
  go_enter Tryd.func24, Tryd.ntmps24
  go_wp2_with (at_builtin; (refine wpList_push rfl _ _ 47 rfl w 50 (.pointer .none) 1 8 (pc cb) Tryd.underlying47 (by kernel_rfl) rfl (by decide) (pc_size cb) (pc_one cb) _ [] rfl w O0.out (Keeps.refl w) ((Keeps.refl _).alloc _) 4 _ 1 (Blk.new _ _ _) rfl ?c1 ?c2 ?_))
  case c1 => simp [maxLen]
  case c2 => simp
  intro v1 w1 ownO1 k1 _
  have O1 : Hid (Own 50 1 (pc cb) w1 w.heap.size v1 ([] ++ [4])) := ownO1
  clear ownO1
  go_wp2_with (at_builtin; (refine wpList_push rfl _ _ 47 rfl w 50 (.pointer .none) 1 8 (pc cb) Tryd.underlying47 (by kernel_rfl) rfl (by decide) (pc_size cb) (pc_one cb) _ ([] ++ [4]) rfl w1 O1.out k1 ((Keeps.refl _).alloc _) 3 _ 1 (Blk.new _ _ _) rfl ?c1 ?c2 ?_))
  case c1 => simp [maxLen]
  case c2 => simp
  intro v2 w2 ownO2 k2 _
  have O2 : Hid (Own 50 1 (pc cb) w2 w.heap.size v2 (([] ++ [4]) ++ [3])) := ownO2
  clear ownO2
  go_wp2_with (at_builtin; (refine wpList_push rfl _ _ 47 rfl w 50 (.pointer .none) 1 8 (pc cb) Tryd.underlying47 (by kernel_rfl) rfl (by decide) (pc_size cb) (pc_one cb) _ (([] ++ [4]) ++ [3]) rfl w2 O2.out k2 ((Keeps.refl _).alloc _) 2 _ 1 (Blk.new _ _ _) rfl ?c1 ?c2 ?_))
  case c1 => simp [maxLen]
  case c2 => simp
  intro v3 w3 ownO3 k3 _
  have O3 : Hid (Own 50 1 (pc cb) w3 w.heap.size v3 ((([] ++ [4]) ++ [3]) ++ [2])) := ownO3
  clear ownO3
  go_wp2_with (at_builtin; (refine wpList_push rfl _ _ 47 rfl w 50 (.pointer .none) 1 8 (pc cb) Tryd.underlying47 (by kernel_rfl) rfl (by decide) (pc_size cb) (pc_one cb) _ ((([] ++ [4]) ++ [3]) ++ [2]) rfl w3 O3.out k3 ((Keeps.refl _).alloc _) 1 _ 1 (Blk.new _ _ _) rfl ?c1 ?c2 ?_))
  case c1 => simp [maxLen]
  case c2 => simp
  intro v4 w4 ownO4 k4 _
  have O4 : Hid (Own 50 1 (pc cb) w4 w.heap.size v4 (((([] ++ [4]) ++ [3]) ++ [2]) ++ [1])) := ownO4
  clear ownO4
  have cR := reverse_row O4.out k4 (by simp) (by simp)
  go_wp2_with (go_at_call 41; refine cR.mono ?_; rintro e wz ⟨rfl, ⟨rb, cap, rfl, hz⟩, kz⟩)
  go_ret
  exact ⟨rb, cap, rfl, hz, kz⟩
set_option maxRecDepth 100000 in
set_option maxHeartbeats 4000000 in
theorem implNums_3 : SaysNums 3 := by
  intro cb w
  have O0 : Hid (Own 50 1 (pc cb) w w.heap.size (.slice .none 0 0) []) := Own.none _ _ _ _ _
  go_enter Tryd.func24, Tryd.ntmps24
  go_wp2_with (at_builtin; (refine wpList_push rfl _ _ 47 rfl w 50 (.pointer .none) 1 8 (pc cb) Tryd.underlying47 (by kernel_rfl) rfl (by decide) (pc_size cb) (pc_one cb) _ [] rfl w O0.out (Keeps.refl w) ((Keeps.refl _).alloc _) 3 _ 1 (Blk.new _ _ _) rfl ?c1 ?c2 ?_))
  case c1 => simp [maxLen]
  case c2 => simp
  intro v1 w1 ownO1 k1 _
  have O1 : Hid (Own 50 1 (pc cb) w1 w.heap.size v1 ([] ++ [3])) := ownO1
  clear ownO1
  go_wp2_with (at_builtin; (refine wpList_push rfl _ _ 47 rfl w 50 (.pointer .none) 1 8 (pc cb) Tryd.underlying47 (by kernel_rfl) rfl (by decide) (pc_size cb) (pc_one cb) _ ([] ++ [3]) rfl w1 O1.out k1 ((Keeps.refl _).alloc _) 2 _ 1 (Blk.new _ _ _) rfl ?c1 ?c2 ?_))
  case c1 => simp [maxLen]
  case c2 => simp
  intro v2 w2 ownO2 k2 _
  have O2 : Hid (Own 50 1 (pc cb) w2 w.heap.size v2 (([] ++ [3]) ++ [2])) := ownO2
  clear ownO2
  go_wp2_with (at_builtin; (refine wpList_push rfl _ _ 47 rfl w 50 (.pointer .none) 1 8 (pc cb) Tryd.underlying47 (by kernel_rfl) rfl (by decide) (pc_size cb) (pc_one cb) _ (([] ++ [3]) ++ [2]) rfl w2 O2.out k2 ((Keeps.refl _).alloc _) 1 _ 1 (Blk.new _ _ _) rfl ?c1 ?c2 ?_))
  case c1 => simp [maxLen]
  case c2 => simp
  intro v3 w3 ownO3 k3 _
  have O3 : Hid (Own 50 1 (pc cb) w3 w.heap.size v3 ((([] ++ [3]) ++ [2]) ++ [1])) := ownO3
  clear ownO3
  have cR := reverse_row O3.out k3 (by simp) (by simp)
  go_wp2_with (go_at_call 41; refine cR.mono ?_; rintro e wz ⟨rfl, ⟨rb, cap, rfl, hz⟩, kz⟩)
  go_ret
  exact ⟨rb, cap, rfl, hz, kz⟩
set_option maxRecDepth 100000 in
set_option maxHeartbeats 4000000 in
theorem implNums_4 : SaysNums 4 := by
  intro cb w
  have O0 : Hid (Own 50 1 (pc cb) w w.heap.size (.slice .none 0 0) []) := Own.none _ _ _ _ _
  go_enter Tryd.func24, Tryd.ntmps24
  go_wp2_with (at_builtin; (refine wpList_push rfl _ _ 47 rfl w 50 (.pointer .none) 1 8 (pc cb) Tryd.underlying47 (by kernel_rfl) rfl (by decide) (pc_size cb) (pc_one cb) _ [] rfl w O0.out (Keeps.refl w) ((Keeps.refl _).alloc _) 1 _ 1 (Blk.new _ _ _) rfl ?c1 ?c2 ?_))
  case c1 => simp [maxLen]
  case c2 => simp
  intro v1 w1 ownO1 k1 _
  have O1 : Hid (Own 50 1 (pc cb) w1 w.heap.size v1 ([] ++ [1])) := ownO1
  clear ownO1
  have cR := reverse_row O1.out k1 (by simp) (by simp)
  go_wp2_with (go_at_call 41; refine cR.mono ?_; rintro e wz ⟨rfl, ⟨rb, cap, rfl, hz⟩, kz⟩)
  go_ret
  exact ⟨rb, cap, rfl, hz, kz⟩
set_option maxRecDepth 100000 in
set_option maxHeartbeats 4000000 in
theorem implNums_5 : SaysNums 5 := by
  intro cb w
  have O0 : Hid (Own 50 1 (pc cb) w w.heap.size (.slice .none 0 0) []) := Own.none _ _ _ _ _
  go_enter Tryd.func24, Tryd.ntmps24
  go_wp2_with (at_builtin; (refine wpList_push rfl _ _ 47 rfl w 50 (.pointer .none) 1 8 (pc cb) Tryd.underlying47 (by kernel_rfl) rfl (by decide) (pc_size cb) (pc_one cb) _ [] rfl w O0.out (Keeps.refl w) ((Keeps.refl _).alloc _) 1 _ 1 (Blk.new _ _ _) rfl ?c1 ?c2 ?_))
  case c1 => simp [maxLen]
  case c2 => simp
  intro v1 w1 ownO1 k1 _
  have O1 : Hid (Own 50 1 (pc cb) w1 w.heap.size v1 ([] ++ [1])) := ownO1
  clear ownO1
  have cR := reverse_row O1.out k1 (by simp) (by simp)
  go_wp2_with (go_at_call 41; refine cR.mono ?_; rintro e wz ⟨rfl, ⟨rb, cap, rfl, hz⟩, kz⟩)
  go_ret
  exact ⟨rb, cap, rfl, hz, kz⟩
set_option maxRecDepth 100000 in
set_option maxHeartbeats 4000000 in
theorem implNums_6 : SaysNums 6 := by
  intro cb w
  have O0 : Hid (Own 50 1 (pc cb) w w.heap.size (.slice .none 0 0) []) := Own.none _ _ _ _ _
  go_enter Tryd.func24, Tryd.ntmps24
  go_wp2_with (at_builtin; (refine wpList_push rfl _ _ 47 rfl w 50 (.pointer .none) 1 8 (pc cb) Tryd.underlying47 (by kernel_rfl) rfl (by decide) (pc_size cb) (pc_one cb) _ [] rfl w O0.out (Keeps.refl w) ((Keeps.refl _).alloc _) 1 _ 1 (Blk.new _ _ _) rfl ?c1 ?c2 ?_))
  case c1 => simp [maxLen]
  case c2 => simp
  intro v1 w1 ownO1 k1 _
  have O1 : Hid (Own 50 1 (pc cb) w1 w.heap.size v1 ([] ++ [1])) := ownO1
  clear ownO1
  have cR := reverse_row O1.out k1 (by simp) (by simp)
  go_wp2_with (go_at_call 41; refine cR.mono ?_; rintro e wz ⟨rfl, ⟨rb, cap, rfl, hz⟩, kz⟩)
  go_ret
  exact ⟨rb, cap, rfl, hz, kz⟩
set_option maxRecDepth 100000 in
set_option maxHeartbeats 4000000 in
theorem implNums_7 : SaysNums 7 := by
  intro cb w
  have O0 : Hid (Own 50 1 (pc cb) w w.heap.size (.slice .none 0 0) []) := Own.none _ _ _ _ _
  go_enter Tryd.func24, Tryd.ntmps24
  go_upto_region 18 with fail
  refine wp_region_late 9 (S := (fun w' => Keeps w w')) (by kernel_rfl) ?_ (fun hHeld => ?_)
  · exact (Keeps.refl w).drew
  refine Plan.go [0, 1, 2, 3, 4, 5, 6] ?_
  iterate 7 (refine lateL (by simp only [opsAt]; rfl) (by kernel_rfl) (by exact fun _ _ _ h => h) (by rfl) (by assumption) (fun w _ => by go_simp; try (with_reducible rfl)) ?_; try simp only [putAtH])
  refine Plan.nil ?_
  refine late_step (i := 7) (by kernel_rfl) (by simp only [List.getElem?_toArray, List.getElem?_cons_succ, List.getElem?_cons_zero]; rfl) (fun K hK => ?_)
  go_simp
  try go_wp2_with fail
  refine hK.out _ _ ?_ (fun hHeld => ?_)
  · exact Keeps.alloc (by assumption) _
  clear hK K
  try simp only [putAtH]
  refine late_step (i := 8) (by kernel_rfl) (by simp only [List.getElem?_toArray, List.getElem?_cons_succ, List.getElem?_cons_zero]; rfl) (fun K hK => ?_)
  (refine step_pushAll rfl (.tmp 48) (.tmp 55) 47 rfl w.heap.size 50 (.pointer .none) 1 8 (pc cb) Tryd.underlying47 (by kernel_rfl) rfl (by decide) (pc_size cb) (pc_one cb) (.slice .none 0 0) [] (by simp [Act.eval]) (Own.none _ _ _ _ _) (by simp) [3, 1] _ 0 2 (lies_two ((Blk.new w _ _).keeps (Keeps.refl _).drew)) (by simp [Act.eval]) (by simp [maxLen]) (by simp) ?_; intro v1 w1 o1 g1 f1)
  refine hK.out _ _ ?_ (fun hHeld => ?_)
  · exact Keeps.grown ((Keeps.refl w).alloc _).drew g1 (by intro q hq; simp [Value.ownBlock] at hq)
  clear hK K
  try simp only [putAtH]
  refine late_last (by kernel_rfl) (by simp only [List.getElem?_toArray, List.getElem?_cons_succ, List.getElem?_cons_zero]; rfl) (by kernel_rfl) (fun K hK => ?_)
  skip
  go_simp
  try go_wp2_with fail
  refine hK.out _ _ ?_
  clear hK K
  try simp only [putAtH]
  have k1 : Keeps w w1 := by assumption
  have O1 : Hid (Own 50 1 (pc cb) w1 w.heap.size v1 ([] ++ [3, 1])) := o1
  clear o1 g1 f1 hHeld
  have cR := reverse_row O1.out k1 (by simp) (by simp)
  go_wp2_with (go_at_call 41; refine cR.mono ?_; rintro e wz ⟨rfl, ⟨rb, cap, rfl, hz⟩, kz⟩)
  go_ret
  exact ⟨rb, cap, rfl, hz, kz⟩
set_option maxRecDepth 100000 in
set_option maxHeartbeats 4000000 in
theorem implNums_8 : SaysNums 8 := by
  intro cb w
  have O0 : Hid (Own 50 1 (pc cb) w w.heap.size (.slice .none 0 0) []) := Own.none _ _ _ _ _
  go_enter Tryd.func24, Tryd.ntmps24
  go_upto_region 18 with fail
  refine wp_region_late 9 (S := (fun w' => Keeps w w')) (by kernel_rfl) ?_ (fun hHeld => ?_)
  · exact (Keeps.refl w).drew
  refine Plan.go [0, 1, 2, 3, 4, 5, 6] ?_
  iterate 7 (refine lateL (by simp only [opsAt]; rfl) (by kernel_rfl) (by exact fun _ _ _ h => h) (by rfl) (by assumption) (fun w _ => by go_simp; try (with_reducible rfl)) ?_; try simp only [putAtH])
  refine Plan.nil ?_
  refine late_step (i := 7) (by kernel_rfl) (by simp only [List.getElem?_toArray, List.getElem?_cons_succ, List.getElem?_cons_zero]; rfl) (fun K hK => ?_)
  go_simp
  try go_wp2_with fail
  refine hK.out _ _ ?_ (fun hHeld => ?_)
  · exact Keeps.alloc (by assumption) _
  clear hK K
  try simp only [putAtH]
  refine late_step (i := 8) (by kernel_rfl) (by simp only [List.getElem?_toArray, List.getElem?_cons_succ, List.getElem?_cons_zero]; rfl) (fun K hK => ?_)
  (refine step_pushAll rfl (.tmp 48) (.tmp 55) 47 rfl w.heap.size 50 (.pointer .none) 1 8 (pc cb) Tryd.underlying47 (by kernel_rfl) rfl (by decide) (pc_size cb) (pc_one cb) (.slice .none 0 0) [] (by simp [Act.eval]) (Own.none _ _ _ _ _) (by simp) [3, 1] _ 0 2 (lies_two ((Blk.new w _ _).keeps (Keeps.refl _).drew)) (by simp [Act.eval]) (by simp [maxLen]) (by simp) ?_; intro v1 w1 o1 g1 f1)
  refine hK.out _ _ ?_ (fun hHeld => ?_)
  · exact Keeps.grown ((Keeps.refl w).alloc _).drew g1 (by intro q hq; simp [Value.ownBlock] at hq)
  clear hK K
  try simp only [putAtH]
  refine late_last (by kernel_rfl) (by simp only [List.getElem?_toArray, List.getElem?_cons_succ, List.getElem?_cons_zero]; rfl) (by kernel_rfl) (fun K hK => ?_)
  skip
  go_simp
  try go_wp2_with fail
  refine hK.out _ _ ?_
  clear hK K
  try simp only [putAtH]
  have k1 : Keeps w w1 := by assumption
  have O1 : Hid (Own 50 1 (pc cb) w1 w.heap.size v1 ([] ++ [3, 1])) := o1
  clear o1 g1 f1 hHeld
  have cR := reverse_row O1.out k1 (by simp) (by simp)
  go_wp2_with (go_at_call 41; refine cR.mono ?_; rintro e wz ⟨rfl, ⟨rb, cap, rfl, hz⟩, kz⟩)
  go_ret
  exact ⟨rb, cap, rfl, hz, kz⟩
set_option maxRecDepth 100000 in
set_option maxHeartbeats 4000000 in
theorem implNums_9 : SaysNums 9 := by
  intro cb w
  have O0 : Hid (Own 50 1 (pc cb) w w.heap.size (.slice .none 0 0) []) := Own.none _ _ _ _ _
  go_enter Tryd.func24, Tryd.ntmps24
  go_upto_region 18 with fail
  refine wp_region_late 9 (S := (fun w' => Keeps w w')) (by kernel_rfl) ?_ (fun hHeld => ?_)
  · exact (Keeps.refl w).drew
  refine Plan.go [0, 1, 2, 3, 4, 5, 6] ?_
  iterate 7 (refine lateL (by simp only [opsAt]; rfl) (by kernel_rfl) (by exact fun _ _ _ h => h) (by rfl) (by assumption) (fun w _ => by go_simp; try (with_reducible rfl)) ?_; try simp only [putAtH])
  refine Plan.nil ?_
  refine late_step (i := 7) (by kernel_rfl) (by simp only [List.getElem?_toArray, List.getElem?_cons_succ, List.getElem?_cons_zero]; rfl) (fun K hK => ?_)
  go_simp
  try go_wp2_with fail
  refine hK.out _ _ ?_ (fun hHeld => ?_)
  · exact Keeps.alloc (by assumption) _
  clear hK K
  try simp only [putAtH]
  refine late_step (i := 8) (by kernel_rfl) (by simp only [List.getElem?_toArray, List.getElem?_cons_succ, List.getElem?_cons_zero]; rfl) (fun K hK => ?_)
  (refine step_pushAll rfl (.tmp 48) (.tmp 55) 47 rfl w.heap.size 50 (.pointer .none) 1 8 (pc cb) Tryd.underlying47 (by kernel_rfl) rfl (by decide) (pc_size cb) (pc_one cb) (.slice .none 0 0) [] (by simp [Act.eval]) (Own.none _ _ _ _ _) (by simp) [3, 1] _ 0 2 (lies_two ((Blk.new w _ _).keeps (Keeps.refl _).drew)) (by simp [Act.eval]) (by simp [maxLen]) (by simp) ?_; intro v1 w1 o1 g1 f1)
  refine hK.out _ _ ?_ (fun hHeld => ?_)
  · exact Keeps.grown ((Keeps.refl w).alloc _).drew g1 (by intro q hq; simp [Value.ownBlock] at hq)
  clear hK K
  try simp only [putAtH]
  refine late_last (by kernel_rfl) (by simp only [List.getElem?_toArray, List.getElem?_cons_succ, List.getElem?_cons_zero]; rfl) (by kernel_rfl) (fun K hK => ?_)
  skip
  go_simp
  try go_wp2_with fail
  refine hK.out _ _ ?_
  clear hK K
  try simp only [putAtH]
  have k1 : Keeps w w1 := by assumption
  have O1 : Hid (Own 50 1 (pc cb) w1 w.heap.size v1 ([] ++ [3, 1])) := o1
  clear o1 g1 f1 hHeld
  have cR := reverse_row O1.out k1 (by simp) (by simp)
  go_wp2_with (go_at_call 41; refine cR.mono ?_; rintro e wz ⟨rfl, ⟨rb, cap, rfl, hz⟩, kz⟩)
  go_ret
  exact ⟨rb, cap, rfl, hz, kz⟩
set_option maxRecDepth 100000 in
set_option maxHeartbeats 4000000 in
theorem implNums_10 : SaysNums 10 := by
  intro cb w
  have O0 : Hid (Own 50 1 (pc cb) w w.heap.size (.slice .none 0 0) []) := Own.none _ _ _ _ _
  go_enter Tryd.func24, Tryd.ntmps24
  go_wp2_with (at_builtin; (refine wpList_push rfl _ _ 47 rfl w 50 (.pointer .none) 1 8 (pc cb) Tryd.underlying47 (by kernel_rfl) rfl (by decide) (pc_size cb) (pc_one cb) _ [] rfl w O0.out (Keeps.refl w) ((Keeps.refl _).alloc _) 2 _ 1 (Blk.new _ _ _) rfl ?c1 ?c2 ?_))
  case c1 => simp [maxLen]
  case c2 => simp
  intro v1 w1 ownO1 k1 _
  have O1 : Hid (Own 50 1 (pc cb) w1 w.heap.size v1 ([] ++ [2])) := ownO1
  clear ownO1
  go_wp2_with (at_builtin; (refine wpList_push rfl _ _ 47 rfl w 50 (.pointer .none) 1 8 (pc cb) Tryd.underlying47 (by kernel_rfl) rfl (by decide) (pc_size cb) (pc_one cb) _ ([] ++ [2]) rfl w1 O1.out k1 ((Keeps.refl _).alloc _) 1 _ 1 (Blk.new _ _ _) rfl ?c1 ?c2 ?_))
  case c1 => simp [maxLen]
  case c2 => simp
  intro v2 w2 ownO2 k2 _
  have O2 : Hid (Own 50 1 (pc cb) w2 w.heap.size v2 (([] ++ [2]) ++ [1])) := ownO2
  clear ownO2
  have cR := reverse_row O2.out k2 (by simp) (by simp)
  go_wp2_with (go_at_call 41; refine cR.mono ?_; rintro e wz ⟨rfl, ⟨rb, cap, rfl, hz⟩, kz⟩)
  go_ret
  exact ⟨rb, cap, rfl, hz, kz⟩
set_option maxRecDepth 100000 in
set_option maxHeartbeats 4000000 in
theorem implNums_11 : SaysNums 11 := by
  intro cb w
  have O0 : Hid (Own 50 1 (pc cb) w w.heap.size (.slice .none 0 0) []) := Own.none _ _ _ _ _
  go_enter Tryd.func24, Tryd.ntmps24
  go_wp2_with (at_builtin; (refine wpList_push rfl _ _ 47 rfl w 50 (.pointer .none) 1 8 (pc cb) Tryd.underlying47 (by kernel_rfl) rfl (by decide) (pc_size cb) (pc_one cb) _ [] rfl w O0.out (Keeps.refl w) ((Keeps.refl _).alloc _) 3 _ 1 (Blk.new _ _ _) rfl ?c1 ?c2 ?_))
  case c1 => simp [maxLen]
  case c2 => simp
  intro v1 w1 ownO1 k1 _
  have O1 : Hid (Own 50 1 (pc cb) w1 w.heap.size v1 ([] ++ [3])) := ownO1
  clear ownO1
  have cR := reverse_row O1.out k1 (by simp) (by simp)
  go_wp2_with (go_at_call 41; refine cR.mono ?_; rintro e wz ⟨rfl, ⟨rb, cap, rfl, hz⟩, kz⟩)
  go_ret
  exact ⟨rb, cap, rfl, hz, kz⟩
theorem implNums_any (k : Int) (h : 1 ≤ k ∧ k ≤ 11) : SaysNums k := by
  have h2 : k = 1 ∨ k = 2 ∨ k = 3 ∨ k = 4 ∨ k = 5 ∨ k = 6 ∨ k = 7 ∨ k = 8 ∨ k = 9 ∨ k = 10 ∨ k = 11 := by omega
  rcases h2 with rfl | rfl | rfl | rfl | rfl | rfl | rfl | rfl | rfl | rfl | rfl
  · exact implNums_1
  · exact implNums_2
  · exact implNums_3
  · exact implNums_4
  · exact implNums_5
  · exact implNums_6
  · exact implNums_7
  · exact implNums_8
  · exact implNums_9
  · exact implNums_10
  · exact implNums_11
/-- The variable errLine holds an error. -/
def GlobL (w : World) : Prop := ∃ tp a, w.cell? ⟨0, 0, none⟩ = some (.iface tp (.pointer (some a)))
theorem GlobL.keeps {w w' : World} (h : GlobL w) (k : Keeps w w') : GlobL w' := by
  obtain ⟨tp, a, h⟩ := h
  exact ⟨tp, a, Keeps.has h w' k⟩
/-- A panic with an error. -/
def Fell (e : Ending) : Prop := ∃ tp a, e = .panicked [{ v := .iface tp (.pointer (some a)), recovered := false }]
set_option maxRecDepth 100000 in
set_option maxHeartbeats 4000000 in
theorem implNums_no (s : List UInt8) (h : ∀ k ∈ kindsL, (s == wordL k) = false) (cb : Nat) (w : World) (hg : GlobL w) :
    Calls Tryd.prog 24 #[strV s, .pointer (some ⟨cb, 0, none⟩)] w fun e w' => Fell e ∧ Keeps w w' := by
  obtain ⟨tp, a, hg⟩ := hg
  unfold kindsL at h
  simp only [List.mem_cons, List.not_mem_nil, or_false, forall_eq_or_imp, forall_eq] at h
  obtain ⟨f1, f2, f3, f4, f5, f6, f7, f8, f9, f10, f11⟩ := h
  have g1 : (s == ([100, 117, 101] : List UInt8)) = false := f1
  have g2 : (s == ([102, 105, 120, 101, 100] : List UInt8)) = false := f2
  have g3 : (s == ([102, 97, 105, 114] : List UInt8)) = false := f3
  have g4 : (s == ([115, 108, 101, 101, 112] : List UInt8)) = false := f4
  have g5 : (s == ([119, 97, 107, 101] : List UInt8)) = false := f5
  have g6 : (s == ([101, 120, 105, 116] : List UInt8)) = false := f6
  have g7 : (s == ([108, 111, 99, 107] : List UInt8)) = false := f7
  have g8 : (s == ([117, 110, 108, 111, 99, 107] : List UInt8)) = false := f8
  have g9 : (s == ([110, 105, 99, 101] : List UInt8)) = false := f9
  have g10 : (s == ([109, 111, 118, 101] : List UInt8)) = false := f10
  have g11 : (s == ([116, 105, 99, 107, 115] : List UInt8)) = false := f11
  clear f1 f2 f3 f4 f5 f6 f7 f8 f9 f10 f11
  go_enter Tryd.func24, Tryd.ntmps24
  go_wp2
  exact ⟨rfl, ⟨tp, a, rfl⟩, Keeps.refl _⟩
end Go.Proofs.YtpikopdfkhagmaaDoor
