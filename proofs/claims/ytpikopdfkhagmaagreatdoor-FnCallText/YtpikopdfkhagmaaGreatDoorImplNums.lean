/-
  The program's numbersBehind: the places of a word's numbers in a call, in the order of the line; of no word: a panic.
  What every step from a walk to a given statement leans on.
  A list of bytes that comes in as an argument: what its reading says of its cells.
  The library's tables and the variable errLine, as the statements that list them have them when the call begins.
  The variable errLine, as the statements that list it have it when the call begins.
  Closed facts on the program as a whole that every statement of a seat asks for, proved once: over the head of the translation as a list of signs (its string, sign by sign in the kernel, costs gigabytes where a seat has many roots).
-/
import Derived.Test.YtpikopdfkhagmaaGreatDoorImplLine
import Derived.Test.YtpikopdfkhagmaaGreatDoorLockSpec3
import Derived.Test.YtpikopdfkhagmaaGreatDoorOwn
import Derived.Test.YtpikopdfkhagmaaGreatDoorLate2
import Derived.Deep.RegionHeld3
import Derived.Test.YtpikopdfkhagmaaGreatDoorRows
import Derived.WalkKit
import Derived.ProofKit
import Derived.OpenShut
import Derived.ShutString
import Derived.ChangeOld
import Derived.Lib.SmallJoins
import Derived.Test.YtpikopdfkhagmaaGreatDoorCur
import Derived.ChangeSame
import Derived.ChangeVars
import Derived.OpenVars
import Derived.JoinedOf
import Derived.RowKitTokens
import Derived.LaidLaws
import Derived.LaidHandle
import Derived.LaidMore
import Derived.Lib.LaidTab
import Derived.Stop.LaidErr
import Derived.Stop.Joined
namespace Go.Proofs.YtpikopdfkhagmaaGreatDoor
open Go.RowKit
attribute [local go_sem] Keeps.refl Keeps.alloc Keeps.drew Keeps.drewN

set_option maxRecDepth 100000 in
/-- The row of a call's places, turned round. -/
theorem reverse_row {w W : World} {cb : Nat} {v : Value} {xs : List Nat} (o : Own 56 1 (qpc cb) W w.heap.size v xs) (k : Keeps w W) (h0 : 0 < xs.length) (hl : xs.length ≤ 4) :
    Calls Tryz.prog 51 #[v] W fun e w' => e = .returned (.tuple #[]) ∧ (∃ rb cap, v = .slice (some ⟨rb, 0, none⟩) xs.length cap ∧ ∀ i o, xs.reverse[i]? = some o → w'.cell? ⟨rb, i, none⟩ = some (.pointer (some ⟨cb, o, none⟩))) ∧ Keeps w w' := by
  obtain ⟨b, cap, e⟩ := o.blk h0
  subst e
  have hB : w.heap.size ≤ b := (World.ownsRow.lt o b rfl).1
  have hH : Sort.Holds (fun o : Nat => Value.pointer (some ⟨cb, o, none⟩)) W b 0 xs.toArray := by
    intro j hj
    have hj' : j < xs.length := by simpa using hj
    refine ⟨?_, o.frozenAt _⟩
    have h1 := o.cellAt (qpc_size cb) (List.getElem?_eq_getElem hj') (k := 0) (by omega)
    simp only [Nat.mul_one, Nat.add_zero] at h1
    rw [Nat.zero_add, h1]
    simp [hj']
  refine (AnyE.slices_Reverse Tryz.laysRev (fun o : Nat => Value.pointer (some ⟨cb, o, none⟩)) (fun _ => rfl) b 0 cap xs W hH (by omega)).mono ?_
  rintro e w' ⟨rfl, n, rfl⟩
  refine ⟨rfl, ⟨b, cap, rfl, fun i x hx => ?_⟩, ?_⟩
  · have hi : i < xs.length := by
      have := lt_of_some hx
      simpa using this
    have h1 := Sort.cell?_putRow (fun o : Nat => Value.pointer (some ⟨cb, o, none⟩)) (Sort.ahead W n) b 0 xs.toArray xs.reverse.toArray hH (by simp) i (by simpa using hi)
    rw [Nat.zero_add] at h1
    rw [h1]
    have h2 : xs.reverse.toArray[i]! = x := by
      rw [getElem!_pos _ i (by simpa using hi)]
      rw [List.getElem?_eq_getElem (by simpa using hi)] at hx
      simpa using hx
    rw [h2]
  · refine ⟨k.os, k.tape, k.output, ?_, fun q hq => ?_⟩
    · rw [Sort.size_putRow]
      exact k.size
    · show (W.heap.modify b _)[q]? = _
      rw [Array.getElem?_modify, if_neg (by omega)]
      exact Below.block k q hq
theorem lies_two {cb x y : Nat} {w : World} {b : Nat} (hb : Blk w b #[.pointer (some ⟨cb, x, none⟩), .pointer (some ⟨cb, y, none⟩)]) : Lies 1 (qpc cb) w (some ⟨b, 0, none⟩) [x, y] := by
  refine .inr ⟨_, _, rfl, hb.lt, fun i z hz k hk => ?_⟩
  obtain rfl : k = 0 := by omega
  match i, hz with
  | 0, hz => simp at hz; subst hz; simpa using hb.cells 0
  | 1, hz => simp at hz; subst hz; simpa using hb.cells 1
  | i + 2, hz => simp at hz
/-- What numbersBehind tells of a kind's word. -/
def SaysNums (k : Int) : Prop := ∀ (cb : Nat) (w : World), Calls Tryz.prog 25 #[strV (wordL k), .pointer (some ⟨cb, 0, none⟩)] w fun e w' => ∃ rb cap, e = .returned (.slice (some ⟨rb, 0, none⟩) (placesO k).length cap) ∧ (∀ i o, (placesO k)[i]? = some o → w'.cell? ⟨rb, i, none⟩ = some (.pointer (some ⟨cb, o, none⟩))) ∧ Keeps w w'
set_option maxRecDepth 100000 in
set_option maxHeartbeats 4000000 in
theorem implNums_1 : SaysNums 1 := by
  intro cb w
  have O0 : Hid (Own 56 1 (qpc cb) w w.heap.size (.slice .none 0 0) []) := Own.none _ _ _ _ _
  go_enter Tryz.func25, Tryz.ntmps25
  go_wp2_with (at_builtin; (refine wpList_push rfl _ _ 53 rfl w 56 (.pointer .none) 1 8 (qpc cb) Tryz.underlying53 (by kernel_rfl) rfl (by decide) (qpc_size cb) (qpc_one cb) _ [] rfl w O0.out (Keeps.refl w) ((Keeps.refl _).alloc _) 4 _ 1 (Blk.new _ _ _) rfl ?c1 ?c2 ?_))
  case c1 => simp [maxLen]
  case c2 => simp
  intro v1 w1 ownO1 k1 _
  have O1 : Hid (Own 56 1 (qpc cb) w1 w.heap.size v1 ([] ++ [4])) := ownO1
  clear ownO1
  go_wp2_with (at_builtin; (refine wpList_push rfl _ _ 53 rfl w 56 (.pointer .none) 1 8 (qpc cb) Tryz.underlying53 (by kernel_rfl) rfl (by decide) (qpc_size cb) (qpc_one cb) _ ([] ++ [4]) rfl w1 O1.out k1 ((Keeps.refl _).alloc _) 3 _ 1 (Blk.new _ _ _) rfl ?c1 ?c2 ?_))
  case c1 => simp [maxLen]
  case c2 => simp
  intro v2 w2 ownO2 k2 _
  have O2 : Hid (Own 56 1 (qpc cb) w2 w.heap.size v2 (([] ++ [4]) ++ [3])) := ownO2
  clear ownO2
  go_wp2_with (at_builtin; (refine wpList_push rfl _ _ 53 rfl w 56 (.pointer .none) 1 8 (qpc cb) Tryz.underlying53 (by kernel_rfl) rfl (by decide) (qpc_size cb) (qpc_one cb) _ (([] ++ [4]) ++ [3]) rfl w2 O2.out k2 ((Keeps.refl _).alloc _) 2 _ 1 (Blk.new _ _ _) rfl ?c1 ?c2 ?_))
  case c1 => simp [maxLen]
  case c2 => simp
  intro v3 w3 ownO3 k3 _
  have O3 : Hid (Own 56 1 (qpc cb) w3 w.heap.size v3 ((([] ++ [4]) ++ [3]) ++ [2])) := ownO3
  clear ownO3
  go_wp2_with (at_builtin; (refine wpList_push rfl _ _ 53 rfl w 56 (.pointer .none) 1 8 (qpc cb) Tryz.underlying53 (by kernel_rfl) rfl (by decide) (qpc_size cb) (qpc_one cb) _ ((([] ++ [4]) ++ [3]) ++ [2]) rfl w3 O3.out k3 ((Keeps.refl _).alloc _) 1 _ 1 (Blk.new _ _ _) rfl ?c1 ?c2 ?_))
  case c1 => simp [maxLen]
  case c2 => simp
  intro v4 w4 ownO4 k4 _
  have O4 : Hid (Own 56 1 (qpc cb) w4 w.heap.size v4 (((([] ++ [4]) ++ [3]) ++ [2]) ++ [1])) := ownO4
  clear ownO4
  have cR := reverse_row O4.out k4 (by simp) (by simp)
  go_wp2_with (go_at_call 51; refine cR.mono ?_; rintro e wz ⟨rfl, ⟨rb, cap, rfl, hz⟩, kz⟩)
  go_ret
  exact ⟨rb, cap, rfl, hz, kz⟩
set_option maxRecDepth 100000 in
set_option maxHeartbeats 4000000 in
theorem implNums_2 : SaysNums 2 := by
  intro cb w
  have O0 : Hid (Own 56 1 (qpc cb) w w.heap.size (.slice .none 0 0) []) := Own.none _ _ _ _ _
  go_enter Tryz.func25, Tryz.ntmps25
  go_wp2_with (at_builtin; (refine wpList_push rfl _ _ 53 rfl w 56 (.pointer .none) 1 8 (qpc cb) Tryz.underlying53 (by kernel_rfl) rfl (by decide) (qpc_size cb) (qpc_one cb) _ [] rfl w O0.out (Keeps.refl w) ((Keeps.refl _).alloc _) 4 _ 1 (Blk.new _ _ _) rfl ?c1 ?c2 ?_))
  case c1 => simp [maxLen]
  case c2 => simp
  intro v1 w1 ownO1 k1 _
  have O1 : Hid (Own 56 1 (qpc cb) w1 w.heap.size v1 ([] ++ [4])) := ownO1
  clear ownO1
  go_wp2_with (at_builtin; (refine wpList_push rfl _ _ 53 rfl w 56 (.pointer .none) 1 8 (qpc cb) Tryz.underlying53 (by kernel_rfl) rfl (by decide) (qpc_size cb) (qpc_one cb) _ ([] ++ [4]) rfl w1 O1.out k1 ((Keeps.refl _).alloc _) 3 _ 1 (Blk.new _ _ _) rfl ?c1 ?c2 ?_))
  case c1 => simp [maxLen]
  case c2 => simp
  intro v2 w2 ownO2 k2 _
  have O2 : Hid (Own 56 1 (qpc cb) w2 w.heap.size v2 (([] ++ [4]) ++ [3])) := ownO2
  clear ownO2
  go_wp2_with (at_builtin; (refine wpList_push rfl _ _ 53 rfl w 56 (.pointer .none) 1 8 (qpc cb) Tryz.underlying53 (by kernel_rfl) rfl (by decide) (qpc_size cb) (qpc_one cb) _ (([] ++ [4]) ++ [3]) rfl w2 O2.out k2 ((Keeps.refl _).alloc _) 2 _ 1 (Blk.new _ _ _) rfl ?c1 ?c2 ?_))
  case c1 => simp [maxLen]
  case c2 => simp
  intro v3 w3 ownO3 k3 _
  have O3 : Hid (Own 56 1 (qpc cb) w3 w.heap.size v3 ((([] ++ [4]) ++ [3]) ++ [2])) := ownO3
  clear ownO3
  go_wp2_with (at_builtin; (refine wpList_push rfl _ _ 53 rfl w 56 (.pointer .none) 1 8 (qpc cb) Tryz.underlying53 (by kernel_rfl) rfl (by decide) (qpc_size cb) (qpc_one cb) _ ((([] ++ [4]) ++ [3]) ++ [2]) rfl w3 O3.out k3 ((Keeps.refl _).alloc _) 1 _ 1 (Blk.new _ _ _) rfl ?c1 ?c2 ?_))
  case c1 => simp [maxLen]
  case c2 => simp
  intro v4 w4 ownO4 k4 _
  have O4 : Hid (Own 56 1 (qpc cb) w4 w.heap.size v4 (((([] ++ [4]) ++ [3]) ++ [2]) ++ [1])) := ownO4
  clear ownO4
  have cR := reverse_row O4.out k4 (by simp) (by simp)
  go_wp2_with (go_at_call 51; refine cR.mono ?_; rintro e wz ⟨rfl, ⟨rb, cap, rfl, hz⟩, kz⟩)
  go_ret
  exact ⟨rb, cap, rfl, hz, kz⟩
set_option maxRecDepth 100000 in
set_option maxHeartbeats 4000000 in
theorem implNums_3 : SaysNums 3 := by
  intro cb w
  have O0 : Hid (Own 56 1 (qpc cb) w w.heap.size (.slice .none 0 0) []) := Own.none _ _ _ _ _
  go_enter Tryz.func25, Tryz.ntmps25
  go_wp2_with (at_builtin; (refine wpList_push rfl _ _ 53 rfl w 56 (.pointer .none) 1 8 (qpc cb) Tryz.underlying53 (by kernel_rfl) rfl (by decide) (qpc_size cb) (qpc_one cb) _ [] rfl w O0.out (Keeps.refl w) ((Keeps.refl _).alloc _) 3 _ 1 (Blk.new _ _ _) rfl ?c1 ?c2 ?_))
  case c1 => simp [maxLen]
  case c2 => simp
  intro v1 w1 ownO1 k1 _
  have O1 : Hid (Own 56 1 (qpc cb) w1 w.heap.size v1 ([] ++ [3])) := ownO1
  clear ownO1
  go_wp2_with (at_builtin; (refine wpList_push rfl _ _ 53 rfl w 56 (.pointer .none) 1 8 (qpc cb) Tryz.underlying53 (by kernel_rfl) rfl (by decide) (qpc_size cb) (qpc_one cb) _ ([] ++ [3]) rfl w1 O1.out k1 ((Keeps.refl _).alloc _) 2 _ 1 (Blk.new _ _ _) rfl ?c1 ?c2 ?_))
  case c1 => simp [maxLen]
  case c2 => simp
  intro v2 w2 ownO2 k2 _
  have O2 : Hid (Own 56 1 (qpc cb) w2 w.heap.size v2 (([] ++ [3]) ++ [2])) := ownO2
  clear ownO2
  go_wp2_with (at_builtin; (refine wpList_push rfl _ _ 53 rfl w 56 (.pointer .none) 1 8 (qpc cb) Tryz.underlying53 (by kernel_rfl) rfl (by decide) (qpc_size cb) (qpc_one cb) _ (([] ++ [3]) ++ [2]) rfl w2 O2.out k2 ((Keeps.refl _).alloc _) 1 _ 1 (Blk.new _ _ _) rfl ?c1 ?c2 ?_))
  case c1 => simp [maxLen]
  case c2 => simp
  intro v3 w3 ownO3 k3 _
  have O3 : Hid (Own 56 1 (qpc cb) w3 w.heap.size v3 ((([] ++ [3]) ++ [2]) ++ [1])) := ownO3
  clear ownO3
  have cR := reverse_row O3.out k3 (by simp) (by simp)
  go_wp2_with (go_at_call 51; refine cR.mono ?_; rintro e wz ⟨rfl, ⟨rb, cap, rfl, hz⟩, kz⟩)
  go_ret
  exact ⟨rb, cap, rfl, hz, kz⟩
set_option maxRecDepth 100000 in
set_option maxHeartbeats 4000000 in
theorem implNums_4 : SaysNums 4 := by
  intro cb w
  have O0 : Hid (Own 56 1 (qpc cb) w w.heap.size (.slice .none 0 0) []) := Own.none _ _ _ _ _
  go_enter Tryz.func25, Tryz.ntmps25
  go_wp2_with (at_builtin; (refine wpList_push rfl _ _ 53 rfl w 56 (.pointer .none) 1 8 (qpc cb) Tryz.underlying53 (by kernel_rfl) rfl (by decide) (qpc_size cb) (qpc_one cb) _ [] rfl w O0.out (Keeps.refl w) ((Keeps.refl _).alloc _) 1 _ 1 (Blk.new _ _ _) rfl ?c1 ?c2 ?_))
  case c1 => simp [maxLen]
  case c2 => simp
  intro v1 w1 ownO1 k1 _
  have O1 : Hid (Own 56 1 (qpc cb) w1 w.heap.size v1 ([] ++ [1])) := ownO1
  clear ownO1
  have cR := reverse_row O1.out k1 (by simp) (by simp)
  go_wp2_with (go_at_call 51; refine cR.mono ?_; rintro e wz ⟨rfl, ⟨rb, cap, rfl, hz⟩, kz⟩)
  go_ret
  exact ⟨rb, cap, rfl, hz, kz⟩
set_option maxRecDepth 100000 in
set_option maxHeartbeats 4000000 in
theorem implNums_5 : SaysNums 5 := by
  intro cb w
  have O0 : Hid (Own 56 1 (qpc cb) w w.heap.size (.slice .none 0 0) []) := Own.none _ _ _ _ _
  go_enter Tryz.func25, Tryz.ntmps25
  go_wp2_with (at_builtin; (refine wpList_push rfl _ _ 53 rfl w 56 (.pointer .none) 1 8 (qpc cb) Tryz.underlying53 (by kernel_rfl) rfl (by decide) (qpc_size cb) (qpc_one cb) _ [] rfl w O0.out (Keeps.refl w) ((Keeps.refl _).alloc _) 1 _ 1 (Blk.new _ _ _) rfl ?c1 ?c2 ?_))
  case c1 => simp [maxLen]
  case c2 => simp
  intro v1 w1 ownO1 k1 _
  have O1 : Hid (Own 56 1 (qpc cb) w1 w.heap.size v1 ([] ++ [1])) := ownO1
  clear ownO1
  have cR := reverse_row O1.out k1 (by simp) (by simp)
  go_wp2_with (go_at_call 51; refine cR.mono ?_; rintro e wz ⟨rfl, ⟨rb, cap, rfl, hz⟩, kz⟩)
  go_ret
  exact ⟨rb, cap, rfl, hz, kz⟩
set_option maxRecDepth 100000 in
set_option maxHeartbeats 4000000 in
theorem implNums_6 : SaysNums 6 := by
  intro cb w
  have O0 : Hid (Own 56 1 (qpc cb) w w.heap.size (.slice .none 0 0) []) := Own.none _ _ _ _ _
  go_enter Tryz.func25, Tryz.ntmps25
  go_wp2_with (at_builtin; (refine wpList_push rfl _ _ 53 rfl w 56 (.pointer .none) 1 8 (qpc cb) Tryz.underlying53 (by kernel_rfl) rfl (by decide) (qpc_size cb) (qpc_one cb) _ [] rfl w O0.out (Keeps.refl w) ((Keeps.refl _).alloc _) 1 _ 1 (Blk.new _ _ _) rfl ?c1 ?c2 ?_))
  case c1 => simp [maxLen]
  case c2 => simp
  intro v1 w1 ownO1 k1 _
  have O1 : Hid (Own 56 1 (qpc cb) w1 w.heap.size v1 ([] ++ [1])) := ownO1
  clear ownO1
  have cR := reverse_row O1.out k1 (by simp) (by simp)
  go_wp2_with (go_at_call 51; refine cR.mono ?_; rintro e wz ⟨rfl, ⟨rb, cap, rfl, hz⟩, kz⟩)
  go_ret
  exact ⟨rb, cap, rfl, hz, kz⟩
set_option maxRecDepth 100000 in
set_option maxHeartbeats 4000000 in
theorem implNums_7 : SaysNums 7 := by
  intro cb w
  have O0 : Hid (Own 56 1 (qpc cb) w w.heap.size (.slice .none 0 0) []) := Own.none _ _ _ _ _
  go_enter Tryz.func25, Tryz.ntmps25
  go_upto_region 18 with fail
  refine wp_region_late 9 (S := (fun w' => Keeps w w')) (by kernel_rfl) ?_ (fun hHeld => ?_)
  · exact (Keeps.refl w).drew
  refine Plan.go [0, 1, 2, 3, 4, 5, 6] ?_
  iterate 7 (refine lateL (by simp only [opsAt]; rfl) (by kernel_rfl) (by exact fun _ _ _ h => h) (by rfl) (by assumption) (fun w _ => by go_simp; try (with_reducible rfl)) ?_; try simp only [putAtH])
  refine Plan.nil ?_
  refine late_step (i := 7) (by kernel_rfl) (by simp only [List.getElem?_toArray, List.getElem?_cons_succ, List.getElem?_cons_zero]; rfl) (fun K hK => ?_)
  go_simp
  try go_wp2_with fail
  refine hK.out _ _ ?_ (fun hHeld => ?_)
  · exact Keeps.alloc (by assumption) _
  clear hK K
  try simp only [putAtH]
  refine late_step (i := 8) (by kernel_rfl) (by simp only [List.getElem?_toArray, List.getElem?_cons_succ, List.getElem?_cons_zero]; rfl) (fun K hK => ?_)
  (refine step_pushAll rfl (.tmp 48) (.tmp 55) 53 rfl w.heap.size 56 (.pointer .none) 1 8 (qpc cb) Tryz.underlying53 (by kernel_rfl) rfl (by decide) (qpc_size cb) (qpc_one cb) (.slice .none 0 0) [] (by simp [Act.eval]) (Own.none _ _ _ _ _) (by simp) [3, 1] _ 0 2 (lies_two ((Blk.new w _ _).keeps (Keeps.refl _).drew)) (by simp [Act.eval]) (by simp [maxLen]) (by simp) ?_; intro v1 w1 o1 g1 f1)
  refine hK.out _ _ ?_ (fun hHeld => ?_)
  · exact Keeps.grown ((Keeps.refl w).alloc _).drew g1 (by intro q hq; simp [Value.ownBlock] at hq)
  clear hK K
  try simp only [putAtH]
  refine late_last (by kernel_rfl) (by simp only [List.getElem?_toArray, List.getElem?_cons_succ, List.getElem?_cons_zero]; rfl) (by kernel_rfl) (fun K hK => ?_)
  skip
  go_simp
  try go_wp2_with fail
  refine hK.out _ _ ?_
  clear hK K
  try simp only [putAtH]
  have k1 : Keeps w w1 := by assumption
  have O1 : Hid (Own 56 1 (qpc cb) w1 w.heap.size v1 ([] ++ [3, 1])) := o1
  clear o1 g1 f1 hHeld
  have cR := reverse_row O1.out k1 (by simp) (by simp)
  go_wp2_with (go_at_call 51; refine cR.mono ?_; rintro e wz ⟨rfl, ⟨rb, cap, rfl, hz⟩, kz⟩)
  go_ret
  exact ⟨rb, cap, rfl, hz, kz⟩
set_option maxRecDepth 100000 in
set_option maxHeartbeats 4000000 in
theorem implNums_8 : SaysNums 8 := by
  intro cb w
  have O0 : Hid (Own 56 1 (qpc cb) w w.heap.size (.slice .none 0 0) []) := Own.none _ _ _ _ _
  go_enter Tryz.func25, Tryz.ntmps25
  go_upto_region 18 with fail
  refine wp_region_late 9 (S := (fun w' => Keeps w w')) (by kernel_rfl) ?_ (fun hHeld => ?_)
  · exact (Keeps.refl w).drew
  refine Plan.go [0, 1, 2, 3, 4, 5, 6] ?_
  iterate 7 (refine lateL (by simp only [opsAt]; rfl) (by kernel_rfl) (by exact fun _ _ _ h => h) (by rfl) (by assumption) (fun w _ => by go_simp; try (with_reducible rfl)) ?_; try simp only [putAtH])
  refine Plan.nil ?_
  refine late_step (i := 7) (by kernel_rfl) (by simp only [List.getElem?_toArray, List.getElem?_cons_succ, List.getElem?_cons_zero]; rfl) (fun K hK => ?_)
  go_simp
  try go_wp2_with fail
  refine hK.out _ _ ?_ (fun hHeld => ?_)
  · exact Keeps.alloc (by assumption) _
  clear hK K
  try simp only [putAtH]
  refine late_step (i := 8) (by kernel_rfl) (by simp only [List.getElem?_toArray, List.getElem?_cons_succ, List.getElem?_cons_zero]; rfl) (fun K hK => ?_)
  (refine step_pushAll rfl (.tmp 48) (.tmp 55) 53 rfl w.heap.size 56 (.pointer .none) 1 8 (qpc cb) Tryz.underlying53 (by kernel_rfl) rfl (by decide) (qpc_size cb) (qpc_one cb) (.slice .none 0 0) [] (by simp [Act.eval]) (Own.none _ _ _ _ _) (by simp) [3, 1] _ 0 2 (lies_two ((Blk.new w _ _).keeps (Keeps.refl _).drew)) (by simp [Act.eval]) (by simp [maxLen]) (by simp) ?_; intro v1 w1 o1 g1 f1)
  refine hK.out _ _ ?_ (fun hHeld => ?_)
  · exact Keeps.grown ((Keeps.refl w).alloc _).drew g1 (by intro q hq; simp [Value.ownBlock] at hq)
  clear hK K
  try simp only [putAtH]
  refine late_last (by kernel_rfl) (by simp only [List.getElem?_toArray, List.getElem?_cons_succ, List.getElem?_cons_zero]; rfl) (by kernel_rfl) (fun K hK => ?_)
  skip
  go_simp
  try go_wp2_with fail
  refine hK.out _ _ ?_
  clear hK K
  try simp only [putAtH]
  have k1 : Keeps w w1 := by assumption
  have O1 : Hid (Own 56 1 (qpc cb) w1 w.heap.size v1 ([] ++ [3, 1])) := o1
  clear o1 g1 f1 hHeld
  have cR := reverse_row O1.out k1 (by simp) (by simp)
  go_wp2_with (go_at_call 51; refine cR.mono ?_; rintro e wz ⟨rfl, ⟨rb, cap, rfl, hz⟩, kz⟩)
  go_ret
  exact ⟨rb, cap, rfl, hz, kz⟩
set_option maxRecDepth 100000 in
set_option maxHeartbeats 4000000 in
theorem implNums_9 : SaysNums 9 := by
  intro cb w
  have O0 : Hid (Own 56 1 (qpc cb) w w.heap.size (.slice .none 0 0) []) := Own.none _ _ _ _ _
  go_enter Tryz.func25, Tryz.ntmps25
  go_upto_region 18 with fail
  refine wp_region_late 9 (S := (fun w' => Keeps w w')) (by kernel_rfl) ?_ (fun hHeld => ?_)
  · exact (Keeps.refl w).drew
  refine Plan.go [0, 1, 2, 3, 4, 5, 6] ?_
  iterate 7 (refine lateL (by simp only [opsAt]; rfl) (by kernel_rfl) (by exact fun _ _ _ h => h) (by rfl) (by assumption) (fun w _ => by go_simp; try (with_reducible rfl)) ?_; try simp only [putAtH])
  refine Plan.nil ?_
  refine late_step (i := 7) (by kernel_rfl) (by simp only [List.getElem?_toArray, List.getElem?_cons_succ, List.getElem?_cons_zero]; rfl) (fun K hK => ?_)
  go_simp
  try go_wp2_with fail
  refine hK.out _ _ ?_ (fun hHeld => ?_)
  · exact Keeps.alloc (by assumption) _
  clear hK K
  try simp only [putAtH]
  refine late_step (i := 8) (by kernel_rfl) (by simp only [List.getElem?_toArray, List.getElem?_cons_succ, List.getElem?_cons_zero]; rfl) (fun K hK => ?_)
  (refine step_pushAll rfl (.tmp 48) (.tmp 55) 53 rfl w.heap.size 56 (.pointer .none) 1 8 (qpc cb) Tryz.underlying53 (by kernel_rfl) rfl (by decide) (qpc_size cb) (qpc_one cb) (.slice .none 0 0) [] (by simp [Act.eval]) (Own.none _ _ _ _ _) (by simp) [3, 1] _ 0 2 (lies_two ((Blk.new w _ _).keeps (Keeps.refl _).drew)) (by simp [Act.eval]) (by simp [maxLen]) (by simp) ?_; intro v1 w1 o1 g1 f1)
  refine hK.out _ _ ?_ (fun hHeld => ?_)
  · exact Keeps.grown ((Keeps.refl w).alloc _).drew g1 (by intro q hq; simp [Value.ownBlock] at hq)
  clear hK K
  try simp only [putAtH]
  refine late_last (by kernel_rfl) (by simp only [List.getElem?_toArray, List.getElem?_cons_succ, List.getElem?_cons_zero]; rfl) (by kernel_rfl) (fun K hK => ?_)
  skip
  go_simp
  try go_wp2_with fail
  refine hK.out _ _ ?_
  clear hK K
  try simp only [putAtH]
  have k1 : Keeps w w1 := by assumption
  have O1 : Hid (Own 56 1 (qpc cb) w1 w.heap.size v1 ([] ++ [3, 1])) := o1
  clear o1 g1 f1 hHeld
  have cR := reverse_row O1.out k1 (by simp) (by simp)
  go_wp2_with (go_at_call 51; refine cR.mono ?_; rintro e wz ⟨rfl, ⟨rb, cap, rfl, hz⟩, kz⟩)
  go_ret
  exact ⟨rb, cap, rfl, hz, kz⟩
set_option maxRecDepth 100000 in
set_option maxHeartbeats 4000000 in
theorem implNums_10 : SaysNums 10 := by
  intro cb w
  have O0 : Hid (Own 56 1 (qpc cb) w w.heap.size (.slice .none 0 0) []) := Own.none _ _ _ _ _
  go_enter Tryz.func25, Tryz.ntmps25
  go_wp2_with (at_builtin; (refine wpList_push rfl _ _ 53 rfl w 56 (.pointer .none) 1 8 (qpc cb) Tryz.underlying53 (by kernel_rfl) rfl (by decide) (qpc_size cb) (qpc_one cb) _ [] rfl w O0.out (Keeps.refl w) ((Keeps.refl _).alloc _) 2 _ 1 (Blk.new _ _ _) rfl ?c1 ?c2 ?_))
  case c1 => simp [maxLen]
  case c2 => simp
  intro v1 w1 ownO1 k1 _
  have O1 : Hid (Own 56 1 (qpc cb) w1 w.heap.size v1 ([] ++ [2])) := ownO1
  clear ownO1
  go_wp2_with (at_builtin; (refine wpList_push rfl _ _ 53 rfl w 56 (.pointer .none) 1 8 (qpc cb) Tryz.underlying53 (by kernel_rfl) rfl (by decide) (qpc_size cb) (qpc_one cb) _ ([] ++ [2]) rfl w1 O1.out k1 ((Keeps.refl _).alloc _) 1 _ 1 (Blk.new _ _ _) rfl ?c1 ?c2 ?_))
  case c1 => simp [maxLen]
  case c2 => simp
  intro v2 w2 ownO2 k2 _
  have O2 : Hid (Own 56 1 (qpc cb) w2 w.heap.size v2 (([] ++ [2]) ++ [1])) := ownO2
  clear ownO2
  have cR := reverse_row O2.out k2 (by simp) (by simp)
  go_wp2_with (go_at_call 51; refine cR.mono ?_; rintro e wz ⟨rfl, ⟨rb, cap, rfl, hz⟩, kz⟩)
  go_ret
  exact ⟨rb, cap, rfl, hz, kz⟩
set_option maxRecDepth 100000 in
set_option maxHeartbeats 4000000 in
theorem implNums_11 : SaysNums 11 := by
  intro cb w
  have O0 : Hid (Own 56 1 (qpc cb) w w.heap.size (.slice .none 0 0) []) := Own.none _ _ _ _ _
  go_enter Tryz.func25, Tryz.ntmps25
  go_wp2_with (at_builtin; (refine wpList_push rfl _ _ 53 rfl w 56 (.pointer .none) 1 8 (qpc cb) Tryz.underlying53 (by kernel_rfl) rfl (by decide) (qpc_size cb) (qpc_one cb) _ [] rfl w O0.out (Keeps.refl w) ((Keeps.refl _).alloc _) 3 _ 1 (Blk.new _ _ _) rfl ?c1 ?c2 ?_))
  case c1 => simp [maxLen]
  case c2 => simp
  intro v1 w1 ownO1 k1 _
  have O1 : Hid (Own 56 1 (qpc cb) w1 w.heap.size v1 ([] ++ [3])) := ownO1
  clear ownO1
  have cR := reverse_row O1.out k1 (by simp) (by simp)
  go_wp2_with (go_at_call 51; refine cR.mono ?_; rintro e wz ⟨rfl, ⟨rb, cap, rfl, hz⟩, kz⟩)
  go_ret
  exact ⟨rb, cap, rfl, hz, kz⟩
theorem implNums_any (k : Int) (h : 1 ≤ k ∧ k ≤ 11) : SaysNums k := by
  have h2 : k = 1 ∨ k = 2 ∨ k = 3 ∨ k = 4 ∨ k = 5 ∨ k = 6 ∨ k = 7 ∨ k = 8 ∨ k = 9 ∨ k = 10 ∨ k = 11 := by omega
  rcases h2 with rfl | rfl | rfl | rfl | rfl | rfl | rfl | rfl | rfl | rfl | rfl
  · exact implNums_1
  · exact implNums_2
  · exact implNums_3
  · exact implNums_4
  · exact implNums_5
  · exact implNums_6
  · exact implNums_7
  · exact implNums_8
  · exact implNums_9
  · exact implNums_10
  · exact implNums_11
/-- The variable errLine holds an error. -/
def GlobL (w : World) : Prop := ∃ tp a, w.cell? ⟨0, 0, none⟩ = some (.iface tp (.pointer (some a)))
theorem GlobL.keeps {w w' : World} (h : GlobL w) (k : Keeps w w') : GlobL w' := by
  obtain ⟨tp, a, h⟩ := h
  exact ⟨tp, a, Keeps.has h w' k⟩
/-- A panic with an error. -/
def Fell (e : Ending) : Prop := ∃ tp a, e = .panicked [{ v := .iface tp (.pointer (some a)), recovered := false }]
set_option maxRecDepth 100000 in
set_option maxHeartbeats 4000000 in
theorem implNums_no (s : List UInt8) (h : ∀ k ∈ kindsL, (s == wordL k) = false) (cb : Nat) (w : World) (hg : GlobL w) :
    Calls Tryz.prog 25 #[strV s, .pointer (some ⟨cb, 0, none⟩)] w fun e w' => Fell e ∧ Keeps w w' := by
  obtain ⟨tp, a, hg⟩ := hg
  unfold kindsL at h
  simp only [List.mem_cons, List.not_mem_nil, or_false, forall_eq_or_imp, forall_eq] at h
  obtain ⟨f1, f2, f3, f4, f5, f6, f7, f8, f9, f10, f11⟩ := h
  have g1 : (s == ([100, 117, 101] : List UInt8)) = false := f1
  have g2 : (s == ([102, 105, 120, 101, 100] : List UInt8)) = false := f2
  have g3 : (s == ([102, 97, 105, 114] : List UInt8)) = false := f3
  have g4 : (s == ([115, 108, 101, 101, 112] : List UInt8)) = false := f4
  have g5 : (s == ([119, 97, 107, 101] : List UInt8)) = false := f5
  have g6 : (s == ([101, 120, 105, 116] : List UInt8)) = false := f6
  have g7 : (s == ([108, 111, 99, 107] : List UInt8)) = false := f7
  have g8 : (s == ([117, 110, 108, 111, 99, 107] : List UInt8)) = false := f8
  have g9 : (s == ([110, 105, 99, 101] : List UInt8)) = false := f9
  have g10 : (s == ([109, 111, 118, 101] : List UInt8)) = false := f10
  have g11 : (s == ([116, 105, 99, 107, 115] : List UInt8)) = false := f11
  clear f1 f2 f3 f4 f5 f6 f7 f8 f9 f10 f11
  go_enter Tryz.func25, Tryz.ntmps25
  go_wp2
  exact ⟨rfl, ⟨tp, a, rfl⟩, Keeps.refl _⟩
end Go.Proofs.YtpikopdfkhagmaaGreatDoor
namespace Go.Proofs.YtpikopdfkhagmaaGreatDoor
theorem own : ownKnob Tryz.prog.godebug = none := by kernel_rfl
theorem laidOut : laidOutB Tryz.prog = true := by kernel_rfl
end Go.Proofs.YtpikopdfkhagmaaGreatDoor
namespace Go.Proofs.YtpikopdfkhagmaaGreatDoor
open Go.ChangeShapes Go.WideShapes Go.ChangeAt Go.RowKit

theorem open_bytes {H : Type} {enc : TypeId × Value → H} {W : World} {a : Option Addr} {len cap : Nat} {d : DataW H} {p : List MemPlace}
    (h : DataW.Trod enc Tryz.prog W 0 (fun _ => true) true 22 (.slice a len cap) d p) : len ≤ maxLen ∧ ∀ g, W.heap.size ≤ g → Bytes g W a len := by
  obtain ⟨fuel, hf⟩ := h
  rcases open_ints Tryz.underlying22 Tryz.underlying5 (by kernel_rfl) hf with ⟨hcs, _⟩ | ⟨x, l, c, zs, hcs, _, hl, hm, hz, _, hcell, hwz⟩
  · simp [Value.cells] at hcs
    obtain ⟨rfl, rfl, rfl⟩ := hcs
    exact ⟨by simp, fun g _ => .inl rfl⟩
  · simp [Value.cells] at hcs
    obtain ⟨rfl, rfl, rfl⟩ := hcs
    have hz' : zs.length = cap := by simpa using hz
    refine ⟨by omega, fun g hg => ?_⟩
    by_cases h0 : len = 0
    · exact .inl h0
    obtain ⟨b, off, spot⟩ := x
    have hs : spot = none := by
      have := World.cell?_spot (hcell 0 (by omega))
      simpa [Addr.add] using this
    subst hs
    have hb : b < W.heap.size := by
      have := World.block_lt_of_cell? W _ (hcell 0 (by omega))
      simpa [Addr.add] using this
    refine .inr ⟨b, off, rfl, by omega, fun j hj => ?_⟩
    have hj' : j < zs.length := by omega
    have hw := hwz (zs.getD j 0) (by simp [hj'])
    have hb8 := bounds_u8 hw
    have hc := hcell j hj'
    have e : (⟨b, off, none⟩ : Addr).add j = ⟨b, off + j, none⟩ := by
      unfold Addr.add
      by_cases h : j = 0 <;> simp [h]
    rw [e] at hc
    exact ⟨_, hb8.1, hb8.2, hc⟩
end Go.Proofs.YtpikopdfkhagmaaGreatDoor
namespace Go.Proofs.YtpikopdfkhagmaaGreatDoor
open Go.ChangeShapes Go.WideShapes Go.RowKit
set_option maxRecDepth 100000

/-- What the statements list. -/
abbrev laidT : List (String × DataW Unit) := [("math/bits.deBruijn32tab", Rows.laid_math_bits_deBruijn32tab), ("math/bits.deBruijn64tab", Rows.laid_math_bits_deBruijn64tab), ("internal/strconv.uint64pow10", Rows.laid_internal_strconv_uint64pow10)]
abbrev laidL : List (String × DataW Unit) := [("math/bits.deBruijn32tab", Rows.laid_math_bits_deBruijn32tab), ("math/bits.deBruijn64tab", Rows.laid_math_bits_deBruijn64tab), ("internal/strconv.uint64pow10", Rows.laid_internal_strconv_uint64pow10), ("loop.example/g00185/impl.errLine", Rows.laid_loop_example_g00185_impl_errLine)]
set_option maxRecDepth 100000 in
/-- The heap that the program's own start leaves meets it. -/
theorem laidT_met (os : Os) (args : Array Value) : laidMetH Tryz.prog laidT ((World.doorLaid Tryz.prog 400 os).forCall (fun _ _ => 0) ⟨#[], args, []⟩).memory :=
  laidMetH_of_parts3 (fuel := 8) (laidMet_of_run' 8 (by kernel_rfl) (by kernel_rfl)) (by kernel_rfl) (by kernel_rfl)
set_option maxRecDepth 100000 in
theorem laidL_met (os : Os) (args : Array Value) : laidMetH Tryz.prog laidL ((World.doorLaid Tryz.prog 400 os).forCall (fun _ _ => 0) ⟨#[], args, []⟩).memory :=
  laidMetH_of_parts3 (fuel := 8) (laidMet_of_run' 8 (by kernel_rfl) (by kernel_rfl)) (by kernel_rfl) (by kernel_rfl)
set_option maxRecDepth 100000 in
theorem tab_of {W : World} {r : List (String × DataW Unit)} (h : laidMet Tryz.prog (("internal/strconv.uint64pow10", Rows.laid_internal_strconv_uint64pow10) :: r) W) : GlobT W :=
  Lib.tabIs_of_head globT_at (show (Tryz.prog.globals[1]?).map (·.type) = some 151 by kernel_rfl) Tryz.underlying151 Tryz.underlying119 (by kernel_rfl) (by kernel_rfl) h
set_option maxRecDepth 100000 in
theorem globT_of_laidT {W : World} (h : laidMetH Tryz.prog laidT W) : GlobT W := by
  rw [MakeChecks.laidMetH_plain _ _ _ (by kernel_rfl)] at h
  exact tab_of h.tail.tail
set_option maxRecDepth 100000 in
theorem globT_of_laidL {W : World} (h : laidMetH Tryz.prog laidL W) : GlobT W := by
  rw [MakeChecks.laidMetH_plain _ _ _ (by kernel_rfl)] at h
  exact tab_of h.tail.tail
end Go.Proofs.YtpikopdfkhagmaaGreatDoor
namespace Go.Proofs.YtpikopdfkhagmaaGreatDoor
open Go.ChangeShapes Go.WideShapes Go.RowKit
set_option maxRecDepth 100000

theorem starred : "*" ++ "errors.errorString" = "*errors.errorString" := by decide
set_option maxRecDepth 100000 in
theorem errRow (u : TypeId) (h : Tryz.prog.typeName? 3 u = some "*errors.errorString") : u = 171 :=
  typeName_ptr_named (nm := "errors.errorString") (by rw [starred]; kernel_rfl) (by kernel_rfl) (by decide) u (by rw [starred]; exact h)
set_option maxRecDepth 100000 in
theorem globL_of_laidL {W : World} (h : laidMetH Tryz.prog laidL W) : GlobL W := by
  rw [MakeChecks.laidMetH_plain _ _ _ (by kernel_rfl)] at h
  obtain ⟨a, s, hv, _⟩ := laid_sentinel (ti := 77) (tp := 171) (te := 186) (ts := 9) h.tail.tail.tail (show Tryz.prog.globalNamed "loop.example/g00185/impl.errLine" = some 0 by kernel_rfl) (by kernel_rfl) Tryz.underlying77 errRow Tryz.underlying171 Tryz.underlying186 rfl rfl Tryz.underlying9 (by kernel_rfl) (by kernel_rfl)
  exact ⟨_, a, by simpa using World.var?_cell (show Tryz.prog.globalNamed "loop.example/g00185/impl.errLine" = some 0 by kernel_rfl) hv 0⟩
end Go.Proofs.YtpikopdfkhagmaaGreatDoor
namespace Go.Proofs.YtpikopdfkhagmaaGreatDoor

theorem join32 {b1 b2 b3 b4 b5 b6 b7 b8 b9 b10 b11 b12 b13 b14 b15 b16 b17 b18 b19 b20 b21 b22 b23 b24 b25 b26 b27 b28 b29 b30 b31 b32 : Bool} (h1 : b1 = true) (h2 : b2 = true) (h3 : b3 = true) (h4 : b4 = true) (h5 : b5 = true) (h6 : b6 = true) (h7 : b7 = true) (h8 : b8 = true) (h9 : b9 = true) (h10 : b10 = true) (h11 : b11 = true) (h12 : b12 = true) (h13 : b13 = true) (h14 : b14 = true) (h15 : b15 = true) (h16 : b16 = true) (h17 : b17 = true) (h18 : b18 = true) (h19 : b19 = true) (h20 : b20 = true) (h21 : b21 = true) (h22 : b22 = true) (h23 : b23 = true) (h24 : b24 = true) (h25 : b25 = true) (h26 : b26 = true) (h27 : b27 = true) (h28 : b28 = true) (h29 : b29 = true) (h30 : b30 = true) (h31 : b31 = true) (h32 : b32 = true) : (b1 && b2 && b3 && b4 && b5 && b6 && b7 && b8 && b9 && b10 && b11 && b12 && b13 && b14 && b15 && b16 && b17 && b18 && b19 && b20 && b21 && b22 && b23 && b24 && b25 && b26 && b27 && b28 && b29 && b30 && b31 && b32) = true := by
  subst_vars
  rfl
/-- The head's signs. -/
def headSigns : List Char := [Char.ofNat 104, Char.ofNat 97, Char.ofNat 114, Char.ofNat 110, Char.ofNat 101, Char.ofNat 115, Char.ofNat 115, Char.ofNat 32, Char.ofNat 52, Char.ofNat 50, Char.ofNat 49, Char.ofNat 57, Char.ofNat 57, Char.ofNat 100, Char.ofNat 52, Char.ofNat 101, Char.ofNat 102, Char.ofNat 97, Char.ofNat 56, Char.ofNat 98, Char.ofNat 56, Char.ofNat 53, Char.ofNat 102, Char.ofNat 102, Char.ofNat 102, Char.ofNat 98, Char.ofNat 52, Char.ofNat 102, Char.ofNat 49, Char.ofNat 53, Char.ofNat 100, Char.ofNat 56, Char.ofNat 48, Char.ofNat 100, Char.ofNat 55, Char.ofNat 57, Char.ofNat 52, Char.ofNat 102, Char.ofNat 99, Char.ofNat 102, Char.ofNat 52, Char.ofNat 57, Char.ofNat 51, Char.ofNat 57, Char.ofNat 57, Char.ofNat 49, Char.ofNat 101, Char.ofNat 97, Char.ofNat 54, Char.ofNat 54, Char.ofNat 102, Char.ofNat 55, Char.ofNat 49, Char.ofNat 56, Char.ofNat 54, Char.ofNat 101, Char.ofNat 54, Char.ofNat 97, Char.ofNat 57, Char.ofNat 56, Char.ofNat 101, Char.ofNat 98, Char.ofNat 48, Char.ofNat 52, Char.ofNat 54, Char.ofNat 50, Char.ofNat 56, Char.ofNat 97, Char.ofNat 57, Char.ofNat 57, Char.ofNat 52, Char.ofNat 97, Char.ofNat 32, Char.ofNat 99, Char.ofNat 117, Char.ofNat 116, Char.ofNat 32, Char.ofNat 97, Char.ofNat 116, Char.ofNat 32, Char.ofNat 108, Char.ofNat 111, Char.ofNat 111, Char.ofNat 112, Char.ofNat 46, Char.ofNat 101, Char.ofNat 120, Char.ofNat 97, Char.ofNat 109, Char.ofNat 112, Char.ofNat 108, Char.ofNat 101, Char.ofNat 47, Char.ofNat 103, Char.ofNat 48, Char.ofNat 48, Char.ofNat 49, Char.ofNat 56, Char.ofNat 53, Char.ofNat 47, Char.ofNat 108, Char.ofNat 97, Char.ofNat 119, Char.ofNat 115, Char.ofNat 46, Char.ofNat 70, Char.ofNat 110, Char.ofNat 67, Char.ofNat 97, Char.ofNat 108, Char.ofNat 108, Char.ofNat 84, Char.ofNat 101, Char.ofNat 120, Char.ofNat 116, Char.ofNat 32, Char.ofNat 108, Char.ofNat 111, Char.ofNat 111, Char.ofNat 112, Char.ofNat 46, Char.ofNat 101, Char.ofNat 120, Char.ofNat 97, Char.ofNat 109, Char.ofNat 112, Char.ofNat 108, Char.ofNat 101, Char.ofNat 47, Char.ofNat 103, Char.ofNat 48, Char.ofNat 48, Char.ofNat 49, Char.ofNat 56, Char.ofNat 53, Char.ofNat 47, Char.ofNat 108, Char.ofNat 97, Char.ofNat 119, Char.ofNat 115, Char.ofNat 46, Char.ofNat 70, Char.ofNat 110, Char.ofNat 84, Char.ofNat 117, Char.ofNat 114, Char.ofNat 110, Char.ofNat 84, Char.ofNat 101, Char.ofNat 120, Char.ofNat 116]
set_option maxRecDepth 100000 in
theorem head_is : Tryz.pinned.checked.prog.initOrder.toList = headSigns := by
  have h : Tryz.pinned.checked.prog.initOrder = String.ofList headSigns := String.toByteArray_inj.1 (by kernel_rfl)
  rw [h, String.toList_ofList]
set_option maxRecDepth 100000 in
theorem lifts_of (P : Program) (h : P.initOrder.toList = headSigns) : P.liftsFinal = false := by
  unfold Program.liftsFinal Program.headLifts
  rw [h]
  kernel_rfl
set_option maxRecDepth 100000 in
theorem lifts_final : Tryz.pinned.checked.prog.liftsFinal = false := lifts_of _ head_is
set_option maxRecDepth 100000 in
theorem make_of (P : Program) (h : P.initOrder.toList = headSigns) : P.make = some .cut := by
  unfold Program.make
  rw [h]
  kernel_rfl
set_option maxRecDepth 100000 in
theorem make_is : Tryz.pinned.checked.prog.make = some .cut := make_of _ head_is
set_option maxRecDepth 100000 in
theorem strip_is : stripLifts liftWords (behindMainWord (wordsSigns headSigns)) = ([], behindMainWord (wordsSigns headSigns)) := by kernel_rfl
set_option maxRecDepth 100000 in
theorem enter_of (P : Program) (h : P.initOrder.toList = headSigns) (h1 : P.laysLater = false) (h2 : P.bearsReflect = false) (h3 : P.doorFits [] = true) : P.mayEnter = true := by
  have hh : ((behindMainWord (wordsSigns headSigns)).head? == some "cut".toList) = true := by kernel_rfl
  have hs := strip_is
  unfold Program.mayEnter
  rw [h]
  generalize behindMainWord (wordsSigns headSigns) = L at hh hs ⊢
  cases L with
  | nil => cases hh
  | cons c rest =>
    simp only [hs, hh, h1, h2, h3]
    simp
set_option maxRecDepth 100000 in
theorem lays_later : Tryz.pinned.checked.prog.laysLater = false := by kernel_rfl
set_option maxRecDepth 100000 in
theorem bears_reflect : Tryz.pinned.checked.prog.bearsReflect = false := by kernel_rfl
set_option maxRecDepth 100000 in
theorem door_fits : Tryz.pinned.checked.prog.doorFits [] = true := by kernel_rfl
set_option maxRecDepth 100000 in
theorem may_enter : Tryz.pinned.checked.prog.mayEnter = true := enter_of _ head_is lays_later bears_reflect door_fits
end Go.Proofs.YtpikopdfkhagmaaGreatDoor
