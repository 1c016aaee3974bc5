/-
  The library's own functions by their contracts, laid at this program.
  Numbers in digits as the library writes them; the places of a call's numbers; which calls have a line: plain facts.
  The program's CallLine: which calls have a line, the words, the places of the numbers, the line.
  A strings.Builder that the call itself has made: it is written by bytes and by texts.
-/
import Derived.Shelf.SlGeneric
import Derived.Shelf.Strconv.Itoa3
import Derived.Shelf.Strings.BuilderK
import Derived.Shelf.SlicesE.Reverse
import Derived.Test.YtpikopdfkhagmaaGreatDoorRows
import Derived.Test.YtpikopdfkhagmaaGreatDoorDeskParseP
import Derived.Test.YtpikopdfkhagmaaGreatDoorImplCall
import Derived.Test.YtpikopdfkhagmaaGreatDoorLate2
import Derived.Test.YtpikopdfkhagmaaGreatDoorDeskNum
import Derived.Test.YtpikopdfkhagmaaGreatDoorOwn
import Derived.Deep.RegionHeld3
import Derived.Lib.Builder
import Derived.Lib.OthersKept
import Derived.Shelf.Strings.Builder1
import Derived.Laws.Externs
namespace Go.Proofs
open Go.Shelf
def Tryz.lays171_ren : Go.Shelf.Ren := ⟨fun | 171 => 26 | 243 => 52 | 246 => 64 | 283 => 81 | 284 => 82 | 285 => 83 | 286 => 84 | 129 => 103 | 317 => 102 | 318 => 104 | 319 => 105 | 320 => 106 | 337 => 121 | 338 => 122 | n => n, fun | 3 => 3 | 9 => 9 | 2 => 2 | 4 => 4 | 171 => 118 | 0 => 0 | 53 => 119 | 37 => 22 | 5 => 5 | 173 => 122 | 212 => 151 | 51 => 152 | 20 => 20 | 213 => 153 | 46 => 105 | 232 => 169 | 233 => 170 | n => n, fun | 17 => 1 | 18 => 2 | 19 => 3 | n => n⟩
set_option maxRecDepth 100000 in
theorem Tryz.lays171 : Go.Proofs.LaysM.n171 Tryz.prog Tryz.lays171_ren := {
  mixed := by kernel_rfl
  f129 := Tryz.func103.trans (congrArg some (by kernel_rfl))
  f171 := Tryz.func26.trans (congrArg some (by kernel_rfl))
  f243 := Tryz.func52.trans (congrArg some (by kernel_rfl))
  f246 := Tryz.func64.trans (congrArg some (by kernel_rfl))
  f283 := Tryz.func81.trans (congrArg some (by kernel_rfl))
  f284 := Tryz.func82.trans (congrArg some (by kernel_rfl))
  f285 := Tryz.func83.trans (congrArg some (by kernel_rfl))
  f286 := Tryz.func84.trans (congrArg some (by kernel_rfl))
  f317 := Tryz.func102.trans (congrArg some (by kernel_rfl))
  f318 := Tryz.func104.trans (congrArg some (by kernel_rfl))
  f319 := Tryz.func105.trans (congrArg some (by kernel_rfl))
  f320 := Tryz.func106.trans (congrArg some (by kernel_rfl))
  f337 := Tryz.func121.trans (congrArg some (by kernel_rfl))
  f338 := Tryz.func122.trans (congrArg some (by kernel_rfl))
  t0 := Tryz.underlying0
  a0 := Tryz.isAgg0
  z0 := Tryz.sizeOf0
  v0 := Tryz.zeroValue0
  t2 := Tryz.underlying2
  a2 := Tryz.isAgg2
  z2 := Tryz.sizeOf2
  v2 := Tryz.zeroValue2
  t3 := Tryz.underlying3
  a3 := Tryz.isAgg3
  z3 := Tryz.sizeOf3
  v3 := Tryz.zeroValue3
  t4 := Tryz.underlying4
  a4 := Tryz.isAgg4
  z4 := Tryz.sizeOf4
  v4 := Tryz.zeroValue4
  t5 := Tryz.underlying5
  a5 := Tryz.isAgg5
  z5 := Tryz.sizeOf5
  v5 := Tryz.zeroValue5
  t9 := Tryz.underlying9
  a9 := Tryz.isAgg9
  z9 := Tryz.sizeOf9
  v9 := Tryz.zeroValue9
  t20 := Tryz.underlying20
  a20 := Tryz.isAgg20
  z20 := Tryz.sizeOf20
  v20 := Tryz.zeroValue20
  t37 := Tryz.underlying22
  a37 := Tryz.isAgg22
  z37 := Tryz.sizeOf22
  v37 := Tryz.zeroValue22
  t46 := Tryz.underlying105
  a46 := Tryz.isAgg105
  z46 := Tryz.sizeOf105
  v46 := Tryz.zeroValue105
  t51 := Tryz.underlying152
  a51 := Tryz.isAgg152
  z51 := Tryz.sizeOf152
  v51 := Tryz.zeroValue152
  t53 := Tryz.underlying119
  a53 := Tryz.isAgg119
  z53 := Tryz.sizeOf119
  v53 := Tryz.zeroValue119
  t171 := Tryz.underlying118
  a171 := Tryz.isAgg118
  z171 := Tryz.sizeOf118
  v171 := Tryz.zeroValue118
  t173 := Tryz.underlying122
  a173 := Tryz.isAgg122
  z173 := Tryz.sizeOf122
  v173 := Tryz.zeroValue122
  t212 := Tryz.underlying151
  a212 := Tryz.isAgg151
  z212 := Tryz.sizeOf151
  v212 := Tryz.zeroValue151
  t213 := Tryz.underlying153
  a213 := Tryz.isAgg153
  z213 := Tryz.sizeOf153
  t232 := Tryz.underlying169
  a232 := Tryz.isAgg169
  z232 := Tryz.sizeOf169
  v232 := Tryz.zeroValue169
  t233 := Tryz.underlying170
  a233 := Tryz.isAgg170
  z233 := Tryz.sizeOf170
  v233 := Tryz.zeroValue170
  g17 := by kernel_rfl
  g18 := by kernel_rfl
  g19 := by kernel_rfl
  i0 := by kernel_rfl
  i2 := by kernel_rfl
  i3 := by kernel_rfl
  i4 := by kernel_rfl
  i5 := by kernel_rfl
  i9 := by kernel_rfl
  i20 := by kernel_rfl
  i37 := by kernel_rfl
  i46 := by kernel_rfl
  i51 := by kernel_rfl
  i53 := by kernel_rfl
  i171 := by kernel_rfl
  i173 := by kernel_rfl
  i212 := by kernel_rfl
  i232 := by kernel_rfl
  i233 := by kernel_rfl
  m17 := by kernel_rfl
  m18 := by kernel_rfl
  m19 := by kernel_rfl }
def Tryz.lays169_ren : Go.Shelf.Ren := ⟨fun | 169 => 45 | n => n, fun | 70 => 72 | 9 => 9 | 0 => 0 | 72 => 74 | 37 => 22 | 127 => 101 | 3 => 3 | 5 => 5 | n => n, fun  | n => n⟩
set_option maxRecDepth 100000 in
theorem Tryz.lays169 : Go.Proofs.Lays.n169 Tryz.prog Tryz.lays169_ren := {
  mixed := by kernel_rfl
  f169 := Tryz.func45.trans (congrArg some (by kernel_rfl))
  t0 := Tryz.underlying0
  a0 := Tryz.isAgg0
  z0 := Tryz.sizeOf0
  v0 := Tryz.zeroValue0
  t3 := Tryz.underlying3
  a3 := Tryz.isAgg3
  z3 := Tryz.sizeOf3
  v3 := Tryz.zeroValue3
  t9 := Tryz.underlying9
  a9 := Tryz.isAgg9
  z9 := Tryz.sizeOf9
  v9 := Tryz.zeroValue9
  t37 := Tryz.underlying22
  a37 := Tryz.isAgg22
  z37 := Tryz.sizeOf22
  v37 := Tryz.zeroValue22
  t70 := Tryz.underlying72
  a70 := Tryz.isAgg72
  z70 := Tryz.sizeOf72
  v70 := Tryz.zeroValue72
  t72 := Tryz.underlying74
  a72 := Tryz.isAgg74
  z72 := Tryz.sizeOf74
  v72 := Tryz.zeroValue74
  t127 := Tryz.underlying101
  a127 := Tryz.isAgg101
  z127 := Tryz.sizeOf101
  v127 := Tryz.zeroValue101 }
def Tryz.laysRev_ren : Go.Shelf.Ren := ⟨fun | 35 => 51 | n => n, fun | 22 => 53 | 23 => 56 | 3 => 3 | 4 => 4 | 0 => 0 | n => n, fun  | n => n⟩
set_option maxRecDepth 100000 in
theorem Tryz.laysRev : Go.Proofs.SlLaysE.n35 Tryz.prog Tryz.laysRev_ren := {
  mixed := by kernel_rfl
  f35 := ⟨Tryz.f51.name, by decide, Tryz.func51.trans (congrArg some (by kernel_rfl))⟩
  t0 := Tryz.underlying0
  a0 := Tryz.isAgg0
  z0 := Tryz.sizeOf0
  v0 := Tryz.zeroValue0
  t3 := Tryz.underlying3
  a3 := Tryz.isAgg3
  z3 := Tryz.sizeOf3
  v3 := Tryz.zeroValue3
  t4 := Tryz.underlying4
  a4 := Tryz.isAgg4
  z4 := Tryz.sizeOf4
  v4 := Tryz.zeroValue4
  t22 := Tryz.underlying53
  a22 := Tryz.isAgg53
  z22 := Tryz.sizeOf53
  v22 := Tryz.zeroValue53
  a23 := Tryz.isAgg56
  z23 := Tryz.sizeOf56 }
end Go.Proofs
namespace Go.Proofs.YtpikopdfkhagmaaGreatDoor
open Go.RowKit

theorem dec_digs : ∀ (f n : Nat), n ≤ f → 0 < n → Lib.decDigits n = digs n
  | 0, n, h, h0 => by omega
  | f + 1, n, h, h0 => by
    rw [Lib.decDigits, digs_pos h0]
    by_cases hl : n < 10
    · rw [dif_pos hl, show n / 10 = 0 from by omega, show n % 10 = n from by omega]
      rfl
    · rw [dif_neg hl, dec_digs f (n / 10) (by omega) (by omega)]
      rfl
theorem itoa_numL (n : Int) : Lib.itoa n = numL n := by
  unfold Lib.itoa numL
  by_cases h : n < 0
  · rw [if_pos h, if_pos h, dec_digs n.natAbs n.natAbs (Nat.le_refl _) (by omega)]
  · rw [if_neg h, if_neg h]
    by_cases h0 : n = 0
    · subst h0
      rw [if_pos rfl]
      show Lib.decDigits 0 = [48]
      rw [Lib.decDigits, dif_pos (by omega)]
      rfl
    · rw [if_neg h0, show n.toNat = n.natAbs from by omega, dec_digs n.natAbs n.natAbs (Nat.le_refl _) (by omega)]
/-- The table of the library's that a number is written by. -/
def GlobT (w : World) : Prop := Lib.TabIs Tryz.prog w "internal/strconv.uint64pow10" .u64 Lib.pow10Tab
set_option maxRecDepth 100000 in
theorem globT_at : Tryz.prog.globalNamed "internal/strconv.uint64pow10" = some 1 := by kernel_rfl
theorem GlobT.keeps {w w' : World} (h : GlobT w) (k : Keeps w w') : GlobT w' := by
  unfold GlobT Lib.TabIs at h ⊢
  rw [← h]
  unfold World.var?
  unfold World.var? at h
  rw [globT_at] at h ⊢
  simp only [Option.bind_some] at h ⊢
  have hlt : 1 < w.heap.size := by
    rcases Nat.lt_or_ge 1 w.heap.size with h1 | h1
    · exact h1
    · rw [Array.getElem?_eq_none h1] at h
      cases h
  rw [Below.block k _ hlt]
theorem keeps_grow (w : World) (n : Nat) (os : Array Obj) : Keeps w (Sort.grow (w.drewN n) os) := by
  refine ⟨rfl, rfl, rfl, ?_, fun b hb => ?_⟩
  · rw [Sort.size_grow]
    exact Nat.le_add_right _ _
  · show (w.heap ++ os)[b]? = _
    rw [Array.getElem?_append_left hb]
set_option maxRecDepth 100000 in
theorem itoa_any (n : Int) (w : World) (hg : GlobT w) (h0 : -99999999 ≤ n) (h1 : n ≤ 99999999) :
    Calls Tryz.prog 26 #[.int .i64 n] w fun e w' => e = .returned (strV (numL n)) ∧ Keeps w w' := by
  refine (Any.strconv_Itoa Tryz.lays171 n (by omega) (by omega) w hg).mono ?_
  rintro e w' ⟨rfl, k, os, rfl⟩
  exact ⟨by rw [itoa_numL], keeps_grow w k os⟩
/-- The places of a kind's numbers in a call. -/
def placesO (k : Int) : List Nat :=
  if k == 1 || k == 2 then [1, 2, 3, 4] else if k == 3 then [1, 2, 3] else if k == 7 || k == 8 || k == 9 then [1, 3]
  else if k == 10 then [1, 2] else if k == 11 then [3] else [1]
theorem places_length (c : Cl) : (placesO c.kind).length = (numsL c).length := by
  unfold placesO numsL
  repeat' split
  all_goals simp
theorem places_at {c : Cl} {i : Nat} {x : Int} (h : (numsL c)[i]? = some x) : ∃ o, (placesO c.kind)[i]? = some o ∧ (cc c)[o]? = some (.int .i64 x) := by
  unfold numsL at h
  unfold placesO
  have hi : i < 4 := by
    rcases Nat.lt_or_ge i 4 with h1 | h1
    · exact h1
    · repeat' split at h
      all_goals rw [List.getElem?_eq_none (by simp; omega)] at h
      all_goals cases h
  have h4 : i = 0 ∨ i = 1 ∨ i = 2 ∨ i = 3 := by omega
  repeat' split at h
  all_goals rcases h4 with rfl | rfl | rfl | rfl
  all_goals simp at h
  all_goals subst h
  all_goals simp_all
/-- What the program asks of a call that has a line. -/
def leastK (c : Cl) : Int := if c.kind == 3 || c.kind == 9 then -9 else 0
def hasLB (c : Cl) : Bool := callB c && (inB c.no 0 9999999 && (inB c.cpu 0 9999999 && (inB c.a (leastK c) 9999999 && inB c.b 0 9999999)))
theorem has_line (c : Cl) : hasLB c = lineB c := by
  unfold hasLB lineB
  cases h : callB c
  · rfl
  obtain ⟨k, no, cpu, a, b⟩ := c
  unfold callB at h
  rw [Bool.and_eq_true] at h
  have hk := inB_iff.1 h.1
  simp only at hk
  have h2 : k = 1 ∨ k = 2 ∨ k = 3 ∨ k = 4 ∨ k = 5 ∨ k = 6 ∨ k = 7 ∨ k = 8 ∨ k = 9 ∨ k = 10 ∨ k = 11 := by omega
  have he := h.2
  clear h hk
  rcases h2 with rfl | rfl | rfl | rfl | rfl | rfl | rfl | rfl | rfl | rfl | rfl <;> simp [eqC, cleanC] at he <;> simp [firstsB, numOkB, leastI, leastK, numsL, inB, he, Bool.and_assoc]
/-- What a call that has a line is like. -/
theorem lineB_parts {c : Cl} (h : lineB c = true) : (1 ≤ c.kind ∧ c.kind ≤ 11) ∧ callB c = true ∧ firstsB c (numsL c).length = true := by
  unfold lineB at h
  rw [Bool.and_eq_true] at h
  refine ⟨?_, h.1, h.2⟩
  have h1 := h.1
  unfold callB at h1
  rw [Bool.and_eq_true] at h1
  exact inB_iff.1 h1.1
end Go.Proofs.YtpikopdfkhagmaaGreatDoor
namespace Go.Proofs.YtpikopdfkhagmaaGreatDoor
open Go.RowKit
attribute [local go_sem] Keeps.refl Keeps.alloc Keeps.drew Keeps.drewN

set_option maxRecDepth 100000 in
set_option maxHeartbeats 4000000 in
theorem implHasLine_any (c : Cl) (w : World) :
    Calls Tryz.prog 23 #[ck c] w fun e w' => e = .returned (.bool (lineB c)) ∧ Keeps w w' := by
  rw [← has_line]
  have kW := blkK w (.cells (cc c) 25)
  have hb := blkR w (cc c) 25
  obtain ⟨m, Hm⟩ : ∃ m, Hid (leastK c = m) := ⟨_, rfl⟩
  go_enter Tryz.func23, Tryz.ntmps23
  go_upto_region 2 with fail
  generalize w.alloc (.cells (cc c) 25) = W at *
  obtain ⟨LB, HLB⟩ : ∃ b, Hid ((c.kind == 3 || c.kind == 9) = b) := ⟨_, rfl⟩
  go_cut [11] (fun v wx => v = .bool LB ∧ wx = W)
  case first =>
    cases c3 : (c.kind == 3)
    · cases c9 : (c.kind == 9)
      · obtain rfl : LB = false := by rw [← HLB.out, c3, c9]; rfl
        go_wp2
        go_meet
        exact ⟨rfl, rfl⟩
      · obtain rfl : LB = true := by rw [← HLB.out, c3, c9]; rfl
        go_wp2
        go_meet
        exact ⟨rfl, rfl⟩
    · obtain rfl : LB = true := by rw [← HLB.out, c3]; rfl
      go_wp2
      go_meet
      exact ⟨rfl, rfl⟩
  case rest =>
  obtain ⟨rfl, rfl⟩ := hcut
  generalize wc = wx at *
  go_upto_if 11 with fail
  go_cut [3] (fun v wy => v = .int .i64 m ∧ wy = wx)
  case first =>
    cases LB
    · obtain rfl : m = 0 := by rw [← Hm.out]; unfold leastK; rw [HLB.out]; rfl
      go_wp2
      go_meet
      exact ⟨rfl, rfl⟩
    · obtain rfl : m = -9 := by rw [← Hm.out]; unfold leastK; rw [HLB.out]; rfl
      go_wp2
      go_meet
      exact ⟨rfl, rfl⟩
  case rest =>
  obtain ⟨rfl, rfl⟩ := hcut
  cases q0 : callB c
  · have Hr : Hid (hasLB c = false) := by show _ = _; unfold hasLB; rw [q0]; rfl
    go_wp2_with (go_at_call 9; refine (implCallOk_says c _).mono ?_; rintro e w1 ⟨rfl, k1⟩; rw [q0])
    go_ret
    exact ⟨by rw [Hr.out]; rfl, kW.trans k1⟩
  cases q1 : inB c.no 0 9999999
  · have Hr : Hid (hasLB c = false) := by show _ = _; unfold hasLB; rw [q0, q1]; rfl
    go_wp2_with (first
      | (go_at_call 9; refine (implCallOk_says c _).mono ?_; rintro e w1 ⟨rfl, k1⟩; rw [q0])
      | (go_at_call 50; refine (isWithin_any _ _ _ _).mono ?_; rintro e w' ⟨rfl, hw'⟩; have hw2 := hw'.symm; subst hw2; clear hw'; rw [q1]))
    go_ret
    exact ⟨by rw [Hr.out]; rfl, kW.trans k1⟩
  cases q2 : inB c.cpu 0 9999999
  · have Hr : Hid (hasLB c = false) := by show _ = _; unfold hasLB; rw [q0, q1, q2]; rfl
    go_wp2_with (first
      | (go_at_call 9; refine (implCallOk_says c _).mono ?_; rintro e w1 ⟨rfl, k1⟩; rw [q0])
      | (go_at_call 50; refine (isWithin_any _ _ _ _).mono ?_; rintro e w' ⟨rfl, hw'⟩; have hw2 := hw'.symm; subst hw2; clear hw'; first | rw [q1] | rw [q2]))
    go_ret
    exact ⟨by rw [Hr.out]; rfl, kW.trans k1⟩
  have Hm2 : Hid (inB c.a (leastK c) 9999999 = inB c.a m 9999999) := by show _ = _; rw [Hm.out]
  cases q3 : inB c.a m 9999999
  · have Hr : Hid (hasLB c = false) := by show _ = _; unfold hasLB; rw [Hm2.out, q0, q1, q2, q3]; rfl
    go_wp2_with (first
      | (go_at_call 9; refine (implCallOk_says c _).mono ?_; rintro e w1 ⟨rfl, k1⟩; rw [q0])
      | (go_at_call 50; refine (isWithin_any _ _ _ _).mono ?_; rintro e w' ⟨rfl, hw'⟩; have hw2 := hw'.symm; subst hw2; clear hw'; first | rw [q1] | rw [q2] | rw [q3]))
    go_ret
    exact ⟨by rw [Hr.out]; rfl, kW.trans k1⟩
  have Hr : Hid (hasLB c = inB c.b 0 9999999) := by show _ = _; unfold hasLB; rw [Hm2.out, q0, q1, q2, q3]; rfl
  obtain ⟨q, Hq⟩ : ∃ q, Hid (inB c.b 0 9999999 = q) := ⟨_, rfl⟩
  go_wp2_with (first
    | (go_at_call 9; refine (implCallOk_says c _).mono ?_; rintro e w1 ⟨rfl, k1⟩; rw [q0])
    | (go_at_call 50; refine (isWithin_any _ _ _ _).mono ?_; rintro e w' ⟨rfl, hw'⟩; have hw2 := hw'.symm; subst hw2; clear hw'; first | rw [q1] | rw [q2] | rw [q3] | rw [Hq.out]))
  go_ret
  exact ⟨by rw [Hr.out, Hq.out]; rfl, kW.trans k1⟩
set_option maxRecDepth 100000 in
set_option maxHeartbeats 2000000 in
theorem implCallWords_any (w : World) :
    Calls Tryz.prog 24 #[] w fun e w' => ∃ b, e = .returned (.slice (some ⟨b, 0, none⟩) 12 12) ∧ (∀ k, k < 12 → w'.cell? ⟨b, k, none⟩ = some (strV (wordL k))) ∧ Keeps w w' := by
  go_enter Tryz.func24, Tryz.ntmps24
  go_wp2
  go_ret
  refine ⟨_, rfl, fun k hk => ?_, (Keeps.refl w).alloc _⟩
  have h2 : k = 0 ∨ k = 1 ∨ k = 2 ∨ k = 3 ∨ k = 4 ∨ k = 5 ∨ k = 6 ∨ k = 7 ∨ k = 8 ∨ k = 9 ∨ k = 10 ∨ k = 11 := by omega
  rcases h2 with rfl | rfl | rfl | rfl | rfl | rfl | rfl | rfl | rfl | rfl | rfl | rfl <;> simp [go_sem, wordL]
/-- A place of a call. -/
abbrev qpc (cb : Nat) (o : Nat) : Array Value := #[.pointer (some ⟨cb, o, none⟩)]
theorem qpc_size (cb o : Nat) : (qpc cb o).size = 1 := rfl
theorem qpc_one (cb o : Nat) : ∀ u ∈ (qpc cb o).toList, u.oneCell' = true := by
  intro u hu
  obtain rfl : u = .pointer (some ⟨cb, o, none⟩) := by simpa using hu
  rfl
theorem Own.none {α : Type} (e : TypeId) (sz : Nat) (c : α → Array Value) (w : World) (base : Nat) : Own e sz c w base (.slice .none 0 0) [] := by
  refine ⟨?_, .inl ⟨rfl, rfl⟩⟩
  simp [flatC]
end Go.Proofs.YtpikopdfkhagmaaGreatDoor
namespace Go.Proofs.YtpikopdfkhagmaaGreatDoor
open Go.RowKit

set_option maxRecDepth 100000 in
set_option maxHeartbeats 2000000 in
theorem copyCheck_any (B b : Nat) (bs : List Value) (w : World) (h : Lib.IsBuilder 74 5 B b bs w) :
    Calls Tryz.prog 60 #[.pointer (some ⟨b, 0, none⟩)] w fun e w' => e = .returned (.tuple #[]) ∧ Lib.BuilderAt 74 5 B b (.pointer (some ⟨b, 0, none⟩)) bs w' ∧ Below B w w' ∧ Lib.OthersKept 5 (some b) w w' := by
  rcases h with h | h
  · have c0 := h.cell0
    have f0 := h.frozen0
    have hi : (Tryz.prog.info? 74).map (·.size) = some 2 := by kernel_rfl
    obtain ⟨j, hj, hjs⟩ := Option.map_eq_some_iff.1 hi
    have hu := h.used (.pointer (some ⟨b, 0, none⟩))
    have hb : Below B w (w.setCell ⟨b, 0, none⟩ (.pointer (some ⟨b, 0, none⟩))) := (Below.refl B w).setCell (p := ⟨b, 0, none⟩) h.1 _
    have u1 : (convert 72 106 (.pointer (some ⟨b, 0, none⟩))).run Tryz.prog w = .ok (.pointer (some ⟨b, 0, none⟩)) w := Lib.run_to_unsafe w ⟨b, 0, none⟩ Tryz.underlying72 Tryz.underlying106 hj (by rw [hjs]; decide) h.shape (Nat.zero_lt_succ 1)
    have u2 : ∀ x : Value, (callFunc 65 #[x]).run Tryz.prog w = _ := fun x => (run_callFunc_extern Tryz.func65 (by kernel_rfl) (by kernel_rfl) (by kernel_rfl) (e := Extern.AbiNoEscape.same) (by kernel_rfl) #[x] w)
    have u3 : (convert 106 72 (.pointer (some ⟨b, 0, none⟩))).run Tryz.prog w = .ok (.pointer (some ⟨b, 0, none⟩)) w := Lib.run_from_unsafe w ⟨b, 0, none⟩ Tryz.underlying106 Tryz.underlying72 hj h.shape (by kernel_rfl)
    have u4 : ∀ x : Value, (Extern.AbiNoEscape.same #[x]).run Tryz.prog w = .ok x w := fun x => rfl
    have hc1 : (w.setCell ⟨b, 0, none⟩ (.pointer (some ⟨b, 0, none⟩))).cell? ⟨b, 0, none⟩ = some (.pointer (some ⟨b, 0, none⟩)) := hu.cell0
    clear h hi hjs hj
    go_enter Tryz.func60, Tryz.ntmps60
    go_wp2
    go_end0
    exact ⟨rfl, hu, hb, (Lib.OthersKept.refl _ _ w).setCell ⟨b, 0, none⟩ rfl _⟩
  · have c0 := h.cell0
    have hi : (Tryz.prog.info? 74).map (·.size) = some 2 := by kernel_rfl
    obtain ⟨j, hj, hjs⟩ := Option.map_eq_some_iff.1 hi
    have u1 : (binOp .neq 72 (.pointer (some ⟨b, 0, none⟩)) (.pointer (some ⟨b, 0, none⟩))).run Tryz.prog w = .ok (.bool false) w := Lib.run_neq_ptr_same w _ Tryz.underlying72 hj
    clear hi hjs hj
    go_enter Tryz.func60, Tryz.ntmps60
    go_wp2
    go_end0
    exact ⟨rfl, h, Below.refl B _, Lib.OthersKept.refl _ _ _⟩
theorem row_kind {w : World} {B : Nat} {e : TypeId} {v : Value} {n : Nat} {xs : List Value} (h : w.ownsRow B e 1 v n xs) : ∀ g, v.ownBlock = some g → ∃ c fz, w.heap[g]? = some (.cells c e fz) := by
  intro g hg
  rcases h.2 with ⟨rfl, _⟩ | ⟨g', cap, cur, rfl, _, hh, _⟩
  · simp [Value.ownBlock] at hg
  · simp only [Value.ownBlock, Option.some.injEq] at hg
    subst hg
    exact ⟨cur, _, hh⟩
set_option maxRecDepth 100000 in
theorem byteInfo : ∃ i, Tryz.prog.info? 5 = some i ∧ i.zero = some (.int .u8 0) ∧ i.size = 1 ∧ i.bytes = 1 := by
  have h : (Tryz.prog.info? 5).map (fun i => (i.zero, i.size, i.bytes)) = some (some (.int .u8 0), 1, 1) := by kernel_rfl
  obtain ⟨i, hi, e⟩ := Option.map_eq_some_iff.1 h
  simp only [Prod.mk.injEq] at e
  exact ⟨i, hi, e.1, e.2.1, e.2.2⟩
set_option maxRecDepth 100000 in
set_option maxHeartbeats 2000000 in
theorem writeString_any (B b : Nat) (bs : List Value) (s : List UInt8) (w : World) (h : Lib.IsBuilder 74 5 B b bs w) (hl : bs.length + s.length ≤ 140737488355328) (hB : B ≤ w.heap.size) :
    Calls Tryz.prog 43 #[.pointer (some ⟨b, 0, none⟩), strV s] w fun e w' => (∃ v, e = .returned v) ∧ Lib.IsBuilder 74 5 B b (bs ++ Lib.byteCells s) w' ∧ Below B w w' ∧ Lib.OthersKept 5 (some b) w w' := by
  obtain ⟨i, hi, hz, hs1, hb1⟩ := byteInfo
  have hsz : (⟨s.toArray⟩ : ByteArray).size = s.length := by simp [ByteArray.size]
  have cC := copyCheck_any B b bs w h
  clear h
  go_enter Tryz.func43, Tryz.ntmps43
  go_wp2_with (first
    | (go_at_call 60; refine cC.mono ?_; rintro e w1 ⟨rfl, h1, kb1, ko1⟩; obtain ⟨hBb, v, hbk, hown, hne⟩ := h1; have c1 : w1.cell? ⟨b, 1, none⟩ = some v := (by rw [Lib.cell_of_heap hbk]; rfl))
    | (at_builtin; refine Lib.wpList_append_own_string _ rfl _ _ 22 9 rfl B 5 i Tryz.underlying22 Tryz.underlying9 hi hz hs1 hb1 _ _ _ rfl hown ⟨s.toArray⟩ rfl ?c3 ?c4 ?c5 ?_))
  case c3 => rw [hsz]; unfold maxLen; omega
  case c4 => rw [hsz]; omega
  case c5 => have := kb1.size; omega
  intro v' w2 own2 g2 _
  have hlt : b < w1.heap.size := (Array.getElem?_eq_some_iff.1 hbk).1
  have hb2 : w2.heap[b]? = some (.cells #[.pointer (some ⟨b, 0, none⟩), v] 74 (0, 0)) := by rw [g2.block b hlt (fun e => hne e.symm)]; exact hbk
  have d1 : w2.cell? ⟨b, 1, none⟩ = some v := by rw [Lib.cell_of_heap hb2]; rfl
  have f1 : w2.frozen? ⟨b, 1, none⟩ = false := Lib.frozen_of_heap hb2 1
  have own3 : w2.ownsRow B 5 1 v' (bs ++ Lib.byteCells s).length (bs ++ Lib.byteCells s) := by
    have h := own2
    rw [List.length_append, Lib.byteCells_length]
    exact h
  have R1 : Hid (Lib.IsBuilder 74 5 B b (bs ++ Lib.byteCells s) (w2.setCell ⟨b, 1, none⟩ v')) := Or.inr (Lib.BuilderAt.put hBb hb2 own3 (by decide))
  have R2 : Hid (Below B w (w2.setCell ⟨b, 1, none⟩ v')) := (kb1.grown g2 (by have := kb1.size; omega) (fun k hk => (World.ownsRow.lt hown k hk).1)).setCell (p := ⟨b, 1, none⟩) hBb _
  obtain ⟨ao, n', cap, rfl⟩ : ∃ ao n' cap, v' = .slice ao n' cap := by
    rcases own2.2 with ⟨hv, _⟩ | ⟨g, cap, cur, hv, _⟩
    · exact ⟨_, _, _, hv⟩
    · exact ⟨_, _, _, hv⟩
  have R3 : Hid (Lib.OthersKept 5 (some b) w (w2.setCell ⟨b, 1, none⟩ (.slice ao n' cap))) := (ko1.grown g2 (row_kind hown)).setCell ⟨b, 1, none⟩ rfl _
  clear own2 own3
  go_wp2
  go_ret2
  exact ⟨⟨_, rfl⟩, R1.out, R2.out, R3.out⟩
set_option maxRecDepth 100000 in
set_option maxHeartbeats 2000000 in
theorem writeByte_any (B b : Nat) (bs : List Value) (c : UInt8) (w : World) (h : Lib.IsBuilder 74 5 B b bs w) (hl : bs.length + 1 ≤ 140737488355328) (hB : B ≤ w.heap.size) :
    Calls Tryz.prog 42 #[.pointer (some ⟨b, 0, none⟩), .int .u8 (c.toNat : Int)] w fun e w' => (∃ v, e = .returned v) ∧ Lib.IsBuilder 74 5 B b (bs ++ Lib.byteCells [c]) w' ∧ Below B w w' ∧ Lib.OthersKept 5 (some b) w w' := by
  obtain ⟨i, hi, hz, hs1, hb1⟩ := byteInfo
  have cC := copyCheck_any B b bs w h
  clear h
  go_enter Tryz.func42, Tryz.ntmps42
  go_wp2_with (first
    | (go_at_call 60; refine cC.mono ?_; rintro e w1 ⟨rfl, h1, kb1, ko1⟩; obtain ⟨hBb, v, hbk, hown, hne⟩ := h1; have c1 : w1.cell? ⟨b, 1, none⟩ = some v := (by rw [Lib.cell_of_heap hbk]; rfl))
    | (at_builtin; refine wpList_append_own _ rfl _ _ 22 rfl B 5 i (.int .u8 0) 1 1 Tryz.underlying22 hi hz hs1 hb1 rfl (by decide) _ _ _ rfl (hown.alloc _) ⟨w1.heap.size, 0, none⟩ 1 1 [.int .u8 (c.toNat : Int)] rfl rfl ?c1 ?c2 ?c3 ?c4 ?c5 ?_))
  case c1 =>
    intro j u hj
    match j, hj with
    | 0, hj => simp at hj; subst hj; simp [Addr.add]
  case c2 => intro u hu; simp at hu; subst hu; rfl
  case c3 => unfold maxLen; omega
  case c4 => omega
  case c5 => have := kb1.size; simp; omega
  intro v' w2 own2 g2 _
  have hlt : b < w1.heap.size := (Array.getElem?_eq_some_iff.1 hbk).1
  have hb2 : w2.heap[b]? = some (.cells #[.pointer (some ⟨b, 0, none⟩), v] 74 (0, 0)) := by rw [g2.block b (by simp; omega) (fun e => hne e.symm), Lib.alloc_old w1 _ b hlt]; exact hbk
  have d1 : w2.cell? ⟨b, 1, none⟩ = some v := by rw [Lib.cell_of_heap hb2]; rfl
  have f1 : w2.frozen? ⟨b, 1, none⟩ = false := Lib.frozen_of_heap hb2 1
  have own3 : w2.ownsRow B 5 1 v' (bs ++ Lib.byteCells [c]).length (bs ++ Lib.byteCells [c]) := by
    have h := own2
    rw [List.length_append, Lib.byteCells_length]
    exact h
  have R1 : Hid (Lib.IsBuilder 74 5 B b (bs ++ Lib.byteCells [c]) (w2.setCell ⟨b, 1, none⟩ v')) := Or.inr (Lib.BuilderAt.put hBb hb2 own3 (by decide))
  have R2 : Hid (Below B w (w2.setCell ⟨b, 1, none⟩ v')) := ((kb1.alloc (by have := kb1.size; omega) _).grown g2 (by have := kb1.size; simp; omega) (fun k hk => (World.ownsRow.lt hown k hk).1)).setCell (p := ⟨b, 1, none⟩) hBb _
  obtain ⟨ao, n', cap, rfl⟩ : ∃ ao n' cap, v' = .slice ao n' cap := by
    rcases own2.2 with ⟨hv, _⟩ | ⟨g, cap, cur, hv, _⟩
    · exact ⟨_, _, _, hv⟩
    · exact ⟨_, _, _, hv⟩
  have R3 : Hid (Lib.OthersKept 5 (some b) w (w2.setCell ⟨b, 1, none⟩ (.slice ao n' cap))) := ((ko1.alloc _).grown g2 (row_kind (hown.alloc _))).setCell ⟨b, 1, none⟩ rfl _
  clear own2 own3
  go_wp2
  go_ret
  exact ⟨⟨_, rfl⟩, R1.out, R2.out, R3.out⟩
theorem builder_keeps {B b : Nat} {bs : List Value} {w w' : World} (h : Lib.IsBuilder 74 5 B b bs w) (k : Keeps w w') : Lib.IsBuilder 74 5 B b bs w' := by
  have go : ∀ p, Lib.BuilderAt 74 5 B b p bs w → Lib.BuilderAt 74 5 B b p bs w' := fun p ⟨hB, v, hb, hown, hne⟩ => by
    refine ⟨hB, v, by rw [Below.block k b (Array.getElem?_eq_some_iff.1 hb).1]; exact hb, ⟨hown.1, ?_⟩, hne⟩
    rcases hown.2 with h2 | ⟨g, cap, cur, hv, hg, hh, r⟩
    · exact .inl h2
    · exact .inr ⟨g, cap, cur, hv, hg, by rw [Below.block k g (Array.getElem?_eq_some_iff.1 hh).1]; exact hh, r⟩
  rcases h with h | h
  · exact .inl (go _ h)
  · exact .inr (go _ h)
end Go.Proofs.YtpikopdfkhagmaaGreatDoor
