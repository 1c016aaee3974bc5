/-
  Drawn numbers of new tasks.
-/
import Derived.Test.YtmdpngahofeliaaCur
namespace Go.Proofs.Ytmdpngahofeliaa
open Go.RowKit

set_option maxRecDepth 100000 in
set_option maxHeartbeats 1000000 in
theorem l2DrawNice_any (g : Nat) (w : World) (hc : Cur w g) :
    Calls Try.prog 84 #[.pointer (some ⟨g, 0, none⟩)] w fun e w' => ∃ x : Int, e = .returned (.int .i64 x) ∧ Cur w' g ∧ KeepsBut g w w' := by
  go_enter Try.func84, Try.ntmps84
  go_wp2_with fail
  refine (l1Once_any g _ _ hc (by omega) (by omega)).mono ?_
  rintro e w1 ⟨b, rfl, hc1, k1⟩
  cases b
  · go_wp2_with fail
    refine (l1Below_any g _ _ hc1 (by omega) (by omega)).mono ?_
    rintro e w2 ⟨x, rfl, hx0, hx1, hc2, k2⟩
    go_wp2
    go_ret
    exact ⟨_, rfl, hc2, k1.trans k2⟩
  · go_wp2_with fail
    refine (l1PickInt_new (fun _ => True) g [-5, 5, 100, -9223372036854775808] _ _ 4 4 _ _ rfl hc1 rfl (by decide) (by decide) rfl (by simp)).mono ?_
    rintro e w2 ⟨x, rfl, -, hc2, k2⟩
    go_wp2
    go_ret
    exact ⟨_, rfl, hc2, k1.trans k2⟩

set_option maxRecDepth 100000 in
set_option maxHeartbeats 1000000 in
theorem drawNewDue_any (a : Option Addr) (n cap : Nat) (w : World) (hn : n ≤ 1048576) (hb : ∀ g, w.heap.size ≤ g → Bytes g w a n) :
    Calls Try.prog 42 #[.slice a n cap] w fun e w' => ∃ no cpu q p now : Int, e = .returned (.tuple #[.int .i64 no, .int .i64 cpu, .int .i64 q, .int .i64 p, .int .i64 now]) ∧ Keeps w w' := by
  go_enter Try.func42, Try.ntmps42
  go_wp2_with fail
  refine (l1New_any a n cap _ hn hb).mono ?_
  rintro e w1 ⟨g, rfl, hg, hc1, k1⟩
  clear hb
  go_wp2_with fail
  refine (l1PickInt_new (fun _ => True) g [0, 1, 5, 9, 1000, 1001] _ _ 6 6 _ _ rfl hc1 rfl (by decide) (by decide) rfl (by simp)).mono ?_
  rintro e w2 ⟨no, rfl, -, hc2, k2⟩
  go_wp2_with fail
  refine (l1Below_any g _ _ hc2 (by omega) (by omega)).mono ?_
  rintro e w3 ⟨cpu, rfl, hx0, hx1, hc3, k3⟩
  go_wp2_with fail
  refine (l1PickInt_new (fun z => 0 ≤ z ∧ z ≤ 41) g [0, 1, 5, 8, 10, 40, 41] _ _ 7 7 _ _ rfl hc3 rfl (by decide) (by decide) rfl (by simp)).mono ?_
  rintro e w4 ⟨p, rfl, ⟨hp0, hp1⟩, hc4, k4⟩
  go_wp2_with fail
  refine (l1PickInt_new (fun _ => True) g [0, 1, 2, 3, p, p + 1] _ _ 6 6 _ _ rfl hc4 rfl (by decide) (by decide) rfl (by simp)).mono ?_
  rintro e w5 ⟨q, rfl, -, hc5, k5⟩
  go_wp2_with fail
  refine (l1PickInt_new (fun _ => True) g [0, 7, 100000, 100001, -1] _ _ 5 5 _ _ rfl hc5 rfl (by decide) (by decide) rfl (by simp)).mono ?_
  rintro e w6 ⟨now, rfl, -, hc6, k6⟩
  go_wp2
  exact bodyPost_ret (v := .tuple #[.int .i64 no, .int .i64 (cpu - 1), .int .i64 q, .int .i64 p, .int .i64 now]) (by simp [results, Try.results42, go_sem]) rfl ⟨_, _, _, _, _, rfl, ((((k2.trans k3).trans k4).trans k5).trans k6).keeps k1 hg⟩

set_option maxRecDepth 100000 in
set_option maxHeartbeats 1000000 in
theorem drawNewFixed_any (a : Option Addr) (n cap : Nat) (w : World) (hn : n ≤ 1048576) (hb : ∀ g, w.heap.size ≤ g → Bytes g w a n) :
    Calls Try.prog 43 #[.slice a n cap] w fun e w' => ∃ no cpu prio round seq : Int, e = .returned (.tuple #[.int .i64 no, .int .i64 cpu, .int .i64 prio, .int .i64 round, .int .i64 seq]) ∧ Keeps w w' := by
  go_enter Try.func43, Try.ntmps43
  go_wp2_with fail
  refine (l1New_any a n cap _ hn hb).mono ?_
  rintro e w1 ⟨g, rfl, hg, hc1, k1⟩
  clear hb
  go_wp2_with fail
  refine (l1PickInt_new (fun _ => True) g [0, 1, 5, 9, 1000] _ _ 5 5 _ _ rfl hc1 rfl (by decide) (by decide) rfl (by simp)).mono ?_
  rintro e w2 ⟨no, rfl, -, hc2, k2⟩
  go_wp2_with fail
  refine (l1Below_any g _ _ hc2 (by omega) (by omega)).mono ?_
  rintro e w3 ⟨cpu, rfl, hx0, hx1, hc3, k3⟩
  go_wp2_with fail
  refine (l1Below_any g _ _ hc3 (by omega) (by omega)).mono ?_
  rintro e w4 ⟨prio, rfl, hp0, hp1, hc4, k4⟩
  go_wp2_with fail
  refine (l1Below_any g _ _ hc4 (by omega) (by omega)).mono ?_
  rintro e w5 ⟨round, rfl, hr0, hr1, hc5, k5⟩
  go_wp2_with fail
  refine (l1PickInt_new (fun _ => True) g [0, 1, 1000000, 1000001, -1] _ _ 5 5 _ _ rfl hc5 rfl (by decide) (by decide) rfl (by simp)).mono ?_
  rintro e w6 ⟨seq, rfl, -, hc6, k6⟩
  go_wp2
  exact bodyPost_ret (v := .tuple #[.int .i64 no, .int .i64 (cpu - 1), .int .i64 (prio - 1), .int .i64 (round - 1), .int .i64 seq]) (by simp [results, Try.results43, go_sem]) rfl ⟨_, _, _, _, _, rfl, ((((k2.trans k3).trans k4).trans k5).trans k6).keeps k1 hg⟩

set_option maxRecDepth 100000 in
set_option maxHeartbeats 1000000 in
theorem drawNewFair_any (a : Option Addr) (n cap : Nat) (w : World) (hn : n ≤ 1048576) (hb : ∀ g, w.heap.size ≤ g → Bytes g w a n) :
    Calls Try.prog 44 #[.slice a n cap] w fun e w' => ∃ no cpu nice v : Int, e = .returned (.tuple #[.int .i64 no, .int .i64 cpu, .int .i64 nice, .int .i64 v]) ∧ Keeps w w' := by
  go_enter Try.func44, Try.ntmps44
  go_wp2_with fail
  refine (l1New_any a n cap _ hn hb).mono ?_
  rintro e w1 ⟨g, rfl, hg, hc1, k1⟩
  clear hb
  go_wp2_with fail
  refine (l1PickInt_new (fun _ => True) g [0, 1, 5, 9, 1000] _ _ 5 5 _ _ rfl hc1 rfl (by decide) (by decide) rfl (by simp)).mono ?_
  rintro e w2 ⟨no, rfl, -, hc2, k2⟩
  go_wp2_with fail
  refine (l1Below_any g _ _ hc2 (by omega) (by omega)).mono ?_
  rintro e w3 ⟨cpu, rfl, hx0, hx1, hc3, k3⟩
  go_wp2_with fail
  refine (l2DrawNice_any g _ hc3).mono ?_
  rintro e w4 ⟨nice, rfl, hc4, k4⟩
  go_wp2_with fail
  refine (l1PickInt_new (fun _ => True) g [0, 5, 100000000, 100000001, -1] _ _ 5 5 _ _ rfl hc4 rfl (by decide) (by decide) rfl (by simp)).mono ?_
  rintro e w5 ⟨v, rfl, -, hc5, k5⟩
  go_wp2
  exact bodyPost_ret (v := .tuple #[.int .i64 no, .int .i64 (cpu - 1), .int .i64 nice, .int .i64 v]) (by simp [results, Try.results44, go_sem]) rfl ⟨_, _, _, _, rfl, (((k2.trans k3).trans k4).trans k5).keeps k1 hg⟩
end Go.Proofs.Ytmdpngahofeliaa
