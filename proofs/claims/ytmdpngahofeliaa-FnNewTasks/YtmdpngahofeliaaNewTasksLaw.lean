/-
  The law FnNewTasks's walk: for every text, over contracts of the program's functions.
-/
import Derived.Test.YtmdpngahofeliaaTaskLaws
import Derived.Test.YtmdpngahofeliaaDrawNew
import Derived.Deep.DeepCutAuto
namespace Go.Proofs.Ytmdpngahofeliaa
open Go.RowKit
attribute [local go_sem] Keeps.refl Keeps.alloc Keeps.drew Keeps.drewN

/-- The cells of no task; of a new one of each class. -/
abbrev zC : Array Value := #[.int .i64 0, .int .i64 0, .int .i64 0, .int .i64 0, .bool false, .int .i64 0, .int .i64 0, .int .i64 0, .int .i64 0, .int .i64 0, .int .i64 0, .int .i64 0, .int .i64 0, .int .i64 0]
abbrev dueC (no cpu q p now : Int) : Array Value := #[.int .i64 (no), .int .i64 (1), .int .i64 (cpu), .int .i64 (1), .bool false, .int .i64 (q), .int .i64 (p), .int .i64 (q), .int .i64 (now + p), .int .i64 (0), .int .i64 (0), .int .i64 (0), .int .i64 (0), .int .i64 (0)]
abbrev fixC (no2 cpu2 prio round seq : Int) : Array Value := #[.int .i64 (no2), .int .i64 (2), .int .i64 (cpu2), .int .i64 (1), .bool false, .int .i64 (0), .int .i64 (0), .int .i64 (round), .int .i64 (0), .int .i64 (prio), .int .i64 (round), .int .i64 (seq), .int .i64 (0), .int .i64 (0)]
abbrev fairC (no3 cpu3 nice v : Int) : Array Value := #[.int .i64 (no3), .int .i64 (3), .int .i64 (cpu3), .int .i64 (1), .bool false, .int .i64 (0), .int .i64 (0), .int .i64 (0), .int .i64 (0), .int .i64 (0), .int .i64 (0), .int .i64 (0), .int .i64 (nice), .int .i64 (v)]
theorem bytes_keeps {w w' : World} {a : Option Addr} {n : Nat} (hb : ∀ g, w.heap.size ≤ g → Bytes g w a n) (k : Keeps w w') : ∀ g, w'.heap.size ≤ g → Bytes g w' a n :=
  fun g hg => (hb g (Nat.le_trans k.size hg)).but (.of k)

set_option maxRecDepth 100000 in
set_option maxHeartbeats 8000000 in
theorem newTasks_walk (HT : SaysTaskOk) (HD : SaysNewDue) (HF : SaysNewFixed) (HR : SaysNewFair) (a : Option Addr) (n cap : Nat) (w : World) (hm : n ≤ maxLen) (hb : ∀ g, w.heap.size ≤ g → Bytes g w a n) :
    Calls Try.prog 10 #[.slice a n cap] w fun e w' => e = .returned (.bool true) ∧ Keeps w w' := by
  have hT : Hid SaysTaskOk := HT
  have hD : Hid SaysNewDue := HD
  have hF : Hid SaysNewFixed := HF
  have hR : Hid SaysNewFair := HR
  clear HT HD HF HR
  by_cases hn : n ≤ 1048576
  · have hd : decide (1048576 < (n : Int)) = false := by simp; omega
    go_enter Try.func10, Try.ntmps10
    go_wp2_with fail
    refine (big_any _ _ _ _ hm).mono ?_
    rintro e w1 ⟨rfl, rfl⟩
    go_wp2_with fail
    refine (drawNewDue_any _ _ _ _ hn hb).mono ?_
    rintro e w1 ⟨no, cpu, q, p, now, rfl, k1⟩
    obtain ⟨o1, Ho1⟩ : ∃ o, Hid (dueNewB no cpu q p now = o) := ⟨_, rfl⟩
    obtain ⟨N1, HN1⟩ : ∃ N, Hid (dueNewT no cpu q p now = N) := ⟨_, rfl⟩
    go_wp2_with fail
    refine (hD.out _ _ _ _ _ _).mono ?_
    rintro e w2 ⟨rfl, k2⟩
    rw [Ho1.out, HN1.out]
    go_wp2_with fail
    have r1 : ∀ w', Keeps (w2.alloc (.cells (tc N1) 25)) w' → ∀ k, w'.cell? ⟨w2.heap.size, k, none⟩ = (tc N1)[k]? := fun w' h => ((Blk.new w2 (tc N1) 25).keeps h).cells
    have K1 := (k1.trans k2).alloc (.cells (tc N1) 25)
    clear k1 k2
    generalize w2.alloc (.cells (tc N1) 25) = A1 at *
    generalize w2.heap.size = s1 at *
    refine (specNewDue_any _ _ _ _ _ _).mono ?_
    rintro e w3 ⟨rfl, k3⟩
    rw [Ho1.out, HN1.out]
    go_wp2_with fail
    have L2 := k3.alloc (.cells (tc N1) 25)
    clear k3
    generalize w3.alloc (.cells (tc N1) 25) = A2 at *
    refine (drawNewFixed_any _ _ _ _ hn (bytes_keeps hb (K1.trans L2))).mono ?_
    rintro e w4 ⟨no2, cpu2, prio, round, seq, rfl, k4⟩
    obtain ⟨o2, Ho2⟩ : ∃ o, Hid (taskB (fixT no2 cpu2 prio round seq) = o) := ⟨_, rfl⟩
    obtain ⟨N2, HN2⟩ : ∃ N, Hid (newT (fixT no2 cpu2 prio round seq) = N) := ⟨_, rfl⟩
    go_wp2_with fail
    refine (hF.out _ _ _ _ _ _).mono ?_
    rintro e w5 ⟨rfl, k5⟩
    rw [Ho2.out, HN2.out]
    go_wp2_with fail
    have r2 : ∀ w', Keeps (w5.alloc (.cells (tc N2) 25)) w' → ∀ k, w'.cell? ⟨w5.heap.size, k, none⟩ = (tc N2)[k]? := fun w' h => ((Blk.new w5 (tc N2) 25).keeps h).cells
    have L3 := L2.trans ((k4.trans k5).alloc (.cells (tc N2) 25))
    clear k4 k5 L2
    generalize w5.alloc (.cells (tc N2) 25) = A3 at *
    generalize w5.heap.size = s2 at *
    refine (specNewFixed_any _ _ _ _ _ _).mono ?_
    rintro e w6 ⟨rfl, k6⟩
    rw [Ho2.out, HN2.out]
    go_wp2_with fail
    have L4 := k6.alloc (.cells (tc N2) 25)
    clear k6
    generalize w6.alloc (.cells (tc N2) 25) = A4 at *
    refine (drawNewFair_any _ _ _ _ hn (bytes_keeps hb (K1.trans (L3.trans L4)))).mono ?_
    rintro e w7 ⟨no3, cpu3, nice, v, rfl, k7⟩
    obtain ⟨o3, Ho3⟩ : ∃ o, Hid (taskB (fairT no3 cpu3 nice v) = o) := ⟨_, rfl⟩
    obtain ⟨N3, HN3⟩ : ∃ N, Hid (newT (fairT no3 cpu3 nice v) = N) := ⟨_, rfl⟩
    go_wp2_with fail
    refine (hR.out _ _ _ _ _).mono ?_
    rintro e w8 ⟨rfl, k8⟩
    rw [Ho3.out, HN3.out]
    go_wp2_with fail
    have r3 : ∀ w', Keeps (w8.alloc (.cells (tc N3) 25)) w' → ∀ k, w'.cell? ⟨w8.heap.size, k, none⟩ = (tc N3)[k]? := fun w' h => ((Blk.new w8 (tc N3) 25).keeps h).cells
    have L5 := L4.trans ((k7.trans k8).alloc (.cells (tc N3) 25))
    clear k7 k8 L4
    generalize w8.alloc (.cells (tc N3) 25) = A5 at *
    generalize w8.heap.size = s3 at *
    refine (specNewFair_any _ _ _ _ _).mono ?_
    rintro e w9 ⟨rfl, k9⟩
    rw [Ho3.out, HN3.out]
    have n1 : (o1 != o1) = false := by simp
    have n2 : (o2 != o2) = false := by simp
    have n3 : (o3 != o3) = false := by simp
    go_upto_region 14 with fail
    have LX := k9.alloc (.cells (tc N3) 25)
    clear k9 hb
    generalize w9.alloc (.cells (tc N3) 25) = X at *
    generalize w9.heap.size = s4 at *
    have R1 : ∀ w', Keeps X w' → ∀ k, w'.cell? ⟨s1, k, none⟩ = (tc N1)[k]? := fun w' h => r1 w' ((L3.trans (L5.trans LX)).trans h)
    have R2 : ∀ w', Keeps X w' → ∀ k, w'.cell? ⟨s2, k, none⟩ = (tc N2)[k]? := fun w' h => r2 w' ((L5.trans LX).trans h)
    have R3 : ∀ w', Keeps X w' → ∀ k, w'.cell? ⟨s3, k, none⟩ = (tc N3)[k]? := fun w' h => r3 w' (LX.trans h)
    have KX := K1.trans (L3.trans (L5.trans LX))
    clear r1 r2 r3 K1 L3 L5 LX
    have ne1 : ∀ x : Int, (x != x) = false := by simp
    go_cut [162] (fun c wx => c = .bool false ∧ Keeps X wx)
    case first => as_aux_lemma =>
      cases o1
      · obtain rfl : N1 = Tsk.zero := by rw [← HN1.out]; simp [dueNewT, Ho1.out]
        have q1 : ∀ w', Keeps X w' → ∀ k, w'.cell? ⟨s1, k, none⟩ = zC[k]? := R1
        clear R1 R2 R3
        go_wp2
        go_meet
        exact ⟨rfl, Keeps.refl _⟩
      · have hB := Ho1.out
        obtain rfl : N1 = dueT no cpu q p now := by rw [← HN1.out]; simp [dueNewT, hB]
        simp only [dueNewB, Bool.and_eq_true] at hB
        obtain ⟨⟨i1, i2⟩, i3⟩ := hB
        obtain ⟨j1, j2⟩ := inB_iff.1 i1
        obtain ⟨⟨j3, j4⟩, j5, j6⟩ := okB_iff.1 i2
        have q1 : ∀ w', Keeps X w' → ∀ k, w'.cell? ⟨s1, k, none⟩ = (dueC no cpu q p now)[k]? := R1
        have I3 : Hid (taskB (dueT no cpu q p now) = true) := i3
        clear R1 R2 R3 i1 i2 i3
        go_wp2_with (go_at_call 22; refine (hT.out (dueT no cpu q p now) _).mono ?_; rintro e w' ⟨rfl, kk⟩; rw [I3.out])
        go_meet
        exact ⟨rfl, kk⟩
    case rest =>
    obtain ⟨rfl, kc⟩ := hcut
    have P2 : ∀ w', Keeps wc w' → ∀ k, w'.cell? ⟨s2, k, none⟩ = (tc N2)[k]? := fun w' h => R2 w' (kc.trans h)
    have P3 : ∀ w', Keeps wc w' → ∀ k, w'.cell? ⟨s3, k, none⟩ = (tc N3)[k]? := fun w' h => R3 w' (kc.trans h)
    have KY := KX.trans kc
    clear R1 R2 R3 kc KX
    generalize wc = Y at *
    go_upto_region 16 with fail
    go_cut [195] (fun c wx => c = .bool false ∧ Keeps Y wx)
    case first => as_aux_lemma =>
      cases o2
      · obtain rfl : N2 = Tsk.zero := by rw [← HN2.out]; simp [newT, Ho2.out]
        have q1 : ∀ w', Keeps Y w' → ∀ k, w'.cell? ⟨s2, k, none⟩ = zC[k]? := P2
        clear P2 P3
        go_wp2
        go_meet
        exact ⟨rfl, Keeps.refl _⟩
      · obtain rfl : N2 = fixT no2 cpu2 prio round seq := by rw [← HN2.out]; simp [newT, Ho2.out]
        have q1 : ∀ w', Keeps Y w' → ∀ k, w'.cell? ⟨s2, k, none⟩ = (fixC no2 cpu2 prio round seq)[k]? := P2
        clear P2 P3
        go_wp2_with (go_at_call 22; refine (hT.out (fixT no2 cpu2 prio round seq) _).mono ?_; rintro e w' ⟨rfl, kk⟩; rw [Ho2.out])
        go_meet
        exact ⟨rfl, kk⟩
    case rest =>
    obtain ⟨rfl, kc⟩ := hcut
    have Q3 : ∀ w', Keeps wc w' → ∀ k, w'.cell? ⟨s3, k, none⟩ = (tc N3)[k]? := fun w' h => P3 w' (kc.trans h)
    have KZ := KY.trans kc
    clear P2 P3 kc KY
    generalize wc = Z at *
    cases o3
    · obtain rfl : N3 = Tsk.zero := by rw [← HN3.out]; simp [newT, Ho3.out]
      have q1 : ∀ w', Keeps Z w' → ∀ k, w'.cell? ⟨s3, k, none⟩ = zC[k]? := Q3
      clear Q3
      go_wp2
      go_ret
      exact ⟨rfl, KZ⟩
    · obtain rfl : N3 = fairT no3 cpu3 nice v := by rw [← HN3.out]; simp [newT, Ho3.out]
      have q1 : ∀ w', Keeps Z w' → ∀ k, w'.cell? ⟨s3, k, none⟩ = (fairC no3 cpu3 nice v)[k]? := Q3
      clear Q3
      go_wp2_with (go_at_call 22; refine (hT.out (fairT no3 cpu3 nice v) _).mono ?_; rintro e w' ⟨rfl, kk⟩; rw [Ho3.out])
      go_ret
      exact ⟨rfl, KZ.trans kk⟩
  · have hd : decide (1048576 < (n : Int)) = true := by simp; omega
    go_enter Try.func10, Try.ntmps10
    go_wp2_with (go_at_call 41; refine (big_any _ _ _ _ hm).mono ?_; rintro e w1 ⟨rfl, rfl⟩)
    go_ret
    exact ⟨rfl, Keeps.refl _⟩
end Go.Proofs.Ytmdpngahofeliaa
