/-
  The model's l14Num: a number in digits.
-/
import Derived.Test.YtpikopdfkhagmaaDoorDeskPure
import Derived.Test.YtpikopdfkhagmaaDoorBlk
import Derived.Laws.Concat
import Derived.Laws.BytesString
namespace Go.Proofs.YtpikopdfkhagmaaDoor
open Go.RowKit
attribute [local go_sem] Keeps.refl Keeps.alloc Keeps.drew Keeps.drewN

set_option maxRecDepth 100000 in
/-- One byte of a row of one's own, as a text. -/
theorem run_oneByte (w : World) (d : Nat) (t : TypeId) :
    (convert 61 9 (.slice (some ⟨w.heap.size, 0, none⟩) 1 1)).run Tryd.prog (w.alloc (.cells #[.int .u8 (48 + (d : Int))] t)) = .ok (strV [dig d]) (w.alloc (.cells #[.int .u8 (48 + (d : Int))] t)) := by
  rw [run_convert_bytes_string _ _ _ _ _ _ _ Tryd.underlying61 Tryd.underlying5 Tryd.underlying9]
  have h := run_bytesToString (P := Tryd.prog) (w.alloc (.cells #[.int .u8 (48 + (d : Int))] t)) ⟨w.heap.size, 0, none⟩ 1 1 [48 + (d : Int)] (run_loadCells_list (w.alloc (.cells #[.int .u8 (48 + (d : Int))] t)) ⟨w.heap.size, 0, none⟩ [.int .u8 (48 + (d : Int))] (fun j v hv => by
    match j, hv with
    | 0, hv =>
      obtain rfl : Value.int .u8 (48 + (d : Int)) = v := by simpa using hv
      simp [Addr.add, go_sem]
    | j + 1, hv => simp at hv))
  rw [h]
  have e : (48 + (d : Int)).toNat = 48 + d := by omega
  simp only [List.foldl_cons, List.foldl_nil, e]
  rfl
set_option maxRecDepth 100000 in
theorem run_addStr (w : World) (x y : List UInt8) (hx : x.length ≤ 1000000000000) (hy : y.length ≤ 1000000000000) : (Op.stringOp .add ⟨x.toArray⟩ ⟨y.toArray⟩).run Tryd.prog w = .ok (strV (x ++ y)) w := by
  rw [run_string_add_sum w _ _ (by simp [ByteArray.size]; omega)]
  congr 2
set_option maxRecDepth 100000 in
set_option maxHeartbeats 1000000 in
theorem l14Num_pos (n : Nat) (w : World) (h0 : 0 < n) (h1 : n < 100000000) :
    Calls Tryd.prog 21 #[.int .i64 n] w fun e w' => e = .returned (strV (digs n)) ∧ Keeps w w' := by
  have hd0 : decide ((n : Int) < 0) = false := by simp
  have he0 : ((n : Int) == 0) = false := by simp; omega
  have HL : Hid ((digs n).length ≤ 8) := digs_length 8 n (by omega)
  go_enter Tryd.func21, Tryd.ntmps21
  go_wp2
  go_loopw [0, 3] (fun c o wr => ∃ (m : Nat) (l : List UInt8), m ≤ n ∧ l.length ≤ 8 ∧ c = .int .i64 m ∧ o = strV l ∧ Hid (digs m ++ l = digs n) ∧ Keeps w wr) (fun c _ _ => (intOf c).toNat)
  case atStart => exact ⟨n, [], Nat.le_refl _, by simp, rfl, rfl, by show _ = _; simp, Keeps.refl _⟩
  case round =>
    obtain ⟨m, l, hm, hl, rfl, rfl, HE, hK⟩ := hrel
    by_cases hlt : 0 < m
    · have hlt' : (0 : Int) < (m : Int) := by omega
      have hq : (m : Int).tmod 10 = ((m % 10 : Nat) : Int) := by rw [Int.tmod_eq_emod_of_nonneg (by omega)]; omega
      have hv : (m : Int).tdiv 10 = ((m / 10 : Nat) : Int) := by rw [Int.tdiv_eq_ediv_of_nonneg (by omega)]; omega
      have HD := digs_pos hlt
      obtain ⟨d, Hd⟩ : ∃ d, Hid (m % 10 = d) := ⟨_, rfl⟩
      have hd : d < 10 := by rw [← Hd.out]; omega
      obtain ⟨p, Hp⟩ : ∃ p, Hid (m / 10 = p) := ⟨_, rfl⟩
      have hp : p < m := by rw [← Hp.out]; omega
      rw [Hd.out] at hq HD
      rw [Hp.out] at hv HD
      have HN : Hid (digs p ++ (dig d :: l) = digs n) := by
        show _ = _
        rw [← HE.out, HD, List.append_assoc]
        rfl
      have hnl : (dig d :: l).length ≤ 8 := by
        have h1 := HL.out
        rw [← HN.out, List.length_append] at h1
        omega
      have hc := run_oneByte wr d 5
      have ha : ∀ W : World, (Op.stringOp .add ⟨#[dig d]⟩ ⟨l.toArray⟩).run Tryd.prog W = .ok (strV (dig d :: l)) W := fun W => run_addStr W [dig d] l (by simp) (by omega)
      clear HD HE
      go_wp2
      exact ⟨⟨p, _, by omega, hnl, by go_num, rfl, HN, hK.alloc _⟩, by simp only [intOf]; omega⟩
    · have hlt' : decide ((0 : Int) < (m : Int)) = false := by simp; omega
      obtain rfl : m = 0 := by omega
      have HR : Hid (digs n = l) := by show _ = _; rw [← HE.out, digs_zero]; rfl
      go_wp2
      go_ret
      exact ⟨by rw [HR.out]; rfl, hK⟩
set_option maxRecDepth 100000 in
theorem l14Num_any (n : Int) (w : World) (h0 : -99999999 ≤ n) (h1 : n ≤ 99999999) :
    Calls Tryd.prog 21 #[.int .i64 n] w fun e w' => e = .returned (strV (numL n)) ∧ Keeps w w' := by
  rcases Int.lt_trichotomy n 0 with h | rfl | h
  · have hd : decide (n < 0) = true := by simpa using h
    obtain ⟨m, rfl⟩ : ∃ m : Nat, n = -(m : Int) := ⟨n.natAbs, by omega⟩
    have hm : (0 : Int) - -(m : Int) = (m : Int) := by omega
    have c1 := l14Num_pos m w (by omega) (by omega)
    have HE : Hid (numL (-(m : Int)) = 45 :: digs m) := by
      show _ = _
      rw [numL_neg h, Int.natAbs_neg]
      rfl
    have hl := digs_length 8 m (by omega)
    have ha : ∀ W : World, (Op.stringOp .add ⟨#[45]⟩ ⟨(digs m).toArray⟩).run Tryd.prog W = .ok (strV (45 :: digs m)) W := fun W => run_addStr W [45] (digs m) (by simp) (by omega)
    go_enter Tryd.func21, Tryd.ntmps21
    go_wp2_with (go_at_call 21; refine c1.mono ?_; rintro e w1 ⟨rfl, k1⟩)
    go_ret
    exact ⟨by rw [HE.out]; rfl, k1⟩
  · go_enter Tryd.func21, Tryd.ntmps21
    go_wp2
    go_ret
    exact ⟨rfl, Keeps.refl _⟩
  · obtain ⟨m, rfl⟩ : ∃ m : Nat, n = (m : Int) := ⟨n.toNat, by omega⟩
    rw [numL_pos (by omega)]
    exact l14Num_pos m w (by omega) (by omega)
end Go.Proofs.YtpikopdfkhagmaaDoor
