/-
  The model's l14Words: the words of a line.
-/
import Derived.Test.YtpikopdfkhagmaaDoorDeskParseP
import Derived.Test.YtpikopdfkhagmaaDoorDeskStr
import Derived.Test.YtpikopdfkhagmaaDoorOwn
import Derived.Test.YtpikopdfkhagmaaDoorInts
namespace Go.Proofs.YtpikopdfkhagmaaDoor
open Go.RowKit
attribute [local go_sem] Keeps.refl Keeps.alloc Keeps.drew Keeps.drewN

/-- A row of texts. -/
abbrev sc (s : List UInt8) : Array Value := #[strV s]
theorem sc_size (s : List UInt8) : (sc s).size = 1 := rfl
theorem sc_one (s : List UInt8) : ∀ u ∈ (sc s).toList, u.oneCell' = true := by
  intro u hu
  obtain rfl : u = strV s := by simpa using hu
  rfl
/-- The word that is under way. -/
def curF (l : List UInt8) (f k : Nat) : List UInt8 := (l.drop f).take (k - f)
theorem curF_step {l : List UInt8} {f k : Nat} {b : UInt8} (hf : f ≤ k) (h : l[k]? = some b) : curF l f (k + 1) = curF l f k ++ [b] := by
  unfold curF
  rw [show k + 1 - f = (k - f) + 1 from by omega, List.take_add_one, List.getElem?_drop, show f + (k - f) = k from by omega, h]
  rfl
theorem curF_new (l : List UInt8) (k : Nat) : curF l k k = [] := by unfold curF; simp
theorem split_go {l : List UInt8} {k : Nat} {b : UInt8} (cur : List UInt8) (h : l[k]? = some b) : splitF cur (l.drop k) = if b == 32 then cur :: splitF [] (l.drop (k + 1)) else splitF (cur ++ [b]) (l.drop (k + 1)) := by
  have hk : k < l.length := by
    rcases Nat.lt_or_ge k l.length with h1 | h1
    · exact h1
    · simp [List.getElem?_eq_none h1] at h
  have e : l.drop k = b :: l.drop (k + 1) := by
    rw [List.drop_eq_getElem_cons hk]
    rw [List.getElem?_eq_getElem hk] at h
    rw [Option.some.inj h]
  rw [e, splitF]
set_option maxRecDepth 100000 in
set_option maxHeartbeats 2000000 in
theorem l14Words_any (l : List UInt8) (w : World) (hl : l.length ≤ 1048576) :
    Calls Tryd.prog 26 #[strV l] w fun e w' => ∃ u, e = .returned u ∧ Own 9 1 sc w' w.heap.size u (wordsF l) ∧ Keeps w w' := by
  generalize hn : l.length = n at hl
  have Hn : Hid (l.length = n) := hn
  have hsz : (⟨l.toArray⟩ : ByteArray).size = n := by simpa [ByteArray.size] using hn
  clear hn
  have O0 : Hid (Own 9 1 sc (w.alloc (.cells #[] 9)) w.heap.size (.slice (some ⟨w.heap.size, 0, none⟩) 0 0) []) := Own.new 9 1 sc _ (Nat.le_refl _)
  go_enter Tryd.func26, Tryd.ntmps26
  go_wp2
  go_loopw [3, 4, 5] (fun o f i wr => ∃ (k p : Nat) (xs : List (List UInt8)), k ≤ n + 1 ∧ p ≤ k ∧ xs.length ≤ k ∧ i = .int .i64 k ∧ f = .int .i64 p ∧ Hid (k ≤ n → wordsF l = xs ++ splitF (curF l p k) (l.drop k)) ∧ Hid (k = n + 1 → wordsF l = xs) ∧ Hid (Own 9 1 sc wr w.heap.size o xs) ∧ Keeps w wr) (fun _ _ i _ => n + 1 - (intOf i).toNat)
  case atStart => exact ⟨0, 0, [], by omega, by omega, by simp, rfl, rfl, fun _ => by show wordsF l = [] ++ splitF (curF l 0 0) (l.drop 0); rw [curF_new]; rfl, fun h => by omega, O0, (Keeps.refl _).alloc _⟩
  case round =>
    obtain ⟨k, p, xs, hk, hp, hxl, rfl, rfl, HI, HL, O, hK⟩ := hrel
    clear O0
    by_cases hlt : k ≤ n
    · have hlt' : decide ((k : Int) ≤ (n : Int)) = true := by simp; omega
      have HW := HI.out hlt
      by_cases he : k = n
      · subst he
        have hee : ((k : Int) == (k : Int)) = true := by simp
        have HD : Hid (wordsF l = xs ++ [curF l p k]) := by
          show _ = _
          rw [HW, List.drop_eq_nil_of_le (by rw [Hn.out]; omega)]
          rfl
        have hsub := str_extract l p k
        have Hc : Hid ((l.drop p).take (k - p) = curF l p k) := rfl
        rw [Hc.out] at hsub
        generalize curF l p k = cu at *
        clear HW HI HL
        go_wp2_with (at_builtin; (refine wpList_push rfl _ _ 45 rfl w 9 (.string ⟨#[]⟩) 1 16 sc Tryd.underlying45 (by kernel_rfl) rfl (by decide) sc_size sc_one _ xs rfl wr O.out hK ((Keeps.refl _).alloc _) cu _ 1 (Blk.new _ _ _) rfl ?c1 ?c2 ?_))
        case c1 => unfold maxLen; omega
        case c2 => omega
        intro v' w5 own5 k5 _
        have HO : Hid (Own 9 1 sc w5 w.heap.size v' (xs ++ [cu])) := own5
        clear own5 O
        go_wp2
        exact ⟨⟨k + 1, k + 1, xs ++ [cu], by omega, by omega, by simp; omega, by go_num, by go_num, fun h => by omega, fun _ => HD.out, HO, k5⟩, by simp only [intOf]; omega⟩
      · have hee : ((k : Int) == (n : Int)) = false := by simp; omega
        obtain ⟨b, hb⟩ := some_in (xs := l) (k := k) (by rw [Hn.out]; omega)
        have hix := run_strIdx hb
        rw [split_go _ hb] at HW
        cases c1 : (b == 32)
        · rw [c1, if_neg (by simp), ← curF_step hp hb] at HW
          have hc1 : ((b.toNat : Int) == 32) = false := by
            rw [beq_eq_false_iff_ne] at c1 ⊢
            intro e
            apply c1
            apply UInt8.toNat_inj.1
            show b.toNat = 32
            omega
          have HN : Hid (k + 1 ≤ n → wordsF l = xs ++ splitF (curF l p (k + 1)) (l.drop (k + 1))) := fun _ => HW
          clear HW HI HL hb
          go_wp2
          exact ⟨⟨k + 1, p, xs, by omega, by omega, by omega, by go_num, rfl, HN, fun h => by omega, O, hK⟩, by simp only [intOf]; omega⟩
        · rw [c1, if_pos rfl] at HW
          have hc1 : ((b.toNat : Int) == 32) = true := by
            rw [beq_iff_eq] at c1 ⊢
            rw [c1]
            rfl
          have HN : Hid (k + 1 ≤ n → wordsF l = (xs ++ [curF l p k]) ++ splitF (curF l (k + 1) (k + 1)) (l.drop (k + 1))) := fun _ => by
            rw [curF_new, HW]
            simp
          have hsub := str_extract l p k
          have Hc : Hid ((l.drop p).take (k - p) = curF l p k) := rfl
          rw [Hc.out] at hsub
          generalize curF l p k = cu at *
          clear HW HI HL hb
          go_wp2_with (at_builtin; (refine wpList_push rfl _ _ 45 rfl w 9 (.string ⟨#[]⟩) 1 16 sc Tryd.underlying45 (by kernel_rfl) rfl (by decide) sc_size sc_one _ xs rfl wr O.out hK ((Keeps.refl _).alloc _) cu _ 1 (Blk.new _ _ _) rfl ?c1 ?c2 ?_))
          case c1 => unfold maxLen; omega
          case c2 => omega
          intro v' w5 own5 k5 _
          have HO : Hid (Own 9 1 sc w5 w.heap.size v' (xs ++ [cu])) := own5
          clear own5 O
          go_wp2
          exact ⟨⟨k + 1, k + 1, xs ++ [cu], by omega, by omega, by simp; omega, by go_num, by go_num, HN, fun h => by omega, HO, k5⟩, by simp only [intOf]; omega⟩
    · have hlt' : decide ((k : Int) ≤ (n : Int)) = false := by simp; omega
      have HP : Hid (wordsF l = xs) := HL.out (by omega)
      clear HI HL
      go_wp2
      go_ret
      exact ⟨_, rfl, by rw [HP.out]; exact O.out, hK⟩
end Go.Proofs.YtpikopdfkhagmaaDoor
