/-
  The program's CallParse, part by part: a line cut at its blanks, numbers that are read, the place of a word.
-/
import Derived.Test.YtpikopdfkhagmaaDoorImplParseP
import Derived.Test.YtpikopdfkhagmaaDoorImplCallLine
import Derived.Lib.OthersKept
namespace Go.Proofs.YtpikopdfkhagmaaDoor
open Go.RowKit
attribute [local go_sem] Keeps.refl Keeps.alloc Keeps.drew Keeps.drewN

theorem own_iterAt {α : Type} {e : TypeId} {sz : Nat} {c : α → Array Value} {w : World} {base : Nat} {v : Value} {xs : List α} (h : Own e sz c w base v xs) {k : Nat} {s : ByteArray} {pos : Nat} (hit : w.heap[k]? = some (.stringIter s pos)) (p : Nat) : Own e sz c (w.iterAt k s p) base v xs := by
  obtain ⟨h1, h2⟩ := h
  refine ⟨h1, ?_⟩
  rcases h2 with h2 | ⟨b, cap, cur, hv, hb, hh, r⟩
  · exact .inl h2
  · refine .inr ⟨b, cap, cur, hv, hb, ?_, r⟩
    rw [Lib.iterAt_other w k b s p (fun e => by rw [e, hit] at hh; cases hh)]
    exact hh
theorem own_notIter {α : Type} {e : TypeId} {sz : Nat} {c : α → Array Value} {w : World} {base : Nat} {v : Value} {xs : List α} (h : Own e sz c w base v xs) {k : Nat} {s : ByteArray} {pos : Nat} (hit : w.heap[k]? = some (.stringIter s pos)) : some k ≠ v.ownBlock := by
  intro e2
  rcases h.2 with ⟨rfl, _⟩ | ⟨b, cap, cur, rfl, _, hh, _⟩
  · simp [Value.ownBlock] at e2
  · simp only [Value.ownBlock, Option.some.injEq] at e2
    subst e2
    rw [hit] at hh
    cases hh
set_option maxRecDepth 100000 in
set_option maxHeartbeats 4000000 in
theorem implCutAt_any (l : List UInt8) (w : World) (hl : l.length ≤ 1048576) :
    Calls Tryd.prog 43 #[strV l, .int .i32 32] w fun e w' => ∃ v, e = .returned v ∧ Own 9 1 sc w' w.heap.size v (wordsF l) ∧ Keeps w w' := by
  generalize hn : l.length = n at hl
  have Hn : Hid (l.length = n) := hn
  have hsz : (⟨l.toArray⟩ : ByteArray).size = n := by simpa [ByteArray.size] using hn
  clear hn
  have kW : Keeps w (w.alloc (.stringIter ⟨l.toArray⟩ 0)) := (Keeps.refl _).alloc _
  have O0 : Hid (Own 9 1 sc (w.alloc (.stringIter ⟨l.toArray⟩ 0)) w.heap.size (.slice .none 0 0) []) := Own.none _ _ _ _ _
  go_enter Tryd.func43, Tryd.ntmps43
  go_wp2
  go_loopw [5, 6] (fun o f wr => ∃ (k p : Nat) (xs : List (List UInt8)), k ≤ n ∧ p ≤ k ∧ xs.length ≤ k ∧ f = .int .i64 p ∧ Hid (wordsF l = xs ++ splitF (curF l p k) (l.drop k)) ∧ Hid (Own 9 1 sc wr w.heap.size o xs) ∧ wr.heap[w.heap.size]? = some (.stringIter ⟨l.toArray⟩ k) ∧ Keeps w wr) (fun _ _ wr => n - wr.iterPos w.heap.size)
  case atStart =>
    refine ⟨0, 0, [], by omega, by omega, by simp, rfl, ?_, ?_, ?_, ?_⟩
    · show wordsF l = [] ++ splitF (curF l 0 0) (l.drop 0)
      rw [curF_new]
      rfl
    · exact O0
    · have := World.iter_heap w ⟨l.toArray⟩ 0
      simpa using this
    · exact kW
  case round =>
    obtain ⟨k, p, xs, hk, hp, hxl, rfl, HW, O, hit, hK⟩ := hrel
    clear O0 kW
    have hbl : w.heap.size < wr.heap.size := (Array.getElem?_eq_some_iff.1 hit).1
    by_cases hlt : k < n
    · have hks : k < (⟨l.toArray⟩ : ByteArray).size := by rw [hsz]; exact hlt
      have hnx : ∀ ty, (Instr.next (.pointer (some ⟨w.heap.size, 0, none⟩)) true ty).run Tryd.prog wr = _ := fun ty => Lib.run_next_any_at wr w.heap.size ⟨l.toArray⟩ k ty hit hks
      have hsk := fun h => rune_skip (l := l) (p := p) hp (by rw [Hn.out]; exact hlt) h
      have hbk := fun h => rune_blank (l := l) (k := k) (by rw [Hn.out]; exact hlt) h
      have hpm : (wr.iterPos w.heap.size) = k := by unfold World.iterPos; rw [hit]
      generalize Utf8.decode ⟨l.toArray⟩ k = d at hnx hsk hbk
      obtain ⟨r, m⟩ := d
      simp only at hnx hsk hbk
      have O2 : Hid (Own 9 1 sc (wr.iterAt w.heap.size ⟨l.toArray⟩ (k + m)) w.heap.size u5 xs) := own_iterAt O.out hit _
      have K2 : Keeps w (wr.iterAt w.heap.size ⟨l.toArray⟩ (k + m)) := Lib.below_iterAt hK (Nat.le_refl _) _ _
      have hit2 := Lib.iterAt_heap wr w.heap.size ⟨l.toArray⟩ k (k + m) hit
      have hbl2 : w.heap.size < (wr.iterAt w.heap.size ⟨l.toArray⟩ (k + m)).heap.size := by rw [Lib.iterAt_size]; exact hbl
      generalize wr.iterAt w.heap.size ⟨l.toArray⟩ (k + m) = X at *
      by_cases h32 : r = 32
      · obtain ⟨rfl, hb⟩ := hbk h32
        have hr : ((r : Int) == 32) = true := by simp; omega
        have HN : Hid (wordsF l = (xs ++ [curF l p k]) ++ splitF (curF l (k + 1) (k + 1)) (l.drop (k + 1))) := by
          show _ = _
          rw [curF_new, HW.out, split_go _ hb, if_pos (by rfl)]
          simp
        have hsub := str_extract l p k
        have Hc : Hid ((l.drop p).take (k - p) = curF l p k) := rfl
        rw [Hc.out] at hsub
        generalize curF l p k = cu at *
        clear HW hsk hbk hb
        go_wp2_with (at_builtin; (refine wpList_push rfl _ _ 45 rfl w 9 (.string ⟨#[]⟩) 1 16 sc Tryd.underlying45 (by kernel_rfl) rfl (by decide) sc_size sc_one _ xs rfl X O2.out K2 ((Keeps.refl _).alloc _) cu _ 1 (Blk.new _ _ _) rfl ?c1 ?c2 ?_))
        case c1 => unfold maxLen; omega
        case c2 => omega
        intro v' w5 own5 k5 f5
        have HO : Hid (Own 9 1 sc w5 w.heap.size v' (xs ++ [cu])) := own5
        have hit5 : w5.heap[w.heap.size]? = some (.stringIter ⟨l.toArray⟩ (k + 1)) := by rw [f5 _ hbl2 (own_notIter O2.out hit2)]; exact hit2
        clear own5 O f5
        go_wp2
        exact ⟨⟨k + 1, k + 1, xs ++ [cu], by omega, by omega, by simp; omega, by go_num, HN, HO, hit5, k5⟩, by simp only [World.iterPos, hit5, hit]; omega⟩
      · have hr : ((r : Int) == 32) = false := by simp; omega
        obtain ⟨h1, h2, h3⟩ := hsk h32
        have HN : Hid (wordsF l = xs ++ splitF (curF l p (k + m)) (l.drop (k + m))) := by
          show _ = _
          rw [HW.out, h3]
        rw [Hn.out] at h1
        clear HW hsk hbk h3
        go_wp2
        exact ⟨⟨k + m, p, xs, by omega, by omega, by omega, rfl, HN, O2, hit2, K2⟩, by simp only [World.iterPos, hit2, hit]; omega⟩
    · obtain rfl : k = n := by omega
      have hnx : ∀ ty, (Instr.next (.pointer (some ⟨w.heap.size, 0, none⟩)) true ty).run Tryd.prog wr = _ := fun ty => Lib.run_next_end_at wr w.heap.size ⟨l.toArray⟩ k ty hit (by rw [hsz]; omega)
      have HD : Hid (wordsF l = xs ++ [curF l p k]) := by
        show _ = _
        rw [HW.out, List.drop_eq_nil_of_le (by rw [Hn.out]; omega)]
        rfl
      have hsub := str_extract l p k
      have Hc : Hid ((l.drop p).take (k - p) = curF l p k) := rfl
      rw [Hc.out] at hsub
      generalize curF l p k = cu at *
      clear HW
      go_wp2_with (at_builtin; (refine wpList_push rfl _ _ 45 rfl w 9 (.string ⟨#[]⟩) 1 16 sc Tryd.underlying45 (by kernel_rfl) rfl (by decide) sc_size sc_one _ xs rfl wr O.out hK ((Keeps.refl _).alloc _) cu _ 1 (Blk.new _ _ _) rfl ?c1 ?c2 ?_))
      case c1 => unfold maxLen; omega
      case c2 => omega
      intro v' w5 own5 k5 _
      have HO : Hid (Own 9 1 sc w5 w.heap.size v' (xs ++ [cu])) := own5
      clear own5 O
      go_wp2
      go_ret
      exact ⟨_, rfl, by rw [HD.out]; exact HO.out, k5⟩
/-- What is told of a text that is read as a number. -/
def NumSays (s : List UInt8) (e : Ending) : Prop := (∃ v, numO s = some v ∧ e = .returned (.int .i64 v)) ∨ (numO s = none ∧ Fell e)
theorem numGo_cons {s : List UInt8} {k : Nat} {b : UInt8} (f : Bool) (acc sg : Int) (h : s[k]? = some b) : numGo f acc sg (s.drop k) = if f && b == 45 then numGo false acc (-1) (s.drop (k + 1)) else if digB b then numGo false (numStep acc b) sg (s.drop (k + 1)) else none := by
  have hk : k < s.length := by
    rcases Nat.lt_or_ge k s.length with h1 | h1
    · exact h1
    · simp [List.getElem?_eq_none h1] at h
  have e : s.drop k = b :: s.drop (k + 1) := by
    rw [List.drop_eq_getElem_cons hk]
    rw [List.getElem?_eq_getElem hk] at h
    rw [Option.some.inj h]
  rw [e, numGo]
set_option maxRecDepth 100000 in
set_option maxHeartbeats 4000000 in
theorem implNumberIn_any (s : List UInt8) (w : World) (hg : GlobL w) (hl : s.length ≤ 1048576) :
    Calls Tryd.prog 45 #[strV s] w fun e w' => NumSays s e ∧ Keeps w w' := by
  generalize hn : s.length = n at hl
  have Hn : Hid (s.length = n) := hn
  have hsz : (⟨s.toArray⟩ : ByteArray).size = n := by simpa [ByteArray.size] using hn
  clear hn
  obtain ⟨tp, pa, hg⟩ := hg
  have HG : Hid (w.cell? ⟨0, 0, none⟩ = some (.iface tp (.pointer (some pa)))) := hg
  clear hg
  have kW : Keeps w (w.alloc (.stringIter ⟨s.toArray⟩ 0)) := (Keeps.refl _).alloc _
  go_enter Tryd.func45, Tryd.ntmps45
  go_wp2
  go_loopw [3, 4] (fun a g wr => ∃ (k : Nat) (acc sg : Int), k ≤ n ∧ a = .int .i64 acc ∧ g = .int .i64 sg ∧ Hid (numO s = numGo (k == 0) acc sg (s.drop k)) ∧ wr.heap[w.heap.size]? = some (.stringIter ⟨s.toArray⟩ k) ∧ Keeps w wr) (fun _ _ wr => n - wr.iterPos w.heap.size)
  case atStart =>
    refine ⟨0, 0, 1, by omega, rfl, rfl, rfl, ?_, ?_⟩
    · have := World.iter_heap w ⟨s.toArray⟩ 0
      simpa using this
    · exact kW
  case round =>
    obtain ⟨k, acc, sg, hk, rfl, rfl, HW, hit, hK⟩ := hrel
    clear kW
    have hbl : w.heap.size < wr.heap.size := (Array.getElem?_eq_some_iff.1 hit).1
    by_cases hlt : k < n
    · have hks : k < (⟨s.toArray⟩ : ByteArray).size := by rw [hsz]; exact hlt
      have hnx : ∀ ty, (Instr.next (.pointer (some ⟨w.heap.size, 0, none⟩)) true ty).run Tryd.prog wr = _ := fun ty => Lib.run_next_any_at wr w.heap.size ⟨s.toArray⟩ k ty hit hks
      obtain ⟨b, hb⟩ := some_in (xs := s) (k := k) (by rw [Hn.out]; exact hlt)
      have hbb : ((⟨s.toArray⟩ : ByteArray)[k]'hks) = b := by
        rw [List.getElem?_eq_getElem (by rw [Hn.out]; exact hlt)] at hb
        exact Option.some.inj hb
      have hlo : b.toNat < 128 → Utf8.decode ⟨s.toArray⟩ k = (b.toNat, 1) := fun h => by rw [decode_ascii _ k hks (by rw [hbb]; exact h), hbb]
      have hhi : 128 ≤ b.toNat → 128 ≤ (Utf8.decode ⟨s.toArray⟩ k).1 := fun h => (decode_high _ k hks (by rw [hbb]; exact h)).1
      have hst := numGo_cons (k == 0) acc sg hb
      have K2 := fun p => Lib.below_iterAt (B := w.heap.size) hK (Nat.le_refl _) ⟨s.toArray⟩ p
      have hit2 := fun p => Lib.iterAt_heap wr w.heap.size ⟨s.toArray⟩ k p hit
      generalize Utf8.decode ⟨s.toArray⟩ k = d at hnx hlo hhi
      obtain ⟨r, m⟩ := d
      simp only at hnx hlo hhi
      replace K2 : Keeps w (wr.iterAt w.heap.size ⟨s.toArray⟩ (k + m)) := K2 _
      replace hit2 := hit2 (k + m)
      have hg2 : (wr.iterAt w.heap.size ⟨s.toArray⟩ (k + m)).cell? ⟨0, 0, none⟩ = some (.iface tp (.pointer (some pa))) := Keeps.has HG.out _ K2
      generalize wr.iterAt w.heap.size ⟨s.toArray⟩ (k + m) = X at *
      clear hbb hb
      by_cases hd : digB b = true
      · have hb2 := digB_parts hd
        obtain ⟨e1, e2⟩ := Prod.mk.inj (hlo (by omega))
        subst e1 e2
        have h45 : (b == 45) = false := by
          rw [beq_eq_false_iff_ne]
          intro e
          rw [e] at hb2
          exact absurd hb2.1 (by decide)
        rw [h45, Bool.and_false, if_neg (by simp), if_pos hd] at hst
        obtain ⟨q, hq⟩ : ∃ q : Nat, b.toNat = 48 + q := ⟨b.toNat - 48, by omega⟩
        have HN : Hid (numO s = numGo (k + 1 == 0) (wrap64 (wrap64 (acc * 10) + (q : Int))) sg (s.drop (k + 1))) := by
          show _ = _
          rw [HW.out, hst]
          unfold numStep
          rw [hq, show ((48 + q : Nat) : Int) - 48 = (q : Int) from by omega]
          rfl
        have hr1 : ((b.toNat : Int) == 45) = false := by simp; omega
        have hr2 : decide ((48 : Int) ≤ (b.toNat : Int)) = true := by simp; omega
        have hr3 : decide ((b.toNat : Int) ≤ 57) = true := by simp; omega
        have hr4 : (b.toNat : Int) - 48 = (q : Int) := by omega
        have hq9 : q ≤ 9 := by omega
        clear hst HW hlo hhi
        go_wp2
        refine ⟨⟨k + 1, _, sg, by omega, rfl, rfl, ?_, hit2, K2⟩, by simp only [World.iterPos, hit2, hit]; omega⟩
        rw [show (48 : Int) + (q : Int) - 48 = (q : Int) from by omega]
        exact HN
      rw [Bool.not_eq_true] at hd
      by_cases h45 : b = 45 ∧ k = 0
      · obtain ⟨rfl, rfl⟩ := h45
        obtain ⟨e1, e2⟩ := Prod.mk.inj (hlo (by decide))
        subst e1 e2
        have HN : Hid (numO s = numGo (0 + 1 == 0) acc (-1) (s.drop (0 + 1))) := by
          show _ = _
          rw [HW.out, hst]
          rfl
        have hr1 : (((45 : UInt8).toNat : Int) == 45) = true := by decide
        clear hst HW hlo hhi
        go_wp2
        exact ⟨⟨1, acc, -1, by omega, rfl, rfl, HN, hit2, K2⟩, by simp only [World.iterPos, hit2, hit]; omega⟩
      have HR : Hid (numO s = none) := by
        show _ = _
        rw [HW.out, hst, if_neg, if_neg (by rw [hd]; simp)]
        simp only [Bool.and_eq_true, beq_iff_eq]
        exact fun h => h45 ⟨h.2, h.1⟩
      have hno : ¬ (r = 45 ∧ k = 0) := fun h => by
        by_cases h8 : b.toNat < 128
        · obtain ⟨e1, e2⟩ := Prod.mk.inj (hlo h8)
          exact h45 ⟨UInt8.toNat_inj.1 (by rw [← e1, h.1]; rfl), h.2⟩
        · have := hhi (by omega)
          omega
      have hno2 : ¬ (48 ≤ r ∧ r ≤ 57) := fun h => by
        by_cases h8 : b.toNat < 128
        · obtain ⟨e1, e2⟩ := Prod.mk.inj (hlo h8)
          unfold digB at hd
          simp at hd
          omega
        · have := hhi (by omega)
          omega
      clear hst HW hlo hhi h45 hd
      by_cases x1 : r = 45
      · subst x1
        have hk0 : ((k : Int) == 0) = false := by
          have : k ≠ 0 := fun h => hno ⟨rfl, h⟩
          simp
          omega
        clear hno hno2
        go_wp2
        exact ⟨rfl, .inr ⟨HR.out, tp, pa, rfl⟩, K2⟩
      · have hr1 : ((r : Int) == 45) = false := by simp; omega
        by_cases x2 : 48 ≤ r
        · have hr2 : decide ((48 : Int) ≤ (r : Int)) = true := by simp; omega
          have hr3 : decide ((r : Int) ≤ 57) = false := by simp; omega
          clear hno hno2
          go_wp2
          exact ⟨rfl, .inr ⟨HR.out, tp, pa, rfl⟩, K2⟩
        · have hr2 : decide ((48 : Int) ≤ (r : Int)) = false := by simp; omega
          clear hno hno2
          go_wp2
          exact ⟨rfl, .inr ⟨HR.out, tp, pa, rfl⟩, K2⟩
    · obtain rfl : k = n := by omega
      have hnx : ∀ ty, (Instr.next (.pointer (some ⟨w.heap.size, 0, none⟩)) true ty).run Tryd.prog wr = _ := fun ty => Lib.run_next_end_at wr w.heap.size ⟨s.toArray⟩ k ty hit (by rw [hsz]; omega)
      have HD : Hid (numO s = some (wrap64 (sg * acc))) := by
        show _ = _
        rw [HW.out, List.drop_eq_nil_of_le (by rw [Hn.out]; omega)]
        rfl
      clear HW
      go_wp2
      go_ret
      exact ⟨.inl ⟨_, HD.out, rfl⟩, hK⟩
end Go.Proofs.YtpikopdfkhagmaaDoor
