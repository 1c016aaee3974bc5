/-
  Drawn tasks: the contracts of the model's l3DrawList and DrawTaskPut.
-/
import Derived.Test.YtdndgacaohmdnaaDrawTask2
import Derived.Test.YtdndgacaohmdnaaGrow
import Derived.Test.YtdndgacaohmdnaaTaskPut
import Derived.Test.YtdndgacaohmdnaaPutC
namespace Go.Proofs.Ytdndgacaohmdnaa
open Go.RowKit

theorem Blk.but' {g : Nat} {w w' : World} {b : Nat} {C : Array Value} (h : Blk w b C) (k : KeepsBut g w w') (hg : b ≠ g) : Blk w' b C := h.but k hg
theorem Own.setFar {α : Type} {e : TypeId} {sz : Nat} {c : α → Array Value} {w : World} {base : Nat} {v : Value} {xs : List α} (h : Own e sz c w base v xs) {b : Nat} (hb : b < base) (o : Nat) (u : Value) : Own e sz c (w.setCell ⟨b, o, none⟩ u) base v xs :=
  h.butG ((KeepsBut.refl b w).setCell o u) hb
theorem Own.putFar {α : Type} {e : TypeId} {sz : Nat} {c : α → Array Value} {base : Nat} {v : Value} {xs : List α} {b : Nat} (hb : b < base) : ∀ (L : List Value) {w : World} (k : Nat), Own e sz c w base v xs → Own e sz c (putC w b k L) base v xs
  | [], _, _, h => h
  | u :: r, _, k, h => Own.putFar hb r (k + 1) (h.setFar hb k u)
theorem ins_pos (t : Tsk) (ts : List Tsk) : 0 < (ins t ts).length := by rw [ins_length]; omega

/-- A drawn list: a row of its own, with an address. -/
structure DL (w wr : World) (g : Nat) (v : Value) (xs : List Tsk) : Prop where
  own : OwnT wr w.heap.size v xs
  adr : ∃ b cp, v = .slice (some ⟨b, 0, none⟩) xs.length cp
  cur : Cur wr g
  kb : KeepsBut g w wr
theorem DL.but {w wr wr' : World} {g : Nat} {v : Value} {xs : List Tsk} (h : DL w wr g v xs) (hg : g < w.heap.size) (k : KeepsBut g wr wr') (hc : Cur wr' g) : DL w wr' g v xs :=
  ⟨h.own.butG k hg, h.adr, hc, h.kb.trans k⟩
theorem DL.keeps {w wr wr' : World} {g : Nat} {v : Value} {xs : List Tsk} (h : DL w wr g v xs) (hg : g < w.heap.size) (k : Keeps wr wr') : DL w wr' g v xs := h.but hg (.of k) (h.cur.keeps k)

set_option maxRecDepth 100000 in
set_option maxHeartbeats 8000000 in
theorem l3DrawList_any (g : Nat) (w : World) (hc : Cur w g) :
    Calls Try.prog 81 #[.pointer (some ⟨g, 0, none⟩)] w fun e w' => ∃ (v : Value) (xs : List Tsk), e = .returned v ∧ DL w w' g v xs ∧ xs.length ≤ 13 := by
  have hgl := hc.lt
  go_enter Try.func81, Try.ntmps81
  go_wp2_with fail
  have D0 : DL w (w.alloc (.cells #[] 25)) g (.slice (some ⟨w.heap.size, 0, none⟩) 0 0) [] :=
    ⟨Own.new 25 14 tc w (Nat.le_refl _), ⟨_, _, rfl⟩, hc.keeps ((Keeps.refl w).alloc _), (KeepsBut.refl g w).alloc _⟩
  clear hc
  generalize w.alloc (.cells #[] 25) = W at *
  generalize hv0 : Value.slice (some ⟨w.heap.size, 0, none⟩) 0 0 = v0 at *
  clear hv0
  refine (l1Below_any g _ _ D0.cur (by omega) (by omega)).mono ?_
  rintro e w1 ⟨m, rfl, hm0, hm1, hc1, k1⟩
  have D := D0.but hgl k1 hc1
  clear D0 k1 hc1
  go_wp2_with fail
  refine (l1Once_any g _ _ D.cur (by omega) (by omega)).mono ?_
  rintro e w2 ⟨b, rfl, hc2, k2⟩
  have D := D.but hgl k2 hc2
  clear k2 hc2
  go_upto_if 12 with fail
  go_cut [4] (fun c wx => ∃ n : Nat, n ≤ 30 ∧ c = .int .i64 n ∧ wx = w2)
  case first =>
    cases b
    · go_wp2_with fail
      go_meet
      exact ⟨m.toNat, by omega, by rw [Int.toNat_of_nonneg hm0], rfl⟩
    · go_wp2_with fail
      go_meet
      exact ⟨30, by omega, rfl, rfl⟩
  case rest =>
  obtain ⟨n, hn, rfl, rfl⟩ := hcut
  go_wp2
  go_loopw [3, 5] (fun v i wr => ∃ (k : Nat) (xs : List Tsk), k ≤ n ∧ i = .int .i64 k ∧ DL w wr g v xs ∧ xs.length ≤ 12) (fun _ i _ => n - (intOf i).toNat)
  case atStart => exact ⟨0, [], Nat.zero_le _, rfl, D, by simp⟩
  case round =>
    obtain ⟨k, xs, hk, rfl, D, hx12⟩ := hrel
    by_cases hlt : k < n
    · have hlt' : (k : Int) < (n : Int) := by omega
      obtain ⟨bv, cp, rfl⟩ := D.adr
      go_wp2_with fail
      refine (l3DrawRight_any g _ D.cur).mono ?_
      rintro e w3 ⟨t, rfl, hc3, k3⟩
      have D := D.but hgl k3 hc3
      clear k3 hc3
      have hl : Lies 14 tc w3 (some ⟨bv, 0, none⟩) xs := by
        obtain ⟨a, c, e, l, -, -⟩ := D.own.slice tc_size
        simp only [Value.slice.injEq] at e
        obtain ⟨rfl, -, -⟩ := e
        exact l
      go_wp2_with fail
      refine (specTaskPut_any bv 0 cp xs t w3 (by unfold maxLen; omega) hl).mono ?_
      rintro e w4 ⟨v4, rfl, own4, k4⟩
      have D4 := D.keeps hgl k4
      have hsz := D.kb.size
      cases hb : putB xs t
      · have HD : Hid (DL w w4 g (.slice (some ⟨bv, 0, none⟩) xs.length cp) xs) := D4
        clear D D4 own4 k4 hl
        go_wp2
        exact ⟨⟨k + 1, xs, by omega, by go_num, HD.out, hx12⟩, by simp only [intOf]; omega⟩
      · have e : putL xs t = ins t xs := by
          simp only [putB, Bool.and_eq_true] at hb
          simp [putL, hb.1, hb.2]
        rw [e] at own4
        have hl12 : (ins t xs).length ≤ 12 := by
          simp only [putB, Bool.and_eq_true] at hb
          exact tasksB_len hb.2
        obtain ⟨b5, c5, rfl, -, -, -⟩ := own4.some tc_size (ins_pos t xs)
        have HD : Hid (DL w w4 g (.slice (some ⟨b5, 0, none⟩) (ins t xs).length c5) (ins t xs)) := ⟨own4.base hsz, ⟨_, _, rfl⟩, D4.cur, D4.kb⟩
        clear D D4 own4 k4 hl e
        go_wp2
        exact ⟨⟨k + 1, _, by omega, by go_num, HD.out, hl12⟩, by simp only [intOf]; omega⟩
    · go_wp2_with fail
      refine (l1Once_any g _ _ D.cur (by omega) (by omega)).mono ?_
      rintro e w5 ⟨b, rfl, hc5, k5⟩
      have D := D.but hgl k5 hc5
      clear k5 hc5
      cases b
      · have HD : Hid (DL w w5 g _ xs) := D
        clear D
        go_wp2
        go_ret
        exact ⟨_, xs, rfl, HD.out, by omega⟩
      · go_wp2_with fail
        refine (l3Draw_any g _ D.cur).mono ?_
        rintro e w6 ⟨t, rfl, hc6, k6⟩
        have D := D.but hgl k6 hc6
        clear k6 hc6
        have hsz := D.kb.size
        have D7 := D.keeps hgl ((Keeps.refl w6).alloc (.cells (tc t) 25))
        have own7 := D7.own
        have HD : Hid (DL w (w6.alloc (.cells (tc t) 25)) g _ xs) := D7
        clear D D7
        go_wp2_with (at_builtin; (refine wpList_pushG rfl _ _ 35 rfl w.heap.size 25 (tk Tsk.zero) 14 112 tc Try.underlying35 (by kernel_rfl) rfl (by decide) tc_size tc_one _ xs rfl own7 ?c0 t _ 1 (Blk.new _ _ _) rfl ?c1 ?c2 ?_))
        case c0 => simp; omega
        case c1 => unfold maxLen; omega
        case c2 => omega
        intro v8 w8 own8 gr8 hr8
        obtain ⟨b8, c8, e8, -, -, -⟩ := own8.some tc_size (by simp)
        have HD8 : Hid (DL w w8 g v8 (xs ++ [t])) := ⟨own8, ⟨_, _, e8⟩, HD.out.cur.grown gr8 (fun k hk => by have := hr8 k hk; omega), HD.out.kb.grown gr8 hr8⟩
        clear own7 own8 gr8 hr8 HD e8
        go_wp2
        go_ret
        exact ⟨_, _, rfl, HD8.out, by simp; omega⟩

end Go.Proofs.Ytdndgacaohmdnaa
