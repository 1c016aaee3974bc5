/-
  The call of a line, as a plain function: words, numbers that are read, the call that is made of them; a line is read as it was written.
  The model's l14Of: the call of a kind with its numbers.
-/
import Derived.Test.YtpikopdfkhagmaaGreatDoorDeskNum
import Derived.Test.YtpikopdfkhagmaaGreatDoorImplCall
namespace Go.Proofs.YtpikopdfkhagmaaGreatDoor
open Go.RowKit

/-- The words of a line: what stands between blanks. -/
def splitF : List UInt8 → List UInt8 → List (List UInt8)
  | cur, [] => [cur]
  | cur, b :: r => if b == 32 then cur :: splitF [] r else splitF (cur ++ [b]) r
def wordsF (l : List UInt8) : List (List UInt8) := splitF [] l
def digB (b : UInt8) : Bool := decide (48 ≤ b.toNat) && decide (b.toNat ≤ 57)
def valF (s : List UInt8) : Int := s.foldl (fun x b => 10 * x + (b.toNat : Int) - 48) 0
/-- The number of a text; false: it is none. -/
def belowB (s : List UInt8) : Bool := decide (1 < s.length) && s.head? == some 45
def restF (s : List UInt8) : List UInt8 := if belowB s then s.tail else s
def readB (s : List UInt8) : Bool := decide (0 < (restF s).length) && decide ((restF s).length ≤ 7) && (restF s).all digB
def readI (s : List UInt8) : Int := if readB s then (if belowB s then 0 - valF (restF s) else valF (restF s)) else 0
/-- The call of a kind with these numbers. -/
def ofF (k : Int) (n : List Int) : Cl :=
  if k == 11 then ⟨k, 0, 0, n.getD 0 0, 0⟩ else if k == 7 || k == 8 || k == 9 then ⟨k, n.getD 0 0, 0, n.getD 1 0, 0⟩ else if k == 10 then ⟨k, n.getD 0 0, n.getD 1 0, 0, 0⟩
  else if k == 1 || k == 2 then ⟨k, n.getD 0 0, n.getD 1 0, n.getD 2 0, n.getD 3 0⟩ else if k == 3 then ⟨k, n.getD 0 0, n.getD 1 0, n.getD 2 0, 0⟩ else ⟨k, n.getD 0 0, 0, 0, 0⟩
theorem digB_dig {d : Nat} (h : d < 10) : digB (dig d) = true ∧ ((dig d).toNat : Int) = 48 + d := by
  have e : (dig d).toNat = 48 + d := by
    show (48 + d) % 256 = 48 + d
    omega
  unfold digB
  rw [e]
  refine ⟨?_, by omega⟩
  simp
  omega
theorem digs_all : ∀ (f n : Nat), n ≤ f → (digs n).all digB = true
  | 0, n, h => by
    obtain rfl : n = 0 := by omega
    rfl
  | f + 1, n, h => by
    by_cases h0 : n = 0
    · subst h0; rfl
    · rw [digs_pos (by omega), List.all_append, digs_all f (n / 10) (by omega)]
      simp [(digB_dig (d := n % 10) (by omega)).1]
theorem digs_val : ∀ (f n : Nat), n ≤ f → valF (digs n) = n
  | 0, n, h => by
    obtain rfl : n = 0 := by omega
    rfl
  | f + 1, n, h => by
    by_cases h0 : n = 0
    · subst h0; rfl
    · rw [digs_pos (by omega)]
      unfold valF
      rw [List.foldl_append]
      have := digs_val f (n / 10) (by omega)
      unfold valF at this
      rw [this]
      simp only [List.foldl_cons, List.foldl_nil]
      rw [(digB_dig (d := n % 10) (by omega)).2]
      omega
theorem digs_some {n : Nat} (h : 0 < n) : 0 < (digs n).length := by
  rw [digs_pos h, List.length_append]
  simp
theorem all_head {s : List UInt8} (h : s.all digB = true) : belowB s = false := by
  cases s with
  | nil => rfl
  | cons b r =>
    have h1 : digB b = true := by
      simp only [List.all_cons, Bool.and_eq_true] at h
      exact h.1
    unfold digB at h1
    simp only [Bool.and_eq_true, decide_eq_true_eq] at h1
    have : (b == 45) = false := by
      cases e : (b == 45)
      · rfl
      · rw [beq_iff_eq] at e
        subst e
        exact absurd h1.1 (by decide)
    unfold belowB
    simp [this]
/-- A number that stands in a line is read as it was. -/
theorem read_digs {n : Nat} (h0 : 0 < n) (h1 : n ≤ 9999999) : readB (digs n) = true ∧ readI (digs n) = n := by
  have ha := digs_all n n (Nat.le_refl _)
  have hb := all_head ha
  have hl := digs_length 7 n (by omega)
  have hs := digs_some h0
  have hr : restF (digs n) = digs n := by unfold restF; rw [hb]; rfl
  have e : readB (digs n) = true := by unfold readB; rw [hr, ha]; simp; omega
  exact ⟨e, by unfold readI; rw [e, hb, hr]; exact digs_val n n (Nat.le_refl _)⟩
theorem read_num {x : Int} (h0 : -9 ≤ x) (h1 : x ≤ 9999999) : readB (numL x) = true ∧ readI (numL x) = x := by
  rcases Int.lt_trichotomy x 0 with h | rfl | h
  · obtain ⟨m, rfl⟩ : ∃ m : Nat, x = -(m : Int) := ⟨x.natAbs, by omega⟩
    have e0 : numL (-(m : Int)) = 45 :: digs m := by rw [numL_neg h, Int.natAbs_neg]; rfl
    have hs := digs_some (n := m) (by omega)
    have hb : belowB (45 :: digs m) = true := by unfold belowB; simp; omega
    have hr : restF (45 :: digs m) = digs m := by unfold restF; rw [hb]; rfl
    have ha := digs_all m m (Nat.le_refl _)
    have hl := digs_length 7 m (by omega)
    have e : readB (45 :: digs m) = true := by unfold readB; rw [hr, ha]; simp; omega
    rw [e0]
    refine ⟨e, ?_⟩
    unfold readI
    rw [e, hb, hr, digs_val m m (Nat.le_refl _)]
    simp
  · exact ⟨by rfl, by rfl⟩
  · obtain ⟨m, rfl⟩ : ∃ m : Nat, x = (m : Int) := ⟨x.toNat, by omega⟩
    rw [numL_pos (by omega)]
    exact read_digs (by omega) (by omega)
/-- No blank stands in a word or in a number. -/
def noBl (s : List UInt8) : Prop := ∀ b ∈ s, (b == 32) = false
theorem digB_noBl {s : List UInt8} (h : s.all digB = true) : noBl s := fun b hb => by
  have h1 := List.all_eq_true.1 h b hb
  unfold digB at h1
  simp only [Bool.and_eq_true, decide_eq_true_eq] at h1
  cases e : (b == 32)
  · rfl
  · rw [beq_iff_eq] at e
    subst e
    exact absurd h1.1 (by decide)
theorem num_noBl (x : Int) : noBl (numL x) := by
  have hd := digB_noBl (digs_all x.natAbs x.natAbs (Nat.le_refl _))
  unfold numL
  split
  · intro b hb
    rcases List.mem_cons.1 hb with rfl | h
    · rfl
    · exact hd b h
  · split
    · intro b hb
      obtain rfl : b = 48 := by simpa using hb
      rfl
    · exact hd
theorem word_noBl (k : Int) : noBl (wordL k) := by
  have h : ∀ l ∈ ([[100, 117, 101], [102, 105, 120, 101, 100], [102, 97, 105, 114], [115, 108, 101, 101, 112], [119, 97, 107, 101], [101, 120, 105, 116], [108, 111, 99, 107], [117, 110, 108, 111, 99, 107], [110, 105, 99, 101], [109, 111, 118, 101], [116, 105, 99, 107, 115], []] : List (List UInt8)), ∀ b ∈ l, (b == 32) = false := by decide
  refine h _ ?_
  unfold wordL
  repeat' split
  all_goals simp
theorem split_noBl : ∀ (s cur : List UInt8), noBl s → splitF cur s = [cur ++ s]
  | [], cur, _ => by simp [splitF]
  | b :: r, cur, h => by
    rw [splitF, if_neg (by rw [h b (by simp)]; simp), split_noBl r (cur ++ [b]) (fun x hx => h x (by simp [hx]))]
    simp
theorem split_at : ∀ (s cur r : List UInt8), noBl s → splitF cur (s ++ 32 :: r) = (cur ++ s) :: splitF [] r
  | [], cur, r, _ => by simp [splitF]
  | b :: q, cur, r, h => by
    rw [List.cons_append, splitF, if_neg (by rw [h b (by simp)]; simp), split_at q (cur ++ [b]) r (fun x hx => h x (by simp [hx]))]
    simp
/-- The line behind its word: the numbers one behind the other, a blank ahead of each. -/
def tailL : List Int → List UInt8
  | [] => []
  | x :: r => 32 :: (numL x ++ tailL r)
theorem split_tail : ∀ (ns : List Int) (s cur : List UInt8), noBl s → splitF cur (s ++ tailL ns) = (cur ++ s) :: ns.map numL
  | [], s, cur, h => by simp [tailL, split_noBl s cur h]
  | x :: r, s, cur, h => by
    show splitF cur (s ++ 32 :: (numL x ++ tailL r)) = _
    rw [split_at s cur _ h, split_tail r (numL x) [] (num_noBl x)]
    rfl
theorem tailL_snoc : ∀ (ns : List Int) (x : Int), tailL (ns ++ [x]) = tailL ns ++ [32] ++ numL x
  | [], x => by simp [tailL]
  | y :: r, x => by
    show 32 :: (numL y ++ tailL (r ++ [x])) = _
    rw [tailL_snoc r x]
    simp [tailL]
theorem lineK_eq (c : Cl) : ∀ k, k ≤ (numsL c).length → lineK c k = wordL c.kind ++ tailL ((numsL c).take k)
  | 0, _ => by simp [lineK, tailL]
  | k + 1, h => by
    have hx : (numsL c)[k]? = some ((numsL c).getD k 0) := by
      rw [List.getD_eq_getElem?_getD, List.getElem?_eq_getElem (by omega)]
      rfl
    rw [lineK, lineK_eq c k (by omega), List.take_add_one, hx]
    show _ = _ ++ tailL (_ ++ [_])
    rw [tailL_snoc]
    simp
theorem lineL_eq {c : Cl} (h : lineB c = true) : lineL c = wordL c.kind ++ tailL (numsL c) := by
  unfold lineL
  rw [h, if_pos rfl, lineK_eq c _ (Nat.le_refl _), List.take_length]
/-- A line's words are its kind's word and its numbers. -/
theorem words_line {c : Cl} (h : lineB c = true) : wordsF (lineL c) = wordL c.kind :: (numsL c).map numL := by
  unfold wordsF
  rw [lineL_eq h, split_tail _ _ _ (word_noBl _)]
  rfl
theorem firstsB_at {c : Cl} : ∀ (m k : Nat), firstsB c m = true → k < m → numOkB c k ((numsL c).getD k 0) = true
  | 0, k, _, hk => by omega
  | m + 1, k, h, hk => by
    unfold firstsB at h
    rw [Bool.and_eq_true] at h
    by_cases e : k = m
    · subst e; exact h.2
    · exact firstsB_at m k h.1 (by omega)
/-- Each number of a line is read as it was. -/
theorem nums_read {c : Cl} (h : lineB c = true) : ∀ x ∈ numsL c, readB (numL x) = true ∧ readI (numL x) = x := by
  intro x hx
  obtain ⟨k, hk⟩ := List.mem_iff_getElem?.1 hx
  have hlt : k < (numsL c).length := by
    rcases Nat.lt_or_ge k (numsL c).length with h | h
    · exact h
    · simp [List.getElem?_eq_none h] at hk
  unfold lineB at h
  rw [Bool.and_eq_true] at h
  have h1 := firstsB_at _ k h.2 hlt
  rw [List.getD_eq_getElem?_getD, hk] at h1
  unfold numOkB at h1
  have h2 := inB_iff.1 h1
  have h3 : leastI c k = -9 ∨ leastI c k = 0 := by unfold leastI; split <;> simp
  exact read_num (by rcases h3 with h | h <;> rw [h] at h2 <;> simp only [Option.getD_some] at h2 <;> omega) (by simpa using h2.2)
/-- A call that is right is the call of its kind and its numbers. -/
theorem of_nums {c : Cl} (h : callB c = true) : ofF c.kind (numsL c) = c := by
  obtain ⟨k, no, cpu, a, b⟩ := c
  unfold callB at h
  rw [Bool.and_eq_true] at h
  have hk := inB_iff.1 h.1
  simp only at hk
  have h2 : k = 1 ∨ k = 2 ∨ k = 3 ∨ k = 4 ∨ k = 5 ∨ k = 6 ∨ k = 7 ∨ k = 8 ∨ k = 9 ∨ k = 10 ∨ k = 11 := by omega
  have he := h.2
  rcases h2 with rfl | rfl | rfl | rfl | rfl | rfl | rfl | rfl | rfl | rfl | rfl <;> simp [eqC, cleanC] at he <;> simp [ofF, numsL, he]
def kindsL : List Int := [1, 2, 3, 4, 5, 6, 7, 8, 9, 10, 11]
/-- Whether a kind's call with these numbers has this line. -/
def tryB (line w0 : List UInt8) (ns : List Int) (k : Int) : Bool := w0 == wordL k && (ns.length == (numsL ⟨k, 0, 0, 0, 0⟩).length && (lineB (ofF k ns) && lineL (ofF k ns) == line))
def parseO (line : List UInt8) : Option Cl := match wordsF line with
  | [] => none
  | w0 :: ws => if ws.all readB then (kindsL.find? (tryB line w0 (ws.map readI))).map (fun k => ofF k (ws.map readI)) else none
theorem wordL_inj : ∀ a ∈ kindsL, ∀ b ∈ kindsL, wordL a = wordL b → a = b := by decide
theorem nums_kind (c : Cl) : (numsL ⟨c.kind, 0, 0, 0, 0⟩).length = (numsL c).length := by
  unfold numsL
  repeat' split
  all_goals simp_all
/-- A line is read as it was written. -/
theorem parse_line {c : Cl} (h : lineB c = true) : parseO (lineL c) = some c := by
  have hr := nums_read h
  have hcb : callB c = true := by
    unfold lineB at h
    rw [Bool.and_eq_true] at h
    exact h.1
  have hk : c.kind ∈ kindsL := by
    unfold callB at hcb
    rw [Bool.and_eq_true] at hcb
    have := inB_iff.1 hcb.1
    have h2 : c.kind = 1 ∨ c.kind = 2 ∨ c.kind = 3 ∨ c.kind = 4 ∨ c.kind = 5 ∨ c.kind = 6 ∨ c.kind = 7 ∨ c.kind = 8 ∨ c.kind = 9 ∨ c.kind = 10 ∨ c.kind = 11 := by omega
    unfold kindsL
    simp only [List.mem_cons, List.not_mem_nil, or_false]
    exact h2
  have e1 : ((numsL c).map numL).all readB = true := by
    rw [List.all_eq_true]
    intro s hs
    obtain ⟨x, hx, rfl⟩ := List.mem_map.1 hs
    exact (hr x hx).1
  have e2 : ((numsL c).map numL).map readI = numsL c := by
    rw [List.map_map]
    conv => rhs; rw [← List.map_id (numsL c)]
    exact List.map_congr_left fun x hx => (hr x hx).2
  have e3 : tryB (lineL c) (wordL c.kind) (numsL c) c.kind = true := by
    unfold tryB
    rw [nums_kind, of_nums hcb, h]
    simp
  unfold parseO
  rw [words_line h]
  simp only [e1, e2, if_true]
  cases hf : kindsL.find? (tryB (lineL c) (wordL c.kind) (numsL c)) with
  | none =>
    have := List.find?_eq_none.1 hf c.kind hk
    exact absurd e3 this
  | some k =>
    have h1 := List.find?_some hf
    have h2 := List.mem_of_find?_eq_some hf
    unfold tryB at h1
    rw [Bool.and_eq_true, beq_iff_eq] at h1
    have : k = c.kind := wordL_inj k h2 c.kind hk h1.1.symm
    subst this
    simp only [Option.map_some]
    rw [of_nums hcb]
theorem parse_some {line : List UInt8} {c : Cl} (h : parseO line = some c) : lineB c = true ∧ lineL c = line := by
  unfold parseO at h
  split at h
  · cases h
  · split at h
    · obtain ⟨k, hf, rfl⟩ := Option.map_eq_some_iff.1 h
      have h1 := List.find?_some hf
      unfold tryB at h1
      simp only [Bool.and_eq_true, beq_iff_eq] at h1
      exact ⟨h1.2.2.1, h1.2.2.2⟩
    · cases h
/-- What is read of a line: the one call whose line it is. -/
theorem parse_is {line : List UInt8} {c : Cl} : parseO line = some c ↔ lineB c = true ∧ lineL c = line :=
  ⟨parse_some, fun ⟨h1, h2⟩ => by rw [← h2]; exact parse_line h1⟩
end Go.Proofs.YtpikopdfkhagmaaGreatDoor
namespace Go.Proofs.YtpikopdfkhagmaaGreatDoor
open Go.RowKit
attribute [local go_sem] Keeps.refl Keeps.alloc Keeps.drew Keeps.drewN

theorem len_one {α : Type} {xs : List α} (h : xs.length = 1) : ∃ a, xs = [a] := by
  match xs, h with
  | [a], _ => exact ⟨a, rfl⟩
theorem len_two {α : Type} {xs : List α} (h : xs.length = 2) : ∃ a b, xs = [a, b] := by
  match xs, h with
  | [a, b], _ => exact ⟨a, b, rfl⟩
theorem len_three {α : Type} {xs : List α} (h : xs.length = 3) : ∃ a b c, xs = [a, b, c] := by
  match xs, h with
  | [a, b, c], _ => exact ⟨a, b, c, rfl⟩
theorem len_four {α : Type} {xs : List α} (h : xs.length = 4) : ∃ a b c d, xs = [a, b, c, d] := by
  match xs, h with
  | [a, b, c, d], _ => exact ⟨a, b, c, d, rfl⟩
set_option maxRecDepth 100000 in
set_option maxHeartbeats 8000000 in
theorem l14Of_any (k : Int) (ns : List Int) (b n cap : Nat) (w : World) (hk : k ∈ kindsL) (hn : ns.length = n) (hl : ns.length = (numsL ⟨k, 0, 0, 0, 0⟩).length) (hs : Ns w (some ⟨b, 0, none⟩) ns) :
    Calls Tryz.prog 37 #[.int .i64 k, .slice (some ⟨b, 0, none⟩) n cap] w fun e w' => e = .returned (ck (ofF k ns)) ∧ Keeps w w' := by
  have h2 : k = 1 ∨ k = 2 ∨ k = 3 ∨ k = 4 ∨ k = 5 ∨ k = 6 ∨ k = 7 ∨ k = 8 ∨ k = 9 ∨ k = 10 ∨ k = 11 := by
    unfold kindsL at hk
    simpa using hk
  clear hk
  rcases h2 with rfl | rfl | rfl | rfl | rfl | rfl | rfl | rfl | rfl | rfl | rfl
  · obtain ⟨x, y, z, t, rfl⟩ := len_four (show ns.length = 4 from hl)
    obtain rfl : 4 = n := hn
    have r0 := hs.getAt (k := 0) (x := x) rfl w (Keeps.refl w)
    have r1 := hs.getAt (k := 1) (x := y) rfl w (Keeps.refl w)
    have r2 := hs.getAt (k := 2) (x := z) rfl w (Keeps.refl w)
    have r3 := hs.getAt (k := 3) (x := t) rfl w (Keeps.refl w)
    have hb := World.block_lt_of_cell? w _ r0
    simp only at hb
    have hb1 : b ≠ w.heap.size := by omega
    have hb2 : b ≠ w.heap.size + 1 := by omega
    clear hs hl
    go_enter Tryz.func37, Tryz.ntmps37
    go_wp2
    exact bodyPost_ret (v := ck (ofF 1 [x, y, z, t])) (by simp [results, Tryz.results37, go_sem, ofF]) rfl ⟨rfl, by repeat (first | exact Keeps.refl _ | refine Keeps.setCell ?_ (by simp) _ | refine Keeps.alloc ?_ _ | refine Keeps.drewN ?_ _)⟩
  · obtain ⟨x, y, z, t, rfl⟩ := len_four (show ns.length = 4 from hl)
    obtain rfl : 4 = n := hn
    have r0 := hs.getAt (k := 0) (x := x) rfl w (Keeps.refl w)
    have r1 := hs.getAt (k := 1) (x := y) rfl w (Keeps.refl w)
    have r2 := hs.getAt (k := 2) (x := z) rfl w (Keeps.refl w)
    have r3 := hs.getAt (k := 3) (x := t) rfl w (Keeps.refl w)
    have hb := World.block_lt_of_cell? w _ r0
    simp only at hb
    have hb1 : b ≠ w.heap.size := by omega
    have hb2 : b ≠ w.heap.size + 1 := by omega
    clear hs hl
    go_enter Tryz.func37, Tryz.ntmps37
    go_wp2
    exact bodyPost_ret (v := ck (ofF 2 [x, y, z, t])) (by simp [results, Tryz.results37, go_sem, ofF]) rfl ⟨rfl, by repeat (first | exact Keeps.refl _ | refine Keeps.setCell ?_ (by simp) _ | refine Keeps.alloc ?_ _ | refine Keeps.drewN ?_ _)⟩
  · obtain ⟨x, y, z, rfl⟩ := len_three (show ns.length = 3 from hl)
    obtain rfl : 3 = n := hn
    have r0 := hs.getAt (k := 0) (x := x) rfl w (Keeps.refl w)
    have r1 := hs.getAt (k := 1) (x := y) rfl w (Keeps.refl w)
    have r2 := hs.getAt (k := 2) (x := z) rfl w (Keeps.refl w)
    have hb := World.block_lt_of_cell? w _ r0
    simp only at hb
    have hb1 : b ≠ w.heap.size := by omega
    have hb2 : b ≠ w.heap.size + 1 := by omega
    clear hs hl
    go_enter Tryz.func37, Tryz.ntmps37
    go_wp2
    exact bodyPost_ret (v := ck (ofF 3 [x, y, z])) (by simp [results, Tryz.results37, go_sem, ofF]) rfl ⟨rfl, by repeat (first | exact Keeps.refl _ | refine Keeps.setCell ?_ (by simp) _ | refine Keeps.alloc ?_ _ | refine Keeps.drewN ?_ _)⟩
  · obtain ⟨x, rfl⟩ := len_one (show ns.length = 1 from hl)
    obtain rfl : 1 = n := hn
    have r0 := hs.getAt (k := 0) (x := x) rfl w (Keeps.refl w)
    have hb := World.block_lt_of_cell? w _ r0
    simp only at hb
    have hb1 : b ≠ w.heap.size := by omega
    have hb2 : b ≠ w.heap.size + 1 := by omega
    clear hs hl
    go_enter Tryz.func37, Tryz.ntmps37
    go_wp2
    exact bodyPost_ret (v := ck (ofF 4 [x])) (by simp [results, Tryz.results37, go_sem, ofF]) rfl ⟨rfl, by repeat (first | exact Keeps.refl _ | refine Keeps.setCell ?_ (by simp) _ | refine Keeps.alloc ?_ _ | refine Keeps.drewN ?_ _)⟩
  · obtain ⟨x, rfl⟩ := len_one (show ns.length = 1 from hl)
    obtain rfl : 1 = n := hn
    have r0 := hs.getAt (k := 0) (x := x) rfl w (Keeps.refl w)
    have hb := World.block_lt_of_cell? w _ r0
    simp only at hb
    have hb1 : b ≠ w.heap.size := by omega
    have hb2 : b ≠ w.heap.size + 1 := by omega
    clear hs hl
    go_enter Tryz.func37, Tryz.ntmps37
    go_wp2
    exact bodyPost_ret (v := ck (ofF 5 [x])) (by simp [results, Tryz.results37, go_sem, ofF]) rfl ⟨rfl, by repeat (first | exact Keeps.refl _ | refine Keeps.setCell ?_ (by simp) _ | refine Keeps.alloc ?_ _ | refine Keeps.drewN ?_ _)⟩
  · obtain ⟨x, rfl⟩ := len_one (show ns.length = 1 from hl)
    obtain rfl : 1 = n := hn
    have r0 := hs.getAt (k := 0) (x := x) rfl w (Keeps.refl w)
    have hb := World.block_lt_of_cell? w _ r0
    simp only at hb
    have hb1 : b ≠ w.heap.size := by omega
    have hb2 : b ≠ w.heap.size + 1 := by omega
    clear hs hl
    go_enter Tryz.func37, Tryz.ntmps37
    go_wp2
    exact bodyPost_ret (v := ck (ofF 6 [x])) (by simp [results, Tryz.results37, go_sem, ofF]) rfl ⟨rfl, by repeat (first | exact Keeps.refl _ | refine Keeps.setCell ?_ (by simp) _ | refine Keeps.alloc ?_ _ | refine Keeps.drewN ?_ _)⟩
  · obtain ⟨x, y, rfl⟩ := len_two (show ns.length = 2 from hl)
    obtain rfl : 2 = n := hn
    have r0 := hs.getAt (k := 0) (x := x) rfl w (Keeps.refl w)
    have r1 := hs.getAt (k := 1) (x := y) rfl w (Keeps.refl w)
    have hb := World.block_lt_of_cell? w _ r0
    simp only at hb
    have hb1 : b ≠ w.heap.size := by omega
    have hb2 : b ≠ w.heap.size + 1 := by omega
    clear hs hl
    go_enter Tryz.func37, Tryz.ntmps37
    go_wp2
    exact bodyPost_ret (v := ck (ofF 7 [x, y])) (by simp [results, Tryz.results37, go_sem, ofF]) rfl ⟨rfl, by repeat (first | exact Keeps.refl _ | refine Keeps.setCell ?_ (by simp) _ | refine Keeps.alloc ?_ _ | refine Keeps.drewN ?_ _)⟩
  · obtain ⟨x, y, rfl⟩ := len_two (show ns.length = 2 from hl)
    obtain rfl : 2 = n := hn
    have r0 := hs.getAt (k := 0) (x := x) rfl w (Keeps.refl w)
    have r1 := hs.getAt (k := 1) (x := y) rfl w (Keeps.refl w)
    have hb := World.block_lt_of_cell? w _ r0
    simp only at hb
    have hb1 : b ≠ w.heap.size := by omega
    have hb2 : b ≠ w.heap.size + 1 := by omega
    clear hs hl
    go_enter Tryz.func37, Tryz.ntmps37
    go_wp2
    exact bodyPost_ret (v := ck (ofF 8 [x, y])) (by simp [results, Tryz.results37, go_sem, ofF]) rfl ⟨rfl, by repeat (first | exact Keeps.refl _ | refine Keeps.setCell ?_ (by simp) _ | refine Keeps.alloc ?_ _ | refine Keeps.drewN ?_ _)⟩
  · obtain ⟨x, y, rfl⟩ := len_two (show ns.length = 2 from hl)
    obtain rfl : 2 = n := hn
    have r0 := hs.getAt (k := 0) (x := x) rfl w (Keeps.refl w)
    have r1 := hs.getAt (k := 1) (x := y) rfl w (Keeps.refl w)
    have hb := World.block_lt_of_cell? w _ r0
    simp only at hb
    have hb1 : b ≠ w.heap.size := by omega
    have hb2 : b ≠ w.heap.size + 1 := by omega
    clear hs hl
    go_enter Tryz.func37, Tryz.ntmps37
    go_wp2
    exact bodyPost_ret (v := ck (ofF 9 [x, y])) (by simp [results, Tryz.results37, go_sem, ofF]) rfl ⟨rfl, by repeat (first | exact Keeps.refl _ | refine Keeps.setCell ?_ (by simp) _ | refine Keeps.alloc ?_ _ | refine Keeps.drewN ?_ _)⟩
  · obtain ⟨x, y, rfl⟩ := len_two (show ns.length = 2 from hl)
    obtain rfl : 2 = n := hn
    have r0 := hs.getAt (k := 0) (x := x) rfl w (Keeps.refl w)
    have r1 := hs.getAt (k := 1) (x := y) rfl w (Keeps.refl w)
    have hb := World.block_lt_of_cell? w _ r0
    simp only at hb
    have hb1 : b ≠ w.heap.size := by omega
    have hb2 : b ≠ w.heap.size + 1 := by omega
    clear hs hl
    go_enter Tryz.func37, Tryz.ntmps37
    go_wp2
    exact bodyPost_ret (v := ck (ofF 10 [x, y])) (by simp [results, Tryz.results37, go_sem, ofF]) rfl ⟨rfl, by repeat (first | exact Keeps.refl _ | refine Keeps.setCell ?_ (by simp) _ | refine Keeps.alloc ?_ _ | refine Keeps.drewN ?_ _)⟩
  · obtain ⟨x, rfl⟩ := len_one (show ns.length = 1 from hl)
    obtain rfl : 1 = n := hn
    have r0 := hs.getAt (k := 0) (x := x) rfl w (Keeps.refl w)
    have hb := World.block_lt_of_cell? w _ r0
    simp only at hb
    have hb1 : b ≠ w.heap.size := by omega
    have hb2 : b ≠ w.heap.size + 1 := by omega
    clear hs hl
    go_enter Tryz.func37, Tryz.ntmps37
    go_wp2
    exact bodyPost_ret (v := ck (ofF 11 [x])) (by simp [results, Tryz.results37, go_sem, ofF]) rfl ⟨rfl, by repeat (first | exact Keeps.refl _ | refine Keeps.setCell ?_ (by simp) _ | refine Keeps.alloc ?_ _ | refine Keeps.drewN ?_ _)⟩
end Go.Proofs.YtpikopdfkhagmaaGreatDoor
