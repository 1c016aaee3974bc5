/-
  Numbers in digits, and texts: plain lists of bytes.
  The text of turns, as a plain list of bytes.
  The line of a call, as a plain list of bytes.
  The model's l14Num: a number in digits.
  Texts as lists of bytes: a byte, a piece, whether two are alike.
  Drawn lines: a text out of a list, a text that is turned in one place.
-/
import Derived.Test.YtpikopdfkhagmaaGreatDoorLate2
import Derived.Test.YtpikopdfkhagmaaGreatDoorSum
import Derived.Test.YtpikopdfkhagmaaGreatDoorTaskNew
import Derived.Test.YtpikopdfkhagmaaGreatDoorCur
import Derived.Laws.Concat
import Derived.Laws.BytesString
import Derived.WalkSpells
import Derived.Test.YtpikopdfkhagmaaGreatDoorTaskSpec
import Derived.Deep.RegionHeld3
namespace Go.Proofs.YtpikopdfkhagmaaGreatDoor
open Go.RowKit

/-- A text, as the list of its bytes. -/
abbrev strV (l : List UInt8) : Value := .string ⟨l.toArray⟩
/-- The byte of a digit. -/
def dig (d : Nat) : UInt8 := UInt8.ofNat (48 + d)
/-- The digits of a number above nought (of nought: none). -/
def digsF : Nat → Nat → List UInt8
  | 0, _ => []
  | f + 1, n => if n = 0 then [] else digsF f (n / 10) ++ [dig (n % 10)]
def digs (n : Nat) : List UInt8 := digsF n n
theorem digsF_more : ∀ (f g n : Nat), n ≤ f → n ≤ g → digsF f n = digsF g n
  | 0, 0, _, _, _ => rfl
  | 0, g + 1, n, hf, _ => by
    obtain rfl : n = 0 := by omega
    rfl
  | f + 1, 0, n, _, hg => by
    obtain rfl : n = 0 := by omega
    rfl
  | f + 1, g + 1, n, hf, hg => by
    unfold digsF
    by_cases h : n = 0
    · rw [if_pos h, if_pos h]
    · rw [if_neg h, if_neg h, digsF_more f g (n / 10) (by omega) (by omega)]
theorem digs_zero : digs 0 = [] := rfl
theorem digs_pos {n : Nat} (h : 0 < n) : digs n = digs (n / 10) ++ [dig (n % 10)] := by
  obtain ⟨f, rfl⟩ : ∃ f, n = f + 1 := ⟨n - 1, by omega⟩
  show digsF (f + 1) (f + 1) = digsF _ _ ++ _
  rw [digsF, if_neg (by omega), digsF_more f ((f + 1) / 10) ((f + 1) / 10) (by omega) (by omega)]
theorem digs_length : ∀ (k n : Nat), n < 10 ^ k → (digs n).length ≤ k
  | 0, n, h => by
    have : n = 0 := by simpa using h
    subst this
    rw [digs_zero]
    exact Nat.le_refl _
  | k + 1, n, h => by
    by_cases h0 : n = 0
    · subst h0; rw [digs_zero]; simp
    · rw [digs_pos (by omega), List.length_append]
      have := digs_length k (n / 10) (by rw [Nat.pow_succ] at h; omega)
      simp
      omega
/-- A number in digits, with its sign. -/
def numL (n : Int) : List UInt8 := if n < 0 then 45 :: digs n.natAbs else if n = 0 then [48] else digs n.natAbs
theorem numL_neg {n : Int} (h : n < 0) : numL n = 45 :: digs n.natAbs := if_pos h
theorem numL_zero : numL 0 = [48] := by rfl
theorem numL_pos {n : Nat} (h : 0 < n) : numL n = digs n := by
  unfold numL
  rw [if_neg (by omega), if_neg (by omega)]
  rfl
theorem numL_length {n : Int} (h0 : -99999999 ≤ n) (h1 : n ≤ 99999999) : (numL n).length ≤ 9 := by
  have := digs_length 8 n.natAbs (by omega)
  unfold numL
  split
  · simp; omega
  · split
    · simp
    · omega
end Go.Proofs.YtpikopdfkhagmaaGreatDoor
namespace Go.Proofs.YtpikopdfkhagmaaGreatDoor
open Go.RowKit

def turnNumB (t : Tn) : Bool := inB t.cpu 0 1000 && (inB t.ctx 0 1000 && inB t.exe 0 1000)
def turnL (t : Tn) : List UInt8 := numL t.cpu ++ [58] ++ numL t.ctx ++ (if t.exe == t.ctx then [] else [47] ++ numL t.exe)
/-- The text of the first k turns. -/
def textK (xs : List Tn) : Nat → List UInt8
  | 0 => []
  | k + 1 => (textK xs k ++ (if k = 0 then [] else [32])) ++ turnL (xs.getD k ⟨0, 0, 0⟩)
def turnsL (xs : List Tn) : List UInt8 := if xs.all turnNumB then textK xs xs.length else []
theorem turnsL_no {xs : List Tn} {k : Nat} {t : Tn} (h : xs[k]? = some t) (ht : turnNumB t = false) : turnsL xs = [] := by
  unfold turnsL
  rw [if_neg]
  intro e
  have := List.all_eq_true.1 e t (List.mem_of_getElem? h)
  rw [ht] at this
  cases this
theorem turnL_length {t : Tn} (h : turnNumB t = true) : (turnL t).length ≤ 30 := by
  unfold turnNumB at h
  simp only [Bool.and_eq_true, inB_iff] at h
  have h1 := numL_length (n := t.cpu) (by omega) (by omega)
  have h2 := numL_length (n := t.ctx) (by omega) (by omega)
  have h3 := numL_length (n := t.exe) (by omega) (by omega)
  unfold turnL
  split <;> simp <;> omega
end Go.Proofs.YtpikopdfkhagmaaGreatDoor
namespace Go.Proofs.YtpikopdfkhagmaaGreatDoor
open Go.RowKit

/-- The word of a kind. -/
def wordL (k : Int) : List UInt8 :=
  if k == 1 then [100, 117, 101] else if k == 2 then [102, 105, 120, 101, 100] else if k == 3 then [102, 97, 105, 114] else if k == 4 then [115, 108, 101, 101, 112]
  else if k == 5 then [119, 97, 107, 101] else if k == 6 then [101, 120, 105, 116] else if k == 7 then [108, 111, 99, 107] else if k == 8 then [117, 110, 108, 111, 99, 107]
  else if k == 9 then [110, 105, 99, 101] else if k == 10 then [109, 111, 118, 101] else if k == 11 then [116, 105, 99, 107, 115] else []
theorem wordL_length (k : Int) : (wordL k).length ≤ 6 := by
  unfold wordL
  repeat' split
  all_goals simp
/-- The numbers of a call that its line has. -/
def numsL (c : Cl) : List Int :=
  if c.kind == 1 || c.kind == 2 then [c.no, c.cpu, c.a, c.b] else if c.kind == 3 then [c.no, c.cpu, c.a] else if c.kind == 7 || c.kind == 8 || c.kind == 9 then [c.no, c.a]
  else if c.kind == 10 then [c.no, c.cpu] else if c.kind == 11 then [c.a] else [c.no]
theorem numsL_length (c : Cl) : 1 ≤ (numsL c).length ∧ (numsL c).length ≤ 4 := by
  unfold numsL
  repeat' split
  all_goals simp
/-- The least that the number i of a call may be. -/
def leastI (c : Cl) (i : Nat) : Int := if (c.kind == 3 || c.kind == 9) && decide (i + 1 = (numsL c).length) then -9 else 0
def numOkB (c : Cl) (i : Nat) (x : Int) : Bool := inB x (leastI c i) 9999999
/-- The first k numbers of a call may stand in its line. -/
def firstsB (c : Cl) : Nat → Bool
  | 0 => true
  | k + 1 => firstsB c k && numOkB c k ((numsL c).getD k 0)
/-- The line up to the first k numbers. -/
def lineK (c : Cl) : Nat → List UInt8
  | 0 => wordL c.kind
  | k + 1 => lineK c k ++ [32] ++ numL ((numsL c).getD k 0)
def lineB (c : Cl) : Bool := callB c && firstsB c (numsL c).length
def lineL (c : Cl) : List UInt8 := if lineB c then lineK c (numsL c).length else []
theorem firstsB_no {c : Cl} {k : Nat} (h : numOkB c k ((numsL c).getD k 0) = false) : ∀ m, k < m → firstsB c m = false
  | 0, hm => by omega
  | m + 1, hm => by
    unfold firstsB
    by_cases e : k = m
    · subst e; rw [h, Bool.and_false]
    · rw [firstsB_no h m (by omega), Bool.false_and]
end Go.Proofs.YtpikopdfkhagmaaGreatDoor
namespace Go.Proofs.YtpikopdfkhagmaaGreatDoor
open Go.RowKit
attribute [local go_sem] Keeps.refl Keeps.alloc Keeps.drew Keeps.drewN

set_option maxRecDepth 100000 in
/-- One byte of a row of one's own, as a text. -/
theorem run_oneByte (w : World) (d : Nat) (t : TypeId) :
    (convert 22 9 (.slice (some ⟨w.heap.size, 0, none⟩) 1 1)).run Tryz.prog (w.alloc (.cells #[.int .u8 (48 + (d : Int))] t)) = .ok (strV [dig d]) (w.alloc (.cells #[.int .u8 (48 + (d : Int))] t)) := by
  rw [run_convert_bytes_string _ _ _ _ _ _ _ Tryz.underlying22 Tryz.underlying5 Tryz.underlying9]
  have h := run_bytesToString (P := Tryz.prog) (w.alloc (.cells #[.int .u8 (48 + (d : Int))] t)) ⟨w.heap.size, 0, none⟩ 1 1 [48 + (d : Int)] (run_loadCells_list (w.alloc (.cells #[.int .u8 (48 + (d : Int))] t)) ⟨w.heap.size, 0, none⟩ [.int .u8 (48 + (d : Int))] (fun j v hv => by
    match j, hv with
    | 0, hv =>
      obtain rfl : Value.int .u8 (48 + (d : Int)) = v := by simpa using hv
      simp [Addr.add, go_sem]
    | j + 1, hv => simp at hv))
  rw [h]
  have e : (48 + (d : Int)).toNat = 48 + d := by omega
  simp only [List.foldl_cons, List.foldl_nil, e]
  rfl
set_option maxRecDepth 100000 in
theorem run_addStr (w : World) (x y : List UInt8) (hx : x.length ≤ 1000000000000) (hy : y.length ≤ 1000000000000) : (Op.stringOp .add ⟨x.toArray⟩ ⟨y.toArray⟩).run Tryz.prog w = .ok (strV (x ++ y)) w := by
  rw [run_string_add_sum w _ _ (by simp [ByteArray.size]; omega)]
  congr 2
set_option maxRecDepth 100000 in
set_option maxHeartbeats 1000000 in
theorem l14Num_pos (n : Nat) (w : World) (h0 : 0 < n) (h1 : n < 100000000) :
    Calls Tryz.prog 30 #[.int .i64 n] w fun e w' => e = .returned (strV (digs n)) ∧ Keeps w w' := by
  have hd0 : decide ((n : Int) < 0) = false := by simp
  have he0 : ((n : Int) == 0) = false := by simp; omega
  have HL : Hid ((digs n).length ≤ 8) := digs_length 8 n (by omega)
  go_enter Tryz.func30, Tryz.ntmps30
  go_wp2
  go_loopw [0, 3] (fun c o wr => ∃ (m : Nat) (l : List UInt8), m ≤ n ∧ l.length ≤ 8 ∧ c = .int .i64 m ∧ o = strV l ∧ Hid (digs m ++ l = digs n) ∧ Keeps w wr) (fun c _ _ => (intOf c).toNat)
  case atStart => exact ⟨n, [], Nat.le_refl _, by simp, rfl, rfl, by show _ = _; simp, Keeps.refl _⟩
  case round =>
    obtain ⟨m, l, hm, hl, rfl, rfl, HE, hK⟩ := hrel
    by_cases hlt : 0 < m
    · have hlt' : (0 : Int) < (m : Int) := by omega
      have hq : (m : Int).tmod 10 = ((m % 10 : Nat) : Int) := by rw [Int.tmod_eq_emod_of_nonneg (by omega)]; omega
      have hv : (m : Int).tdiv 10 = ((m / 10 : Nat) : Int) := by rw [Int.tdiv_eq_ediv_of_nonneg (by omega)]; omega
      have HD := digs_pos hlt
      obtain ⟨d, Hd⟩ : ∃ d, Hid (m % 10 = d) := ⟨_, rfl⟩
      have hd : d < 10 := by rw [← Hd.out]; omega
      obtain ⟨p, Hp⟩ : ∃ p, Hid (m / 10 = p) := ⟨_, rfl⟩
      have hp : p < m := by rw [← Hp.out]; omega
      rw [Hd.out] at hq HD
      rw [Hp.out] at hv HD
      have HN : Hid (digs p ++ (dig d :: l) = digs n) := by
        show _ = _
        rw [← HE.out, HD, List.append_assoc]
        rfl
      have hnl : (dig d :: l).length ≤ 8 := by
        have h1 := HL.out
        rw [← HN.out, List.length_append] at h1
        omega
      have hc := run_oneByte wr d 5
      have ha : ∀ W : World, (Op.stringOp .add ⟨#[dig d]⟩ ⟨l.toArray⟩).run Tryz.prog W = .ok (strV (dig d :: l)) W := fun W => run_addStr W [dig d] l (by simp) (by omega)
      clear HD HE
      go_wp2
      exact ⟨⟨p, _, by omega, hnl, by go_num, rfl, HN, hK.alloc _⟩, by simp only [intOf]; omega⟩
    · have hlt' : decide ((0 : Int) < (m : Int)) = false := by simp; omega
      obtain rfl : m = 0 := by omega
      have HR : Hid (digs n = l) := by show _ = _; rw [← HE.out, digs_zero]; rfl
      go_wp2
      go_ret
      exact ⟨by rw [HR.out]; rfl, hK⟩
set_option maxRecDepth 100000 in
theorem l14Num_any (n : Int) (w : World) (h0 : -99999999 ≤ n) (h1 : n ≤ 99999999) :
    Calls Tryz.prog 30 #[.int .i64 n] w fun e w' => e = .returned (strV (numL n)) ∧ Keeps w w' := by
  rcases Int.lt_trichotomy n 0 with h | rfl | h
  · have hd : decide (n < 0) = true := by simpa using h
    obtain ⟨m, rfl⟩ : ∃ m : Nat, n = -(m : Int) := ⟨n.natAbs, by omega⟩
    have hm : (0 : Int) - -(m : Int) = (m : Int) := by omega
    have c1 := l14Num_pos m w (by omega) (by omega)
    have HE : Hid (numL (-(m : Int)) = 45 :: digs m) := by
      show _ = _
      rw [numL_neg h, Int.natAbs_neg]
      rfl
    have hl := digs_length 8 m (by omega)
    have ha : ∀ W : World, (Op.stringOp .add ⟨#[45]⟩ ⟨(digs m).toArray⟩).run Tryz.prog W = .ok (strV (45 :: digs m)) W := fun W => run_addStr W [45] (digs m) (by simp) (by omega)
    go_enter Tryz.func30, Tryz.ntmps30
    go_wp2_with (go_at_call 30; refine c1.mono ?_; rintro e w1 ⟨rfl, k1⟩)
    go_ret
    exact ⟨by rw [HE.out]; rfl, k1⟩
  · go_enter Tryz.func30, Tryz.ntmps30
    go_wp2
    go_ret
    exact ⟨rfl, Keeps.refl _⟩
  · obtain ⟨m, rfl⟩ : ∃ m : Nat, n = (m : Int) := ⟨n.toNat, by omega⟩
    rw [numL_pos (by omega)]
    exact l14Num_pos m w (by omega) (by omega)
end Go.Proofs.YtpikopdfkhagmaaGreatDoor
namespace Go.Proofs.YtpikopdfkhagmaaGreatDoor
open Go.RowKit

set_option maxRecDepth 100000 in
theorem run_strIdx {l : List UInt8} {k : Nat} {b : UInt8} (h : l[k]? = some b) (w : World) : (Instr.index 9 (strV l) (.int .i64 (k : Int))).run Tryz.prog w = .ok (.int .u8 (b.toNat : Int)) w := by
  have hk : k < l.length := by
    rcases Nat.lt_or_ge k l.length with h1 | h1
    · exact h1
    · simp [List.getElem?_eq_none h1] at h
  have e : (⟨l.toArray⟩ : ByteArray)[k]? = some b := by
    rw [getElem?_pos (⟨l.toArray⟩ : ByteArray) k (by simpa [ByteArray.size] using hk)]
    rw [List.getElem?_eq_getElem hk] at h
    rw [← h]
    rfl
  have hz : (0 : Int) ≤ (k : Int) := by omega
  simp [Instr.index, asIntOf, run_underlying Tryz.underlying9, e]
theorem str_extract (l : List UInt8) (lo hi : Nat) : (⟨l.toArray⟩ : ByteArray).extract lo hi = ⟨((l.drop lo).take (hi - lo)).toArray⟩ := by
  apply ByteArray.ext
  simp
set_option maxRecDepth 100000 in
theorem run_strEq (a b : List UInt8) (w : World) : (Op.stringOp .eql ⟨a.toArray⟩ ⟨b.toArray⟩).run Tryz.prog w = .ok (.bool (a == b)) w := by
  simp [Op.stringOp, ByteArray.toList_eq]
set_option maxRecDepth 100000 in
theorem run_strNe (a b : List UInt8) (w : World) : (Op.stringOp .neq ⟨a.toArray⟩ ⟨b.toArray⟩).run Tryz.prog w = .ok (.bool (!(a == b))) w := by
  simp [Op.stringOp, ByteArray.toList_eq]
end Go.Proofs.YtpikopdfkhagmaaGreatDoor
namespace Go.Proofs.YtpikopdfkhagmaaGreatDoor
open Go.RowKit
attribute [local go_sem] KeepsBut.refl KeepsBut.alloc KeepsBut.drew KeepsBut.drewN

set_option maxRecDepth 100000 in
/-- One of the texts of a list. -/
theorem l1Pick_any (M g b off cap n : Nat) (zs : List (List UInt8)) (w : World) (hc : Cur w g) (hg : b ≠ g) (hn : zs.length = n) (h1 : 1 ≤ n) (h2 : n ≤ 256)
    (hz : ∀ j, j < n → w.cell? ⟨b, off + j, none⟩ = some (strV (zs.getD j []))) (hp : ∀ z ∈ zs, z.length ≤ M) :
    Calls Tryz.prog 56 #[.pointer (some ⟨g, 0, none⟩), .slice (some ⟨b, off, none⟩) n cap] w fun e w' => ∃ x : List UInt8, e = .returned (strV x) ∧ x.length ≤ M ∧ Cur w' g ∧ KeepsBut g w w' := by
  have Hn : Hid (zs.length = n) := hn
  clear hn
  go_enter Tryz.func56, Tryz.ntmps56
  go_wp2_with fail
  refine (l1Below_any g _ _ hc (by omega) (by omega)).mono ?_
  rintro e w1 ⟨x, rfl, hx0, hx1, hc1, k1⟩
  obtain ⟨j, rfl⟩ := Int.eq_ofNat_of_zero_le hx0
  have hj : j < n := by omega
  have r := KeepsBut.has hg (hz j hj) w1 k1
  generalize hv : zs.getD j [] = v at r
  have Hv : Hid (zs.getD j [] = v) := hv
  clear hv hz
  go_wp2
  go_ret
  refine ⟨v, rfl, ?_, hc1, k1⟩
  rw [← Hv.out]
  have hj' : j < zs.length := by rw [Hn.out]; exact hj
  have e : zs.getD j [] = zs[j] := by simp [hj']
  rw [e]
  exact hp _ (List.getElem_mem hj')
set_option maxRecDepth 100000 in
set_option maxHeartbeats 4000000 in
theorem l14Dent_any (g b cap n : Nat) (l : List UInt8) (zs : List (List UInt8)) (w : World) (hc : Cur w g) (hg : b ≠ g) (hbl : b < w.heap.size) (hn : zs.length = n) (h1 : 1 ≤ n) (h2 : n ≤ 256)
    (hz : ∀ j, j < n → w.cell? ⟨b, 0 + j, none⟩ = some (strV (zs.getD j []))) (hp : ∀ z ∈ zs, z.length ≤ 3) (hl : l.length ≤ 200) :
    Calls Tryz.prog 57 #[.pointer (some ⟨g, 0, none⟩), strV l, .slice (some ⟨b, 0, none⟩) n cap] w fun e w' => ∃ x : List UInt8, e = .returned (strV x) ∧ x.length ≤ 403 ∧ Cur w' g ∧ KeepsBut g w w' := by
  generalize hm : l.length = m at hl
  have Hm : Hid (l.length = m) := hm
  have hsz : (⟨l.toArray⟩ : ByteArray).size = m := by simpa [ByteArray.size] using hm
  clear hm
  have cP := fun w' (k : KeepsBut g w w') (hc' : Cur w' g) => l1Pick_any 3 g b 0 cap n zs w' hc' hg hn h1 h2 (fun j hj => (k.cells b _ hbl hg).trans (hz j hj)) hp
  have K0 : KeepsBut g w w := KeepsBut.refl g w
  clear hz hn
  go_enter Tryz.func57, Tryz.ntmps57
  go_upto_region 2 with (go_at_call 40; refine (l1Below_any g _ _ hc (by omega) (by omega)).mono ?_; rintro e w1 ⟨x1, rfl, x10, x11, hc1, k1⟩)
  obtain ⟨j, rfl⟩ : ∃ j : Nat, x1 = (j : Int) := ⟨x1.toNat, by omega⟩
  have hj : j ≤ m := by omega
  have hj' : j ≤ l.length := by rw [Hm.out]; exact hj
  have e1 := str_extract l 0 j
  have e2 := str_extract l j m
  go_upto_region 3 with (go_at_call 40; refine (l1Below_any g _ _ hc1 (by omega) (by omega)).mono ?_; rintro e w2 ⟨x2, rfl, x20, x21, hc2, k2⟩)
  have K2 : KeepsBut g w w2 := k1.trans k2
  clear k1 k2 hc1 hc K0
  by_cases q0 : x2 = 0
  · subst q0
    go_wp2
    go_ret
    exact ⟨l.take j, rfl, by rw [List.length_take, Hm.out]; omega, hc2, K2⟩
  have q0' : (x2 == 0) = false := by simp; omega
  by_cases q1 : x2 = 1
  · subst q1
    obtain ⟨p, hpm, Hp⟩ : ∃ p : Nat, p ≤ m ∧ Hid (min ((j : Int) + 1) (m : Int) = (p : Int)) := ⟨min (j + 1) m, by omega, by show _ = _; omega⟩
    have hp' : p ≤ l.length := by rw [Hm.out]; exact hpm
    have hwj : IntKind.i64.wrap ((j : Int) + 1) = (j : Int) + 1 := Go.IntWalk.i64_in _ (by omega)
    have e3 := str_extract l p m
    have b1 : (l.take j).length ≤ 200 := by rw [List.length_take, Hm.out]; omega
    have b2 : (List.take (m - p) (List.drop p l)).length ≤ 200 := by rw [List.length_take]; omega
    generalize List.take (m - p) (List.drop p l) = E at *
    go_upto_region 6 with fail
    refine wp_region_held_drew (S := (fun w' => KeepsBut g w w')) (by kernel_rfl) ?_ (fun hHeld => ?_)
    · exact K2.drew
    refine Plan.go [0, 1, 2, 3, 4, 7, 8, 9, 10, 11] ?_
    iterate 10 (refine takeL (by simp only [opsAt]; rfl) (by kernel_rfl) (by exact fun _ _ _ h => h) (by rfl) (by assumption) (fun w _ => by go_simp; try (with_reducible rfl)) ?_; try simp only [putAtH])
    refine Plan.nil ?_
    refine callH 5 (by kernel_rfl) (by simp only [opsAt]; rfl) (fun K hK => ?_)
    go_simp
    first
      | (go_at_call 56; refine (cP _ (by assumption) (hc2.keeps (Keeps.refl _).drew)).mono ?_; rintro e w4 ⟨x, rfl, hx, hc4, k4⟩; have a1 : ∀ W : World, (Op.stringOp .add ⟨(l.take j).toArray⟩ ⟨x.toArray⟩).run Tryz.prog W = .ok (strV (l.take j ++ x)) W := (fun W => run_addStr W _ _ (by omega) (by omega)); have b3 : (l.take j ++ x).length ≤ 203 := (by rw [List.length_append]; omega); generalize l.take j ++ x = y at *; have a2 : ∀ W : World, (Op.stringOp .add ⟨y.toArray⟩ ⟨E.toArray⟩).run Tryz.prog W = .ok (strV (y ++ E)) W := (fun W => run_addStr W _ _ (by omega) (by omega)))
      | (go_at_call 39; refine (l1Min_any _ _ _).mono ?_; rintro e w5 ⟨rfl, hw5⟩; have hw6 := hw5.symm; subst hw6; rw [Hp.out])
    try go_wp2_with fail
    refine hK.out _ _ ?_ (fun hHeld => ?_)
    · first | assumption | exact KeepsBut.trans (by assumption) (by assumption)
    clear hK K
    try simp only [putAtH]
    refine takeH 6 (v := ?_) (by simp only [opsAt]; rfl) (by kernel_rfl) (by exact fun _ _ _ h => h) (by rfl) (by assumption) ?_ ?_
    rotate_left
    · (intro w _; go_simp; try (with_reducible rfl))
    try simp only [putAtH]
    refine callH 12 (by kernel_rfl) (by simp only [opsAt]; rfl) (fun K hK => ?_)
    go_simp
    first
      | (go_at_call 56; refine (cP _ (by assumption) (hc2.keeps (Keeps.refl _).drew)).mono ?_; rintro e w4 ⟨x, rfl, hx, hc4, k4⟩; have a1 : ∀ W : World, (Op.stringOp .add ⟨(l.take j).toArray⟩ ⟨x.toArray⟩).run Tryz.prog W = .ok (strV (l.take j ++ x)) W := (fun W => run_addStr W _ _ (by omega) (by omega)); have b3 : (l.take j ++ x).length ≤ 203 := (by rw [List.length_append]; omega); generalize l.take j ++ x = y at *; have a2 : ∀ W : World, (Op.stringOp .add ⟨y.toArray⟩ ⟨E.toArray⟩).run Tryz.prog W = .ok (strV (y ++ E)) W := (fun W => run_addStr W _ _ (by omega) (by omega)))
      | (go_at_call 39; refine (l1Min_any _ _ _).mono ?_; rintro e w5 ⟨rfl, hw5⟩; have hw6 := hw5.symm; subst hw6; rw [Hp.out])
    try go_wp2_with fail
    refine hK.out _ _ ?_ (fun hHeld => ?_)
    · first | assumption | exact KeepsBut.trans (by assumption) (by assumption)
    clear hK K
    try simp only [putAtH]
    refine Plan.go [13, 14, 15] ?_
    iterate 3 (refine takeL (by simp only [opsAt]; rfl) (by kernel_rfl) (by exact fun _ _ _ h => h) (by rfl) (by assumption) (fun w _ => by go_simp; try (with_reducible rfl)) ?_; try simp only [putAtH])
    refine Plan.nil ?_
    refine wpAnyH_done (by kernel_rfl) ?_ _
    go_wp2
    go_ret
    exact ⟨y ++ E, rfl, by rw [List.length_append]; omega, hc4, by assumption⟩
  have q1' : (x2 == 1) = false := by simp; omega
  have b1 : (l.take j).length ≤ 200 := by rw [List.length_take, Hm.out]; omega
  have b2 : (List.take (m - j) (List.drop j l)).length ≤ 200 := by rw [List.length_take]; omega
  generalize List.take (m - j) (List.drop j l) = E at *
  go_upto_region 7 with fail
  refine wp_region_held_drew (S := (fun w' => KeepsBut g w w')) (by kernel_rfl) ?_ (fun hHeld => ?_)
  · exact K2.drew
  refine Plan.go [0, 1, 2, 3, 4, 7, 8, 9] ?_
  iterate 8 (refine takeL (by simp only [opsAt]; rfl) (by kernel_rfl) (by exact fun _ _ _ h => h) (by rfl) (by assumption) (fun w _ => by go_simp; try (with_reducible rfl)) ?_; try simp only [putAtH])
  refine Plan.nil ?_
  refine callH 5 (by kernel_rfl) (by simp only [opsAt]; rfl) (fun K hK => ?_)
  go_simp
  (go_at_call 56; refine (cP _ (by assumption) (hc2.keeps (Keeps.refl _).drew)).mono ?_; rintro e w4 ⟨x, rfl, hx, hc4, k4⟩; have a1 : ∀ W : World, (Op.stringOp .add ⟨(l.take j).toArray⟩ ⟨x.toArray⟩).run Tryz.prog W = .ok (strV (l.take j ++ x)) W := (fun W => run_addStr W _ _ (by omega) (by omega)); have b3 : (l.take j ++ x).length ≤ 203 := (by rw [List.length_append]; omega); generalize l.take j ++ x = y at *; have a2 : ∀ W : World, (Op.stringOp .add ⟨y.toArray⟩ ⟨E.toArray⟩).run Tryz.prog W = .ok (strV (y ++ E)) W := (fun W => run_addStr W _ _ (by omega) (by omega)))
  try go_wp2_with fail
  refine hK.out _ _ ?_ (fun hHeld => ?_)
  · first | assumption | exact KeepsBut.trans (by assumption) (by assumption)
  clear hK K
  try simp only [putAtH]
  refine Plan.go [6, 10, 11] ?_
  iterate 3 (refine takeL (by simp only [opsAt]; rfl) (by kernel_rfl) (by exact fun _ _ _ h => h) (by rfl) (by assumption) (fun w _ => by go_simp; try (with_reducible rfl)) ?_; try simp only [putAtH])
  refine Plan.nil ?_
  refine wpAnyH_done (by kernel_rfl) ?_ _
  go_wp2
  go_ret
  exact ⟨y ++ E, rfl, by rw [List.length_append]; omega, hc4, by assumption⟩
end Go.Proofs.YtpikopdfkhagmaaGreatDoor
