/-
  Locks: contracts of the model's functions that only read.
  Locks: contracts of the model's chains, and of what is right.
-/
import Derived.Test.YtpikopdfkhagmaaGreatDoorPutC
import Derived.Test.YtpikopdfkhagmaaGreatDoorLate2
namespace Go.Proofs.YtpikopdfkhagmaaGreatDoor
open Go.RowKit
variable {p : Bool}
attribute [local go_sem] Keeps.refl Keeps.alloc Keeps.drew Keeps.drewN

theorem hasB_at {xs : List Int} {x : Int} {k : Nat} {y : Int} (hy : xs[k]? = some y) (h : (y == x) = true) : hasB xs x = true := by
  rw [hasB_iff]
  have := List.mem_of_getElem? hy
  simp at h
  rw [← h]; exact this
theorem hasB_none {xs : List Int} {x : Int} (h : ∀ (j : Nat) (y : Int), xs[j]? = some y → (y == x) = false) : hasB xs x = false := by
  rw [hasB_no]
  intro hm
  obtain ⟨j, hj, e⟩ := List.mem_iff_getElem.1 hm
  have := h j _ (List.getElem?_eq_getElem hj)
  simp [e] at this

set_option maxRecDepth 100000 in
set_option maxHeartbeats 1000000 in
theorem specHas_any (a : Option Addr) (cap : Nat) (xs : List Int) (x : Int) (w : World) (hl : xs.length ≤ maxLen) (hs : Ns w a xs) :
    Calls Tryz.prog 95 #[.slice a xs.length cap, .int .i64 x] w fun e w' => e = .returned (.bool (hasB xs x)) ∧ Keeps w w' := by
  unfold maxLen at hl
  generalize hn : xs.length = n at hl
  have Hn : Hid (xs.length = n) := hn
  clear hn
  go_enter Tryz.func95, Tryz.ntmps95
  go_wp2
  go_loopw [5] (fun i wr => ∃ k : Nat, k ≤ n ∧ i = .int .i64 k ∧ Keeps w wr ∧ Hid (∀ (j : Nat) (y : Int), j < k → xs[j]? = some y → (y == x) = false)) (fun i _ => n - (intOf i).toNat)
  case atStart => exact ⟨0, Nat.zero_le _, rfl, Keeps.refl _, fun j y hj => by omega⟩
  case round =>
    obtain ⟨k, hk, rfl, hK, H⟩ := hrel
    by_cases hlt : k < n
    · obtain ⟨y, hy⟩ := some_in (xs := xs) (k := k) (by rw [Hn.out]; exact hlt)
      obtain ⟨b, off, rfl, r0⟩ := hs.at hy
      have hlt' : (k : Int) < (n : Int) := by omega
      have Hy : Hid (xs[k]? = some y) := hy
      clear hs hy
      cases hq : (y == x)
      · go_wp2
        exact ⟨⟨k + 1, by omega, by go_num, hK, fun j s hj hs => by
          by_cases e : j = k
          · subst e; rw [Hy.out] at hs; cases hs; exact hq
          · exact H.out j s (by omega) hs⟩, by simp only [intOf]; omega⟩
      · have Hr : Hid (hasB xs x = true) := hasB_at Hy.out hq
        go_wp2
        go_ret
        exact ⟨by rw [Hr.out]; rfl, hK⟩
    · have Hr : Hid (hasB xs x = false) := hasB_none fun j y hy => H.out j y (by have := lt_of_some hy; rw [Hn.out] at this; omega) hy
      go_wp2
      go_ret
      exact ⟨by rw [Hr.out]; rfl, hK⟩

set_option maxRecDepth 100000 in
set_option maxHeartbeats 1000000 in
theorem specWaitAt_any (a : Option Addr) (cap : Nat) (ls : List Lk) (no : Int) (w : World) (hl : ls.length ≤ maxLen) (hs : Lks p w a ls) :
    Calls Tryz.prog 74 #[.slice a ls.length cap, .int .i64 no] w fun e w' => e = .returned (.int .i64 (waitAt ls no)) ∧ Keeps w w' := by
  unfold maxLen at hl
  generalize hn : ls.length = n at hl
  have Hn : Hid (ls.length = n) := hn
  clear hn
  go_enter Tryz.func74, Tryz.ntmps74
  go_wp2
  go_loopw [5] (fun i wr => ∃ k : Nat, k ≤ n ∧ i = .int .i64 k ∧ Keeps w wr ∧ Hid (∀ (j : Nat) (m : Lk), j < k → ls[j]? = some m → hasB m.waits no = false)) (fun i _ => n - (intOf i).toNat)
  case atStart => exact ⟨0, Nat.zero_le _, rfl, Keeps.refl _, fun j y hj => by omega⟩
  case round =>
    obtain ⟨k, hk, rfl, hK, H⟩ := hrel
    by_cases hlt : k < n
    · obtain ⟨l, hl1⟩ := some_in (xs := ls) (k := k) (by rw [Hn.out]; exact hlt)
      obtain ⟨b, off, a', cap', rfl, r0, r1, hle, hns⟩ := hs.at hl1
      have hlt' : (k : Int) < (n : Int) := by omega
      have Hl : Hid (ls[k]? = some l) := hl1
      have Hle : Hid (l.waits.length ≤ maxLen) := hle
      have N1 : Hid (Ns w a' l.waits) := hns
      clear hs hl1 hle hns
      cases hq : hasB l.waits no
      · go_wp2_with (go_at_call 95; refine (specHas_any _ _ l.waits no _ Hle.out (N1.out.keeps hK)).mono ?_; rintro e w1 ⟨rfl, k1⟩; rw [hq])
        exact ⟨⟨k + 1, by omega, by go_num, hK.trans k1, fun j s hj hs => by
          by_cases e : j = k
          · subst e; rw [Hl.out] at hs; cases hs; exact hq
          · exact H.out j s (by omega) hs⟩, by simp only [intOf]; omega⟩
      · have Hr : Hid (waitAt ls no = k) := by
          show _ = _
          unfold waitAt
          rw [waitIx_of Hl.out hq H.out]
        go_wp2_with (go_at_call 95; refine (specHas_any _ _ l.waits no _ Hle.out (N1.out.keeps hK)).mono ?_; rintro e w1 ⟨rfl, k1⟩; rw [hq])
        go_ret
        exact ⟨by rw [Hr.out]; rfl, hK.trans k1⟩
    · have Hr : Hid (waitAt ls no = -1) := by
        show _ = _
        unfold waitAt
        rw [waitIx_of_none fun j m hm => H.out j m (by have := lt_of_some hm; rw [Hn.out] at this; omega) hm]
      go_wp2
      go_ret
      exact ⟨by rw [Hr.out]; rfl, hK⟩

theorem countN_append (xs ys : List Int) (no : Int) : countN (xs ++ ys) no = countN xs no + countN ys no := by simp [countN]
theorem countN_le (xs : List Int) (no : Int) : countN xs no ≤ xs.length := List.length_filter_le _ _
theorem countN_take {xs : List Int} {k : Nat} {x no : Int} (h : xs[k]? = some x) : countN (xs.take (k + 1)) no = countN (xs.take k) no + (if x == no then 1 else 0) := by
  rw [List.take_add_one, h, countN_append]
  congr 1
  cases hx : (x == no) <;> simp [countN, hx]
theorem waitsN_append (xs ys : List Lk) (no : Int) : waitsN (xs ++ ys) no = waitsN xs no + waitsN ys no := by
  induction xs with
  | nil => simp [waitsN]
  | cons x r ih => simp only [List.cons_append, waitsN, ih]; omega
theorem waitsN_take {ls : List Lk} {k : Nat} {l : Lk} (h : ls[k]? = some l) (no : Int) : waitsN (ls.take (k + 1)) no = waitsN (ls.take k) no + countN l.waits no := by
  rw [List.take_add_one, h, waitsN_append]
  simp [waitsN]
theorem waitsN_le (ls : List Lk) (no : Int) : waitsN ls no ≤ sumW ls := by
  induction ls with
  | nil => simp [waitsN]
  | cons l r ih => have := countN_le l.waits no; simp only [waitsN, sumW]; omega
set_option maxRecDepth 100000 in
set_option maxHeartbeats 2000000 in
theorem specWaits_any (a : Option Addr) (cap : Nat) (ls : List Lk) (no : Int) (w : World) (hl : sizeN ls ≤ 2097152) (hs : Lks p w a ls) :
    Calls Tryz.prog 109 #[.slice a ls.length cap, .int .i64 no] w fun e w' => e = .returned (.int .i64 (waitsN ls no)) ∧ Keeps w w' := by
  have HL : Hid (sizeN ls ≤ 2097152) := hl
  have hl0 : ls.length ≤ 2097152 := by unfold sizeN at hl; omega
  clear hl
  generalize hn : ls.length = n at hl0
  have Hn : Hid (ls.length = n) := hn
  clear hn
  go_enter Tryz.func109, Tryz.ntmps109
  go_wp2
  go_loopw [5, 6] (fun c i wr => ∃ (k q : Nat), k ≤ n ∧ i = .int .i64 k ∧ c = .int .i64 q ∧ Hid (waitsN (ls.take k) no = q) ∧ q ≤ 2097152 ∧ Keeps w wr) (fun _ i _ => n - (intOf i).toNat)
  case atStart => exact ⟨0, 0, Nat.zero_le _, rfl, rfl, by show _ = _; simp [waitsN], by omega, Keeps.refl _⟩
  case round =>
    obtain ⟨k, q, hk, rfl, rfl, Hq, hq1, hK⟩ := hrel
    by_cases hlt : k < n
    · obtain ⟨l, hl1⟩ := some_in (xs := ls) (k := k) (by rw [Hn.out]; exact hlt)
      obtain ⟨b, off, a', cap', rfl, r0, r1, hle, hns⟩ := hs.at hl1
      have hlt' : (k : Int) < (n : Int) := by omega
      have Hl : Hid (ls[k]? = some l) := hl1
      have Hle : Hid (l.waits.length ≤ maxLen) := hle
      have hw1 : Hid (l.waits.length ≤ 2097152) := by show _ ≤ _; have := sumW_mem hl1; have := HL.out; unfold sizeN at this; omega
      have hw2 : Hid (q + l.waits.length ≤ 2097152) := by
        show _ ≤ _
        have h1 := sumW_take hl1
        have h2 := sumW_le ls (k + 1)
        have h3 := waitsN_le (ls.take k) no
        have h4 := HL.out
        rw [Hq.out] at h3
        unfold sizeN at h4
        omega
      clear hl1 hle
      obtain ⟨m, Hm⟩ : ∃ m : Nat, Hid (l.waits.length = m) := ⟨_, rfl⟩
      have hm1 : m ≤ 2097152 := by rw [← Hm.out]; exact hw1.out
      have hm2 : q + m ≤ 2097152 := by rw [← Hm.out]; exact hw2.out
      rw [Hm.out] at r1
      go_wp2
      go_loopw [5, 7] (fun c i wr => ∃ (j p : Nat), j ≤ m ∧ i = .int .i64 j ∧ c = .int .i64 p ∧ Hid (q + countN (l.waits.take j) no = p) ∧ p ≤ 2097152 ∧ Keeps w wr) (fun _ i _ => m - (intOf i).toNat)
      case atStart => exact ⟨0, q, Nat.zero_le _, rfl, rfl, by show _ = _; simp [countN], hq1, hK⟩
      case round =>
        obtain ⟨j, p, hj, rfl, rfl, Hp, hp1, hK⟩ := hrel
        by_cases hlt2 : j < m
        · obtain ⟨x, hx⟩ := some_in (xs := l.waits) (k := j) (by rw [Hm.out]; exact hlt2)
          obtain ⟨b2, off2, rfl, x0⟩ := hns.at hx
          have hlt3 : (j : Int) < (m : Int) := by omega
          have Hx : Hid (l.waits[j]? = some x) := hx
          have hp2 : p < 2097152 := by
            have h1 := countN_le (l.waits.take j) no
            have h2 : (l.waits.take j).length ≤ j := by simp; omega
            have h3 := Hp.out
            omega
          clear hns hx
          cases hq : (x == no)
          · go_wp2
            refine ⟨⟨j + 1, p, by omega, by go_num, rfl, ?_, hp1, hK⟩, by simp only [intOf]; omega⟩
            show _ = _
            rw [countN_take Hx.out, hq, ← Hp.out]
            simp
          · go_wp2
            refine ⟨⟨j + 1, p + 1, by omega, by go_num, by go_num, ?_, by omega, hK⟩, by simp only [intOf]; omega⟩
            show _ = _
            rw [countN_take Hx.out, hq, ← Hp.out]
            simp
            omega
        · have e : j = m := by omega
          subst e
          go_wp2
          refine ⟨⟨k + 1, p, by omega, by go_num, rfl, ?_, hp1, hK⟩, by simp only [intOf]; omega⟩
          show _ = _
          rw [waitsN_take Hl.out, Hq.out, ← Hp.out, ← Hm.out, List.take_length]
    · have e : k = n := by omega
      subst e
      have Hr : Hid (waitsN ls no = q) := by show _ = _; rw [← Hq.out, ← Hn.out, List.take_length]
      go_wp2
      go_ret
      exact ⟨by rw [Hr.out]; rfl, hK⟩

theorem ownsB_at {ls : List Lk} {no : Int} {k : Nat} {l : Lk} (hl : ls[k]? = some l) (h0 : (no != 0) = true) (h1 : (l.owner == no) = true) : ownsB ls no = true := by
  unfold ownsB
  rw [List.any_eq_true]
  exact ⟨l, List.mem_of_getElem? hl, by rw [h0, h1]; rfl⟩
theorem ownsB_none {ls : List Lk} {no : Int} (h : ∀ (j : Nat) (l : Lk), ls[j]? = some l → (no != 0 && l.owner == no) = false) : ownsB ls no = false := by
  unfold ownsB
  rw [List.any_eq_false]
  intro l hl
  obtain ⟨j, hj, rfl⟩ := List.mem_iff_getElem.1 hl
  simpa using h j _ (List.getElem?_eq_getElem hj)

set_option maxRecDepth 100000 in
set_option maxHeartbeats 1000000 in
theorem specOwnsAny_any (a : Option Addr) (cap : Nat) (ls : List Lk) (no : Int) (w : World) (hl : ls.length ≤ maxLen) (hs : Lks p w a ls) :
    Calls Tryz.prog 96 #[.slice a ls.length cap, .int .i64 no] w fun e w' => e = .returned (.bool (ownsB ls no)) ∧ Keeps w w' := by
  unfold maxLen at hl
  generalize hn : ls.length = n at hl
  have Hn : Hid (ls.length = n) := hn
  clear hn
  go_enter Tryz.func96, Tryz.ntmps96
  go_wp2
  go_loopw [5] (fun i wr => ∃ k : Nat, k ≤ n ∧ i = .int .i64 k ∧ Keeps w wr ∧ Hid (∀ (j : Nat) (l : Lk), j < k → ls[j]? = some l → (no != 0 && l.owner == no) = false)) (fun i _ => n - (intOf i).toNat)
  case atStart => exact ⟨0, Nat.zero_le _, rfl, Keeps.refl _, fun j y hj => by omega⟩
  case round =>
    obtain ⟨k, hk, rfl, hK, H⟩ := hrel
    by_cases hlt : k < n
    · obtain ⟨l, hl1⟩ := some_in (xs := ls) (k := k) (by rw [Hn.out]; exact hlt)
      obtain ⟨b, off, a', cap', rfl, r0, r1, -, -⟩ := hs.at hl1
      have hlt' : (k : Int) < (n : Int) := by omega
      have Hl : Hid (ls[k]? = some l) := hl1
      clear hs hl1
      cases h0 : (no != 0)
      · go_wp2
        exact ⟨⟨k + 1, by omega, by go_num, hK, fun j s hj hs => rfl⟩, by simp only [intOf]; omega⟩
      · cases hq : (l.owner == no)
        · go_wp2
          exact ⟨⟨k + 1, by omega, by go_num, hK, fun j s hj hs => by
            by_cases e : j = k
            · subst e; rw [Hl.out] at hs; cases hs; rw [hq]; simp
            · have := H.out j s (by omega) hs; rw [h0] at this; exact this⟩, by simp only [intOf]; omega⟩
        · have Hr : Hid (ownsB ls no = true) := ownsB_at Hl.out h0 hq
          go_wp2
          go_ret
          exact ⟨by rw [Hr.out]; rfl, hK⟩
    · have Hr : Hid (ownsB ls no = false) := ownsB_none fun j y hy => H.out j y (by have := lt_of_some hy; rw [Hn.out] at this; omega) hy
      go_wp2
      go_ret
      exact ⟨by rw [Hr.out]; rfl, hK⟩
end Go.Proofs.YtpikopdfkhagmaaGreatDoor
namespace Go.Proofs.YtpikopdfkhagmaaGreatDoor
open Go.RowKit
variable {p p' : Bool}
attribute [local go_sem] Keeps.refl Keeps.alloc Keeps.drew Keeps.drewN

theorem chainN_len (ls : List Lk) : ∀ (f : Nat) (no : Int), (chainN ls f no).1.length ≤ f + 1
  | 0, no => by simp [chainN]
  | f + 1, no => by
    cases h : waitIx ls no with
    | none => rw [chainN_end h]; simp
    | some i =>
      rw [chainN_step h]
      have := chainN_len ls f (ownerAt ls i)
      simp only [List.length_cons]
      omega

set_option maxRecDepth 100000 in
set_option maxHeartbeats 2000000 in
theorem specChain_any (a : Option Addr) (cap : Nat) (ls : List Lk) (no : Int) (w : World) (hl : ls.length ≤ 2097152) (hs : Lks p w a ls) :
    Calls Tryz.prog 108 #[.slice a ls.length cap, .int .i64 no] w fun e w' => ∃ v, e = .returned (.tuple #[v, .bool (chainN ls (ls.length + 1) no).2]) ∧ OwnN w' w.heap.size v (chainN ls (ls.length + 1) no).1 ∧ Keeps w w' := by
  have HS : Hid (Lks p w a ls) := hs
  clear hs
  have Hl : Hid (ls.length ≤ maxLen) := by show _ ≤ _; unfold maxLen; omega
  generalize hn : ls.length = n at hl
  have Hn : Hid (ls.length = n) := hn
  clear hn
  obtain ⟨C, HC⟩ : ∃ C, Hid (chainN ls (n + 1) no = C) := ⟨_, rfl⟩
  rw [HC.out]
  go_enter Tryz.func108, Tryz.ntmps108
  go_wp2
  have kz : Hid (Keeps w (w.alloc (.cells #[.int .i64 no] 3))) := (Keeps.refl _).alloc _
  have own0 : Hid (OwnN (w.alloc (.cells #[.int .i64 no] 3)) w.heap.size (.slice (some ⟨w.heap.size, 0, none⟩) 1 1) ([] ++ [no])) := World.ownsRow_lit w #[.int .i64 no] 1 (Nat.le_refl _) (by unfold maxLen; omega) rfl
  generalize w.alloc (.cells #[.int .i64 no] 3) = W at *
  go_loopw [1, 6, 7] (fun c v i wr => ∃ (k : Nat) (done : List Int) (cur : Int), k ≤ n + 1 ∧ i = .int .i64 k ∧ c = .int .i64 cur ∧ done.length = k ∧ Hid (OwnN wr w.heap.size v (done ++ [cur])) ∧ Keeps w wr ∧ Hid (C = (done ++ (chainN ls (n + 1 - k) cur).1, (chainN ls (n + 1 - k) cur).2))) (fun _ _ i _ => n + 1 - (intOf i).toNat)
  case atStart => exact ⟨0, [], no, Nat.zero_le _, rfl, rfl, rfl, own0, kz.out, by show _ = _; rw [← HC.out]; simp⟩
  case round =>
    obtain ⟨k, done, cur, hk, rfl, rfl, hd, own, hK, HI⟩ := hrel
    clear own0 kz
    by_cases hlt : k ≤ n
    · have hlt' : (k : Int) ≤ (n : Int) := by omega
      obtain ⟨f, Hf⟩ : ∃ f, Hid (n + 1 - k = f + 1) := ⟨n - k, by show _ = _; omega⟩
      have HI2 : Hid (C = (done ++ (chainN ls (f + 1) cur).1, (chainN ls (f + 1) cur).2)) := by show _ = _; rw [← Hf.out]; exact HI.out
      cases hx : waitIx ls cur with
      | none =>
        have Hw : Hid (waitAt ls cur = -1) := by show _ = _; unfold waitAt; rw [hx]
        have HR : Hid (C = (done ++ [cur], true)) := by show _ = _; rw [HI2.out, chainN_end hx]
        go_wp2_with (go_at_call 74; refine (by have := specWaitAt_any a cap ls cur wr Hl.out (HS.out.keeps hK); rw [Hn.out, Hw.out] at this; exact this : Calls Tryz.prog 74 #[.slice a n cap, .int .i64 cur] wr fun e w' => e = .returned (.int .i64 (-1)) ∧ Keeps wr w').mono ?_; rintro e w1 ⟨rfl, k1⟩)
        go_ret2
        exact ⟨_, by rw [HR.out]; rfl, by rw [HR.out]; exact own.out.keeps k1, hK.trans k1⟩
      | some i =>
        obtain ⟨l, hl1, -, -⟩ := waitIx_some hx
        have Hw : Hid (waitAt ls cur = (i : Int)) := by show _ = _; unfold waitAt; rw [hx]
        have Hi : Hid (i < n) := by show _ < _; have := lt_of_some hl1; rw [Hn.out] at this; exact this
        have hi1 : (i : Int) < (n : Int) := by have := Hi.out; omega
        obtain ⟨b, off, a', cap', rfl, r0, r1, -, -⟩ := HS.out.at hl1
        have HR : Hid (C = ((done ++ [cur]) ++ (chainN ls f l.owner).1, (chainN ls f l.owner).2)) := by
          show _ = _
          rw [HI2.out, chainN_step hx, ownerAt_of hl1]
          simp
        clear hl1 r1
        go_wp2_with (first
          | (go_at_call 74; refine (by have := specWaitAt_any (some ⟨b, off, none⟩) cap ls cur wr Hl.out (HS.out.keeps hK); rw [Hn.out, Hw.out] at this; exact this : Calls Tryz.prog 74 #[.slice (some ⟨b, off, none⟩) n cap, .int .i64 cur] wr fun e w' => e = .returned (.int .i64 (i : Int)) ∧ Keeps wr w').mono ?_; rintro e w1 ⟨rfl, k1⟩; have kk : Keeps w w1 := hK.trans k1)
          | (at_builtin; (refine wpList_push rfl _ _ 41 rfl w 3 (.int .i64 0) 1 8 ic Tryz.underlying41 (by kernel_rfl) rfl (by decide) ic_size ic_one _ (done ++ [cur]) rfl w1 (own.out.keeps k1) kk ((Keeps.refl _).alloc _) l.owner _ 1 (Blk.new _ _ _) rfl ?c1 ?c2 ?_)))
        case c1 => simp only [List.length_append, List.length_singleton]; unfold maxLen; omega
        case c2 => simp only [List.length_append, List.length_singleton]; omega
        intro v' w5 own5 k5 _
        have HO : Hid (OwnN w5 w.heap.size v' (done ++ [cur] ++ [l.owner])) := by show OwnN _ _ _ _; simpa using own5
        clear own5 own
        go_wp2
        refine ⟨⟨k + 1, done ++ [cur], l.owner, by omega, by go_num, rfl, by simp [hd], HO, k5, ?_⟩, by simp only [intOf]; omega⟩
        show _ = _
        rw [HR.out, show n + 1 - (k + 1) = f from by have := Hf.out; omega]
    · have e : k = n + 1 := by omega
      have HR : Hid (C = (done ++ [cur], false)) := by show _ = _; rw [HI.out, e, Nat.sub_self]; rfl
      have hlt' : ((n : Int) < (k : Int)) := by omega
      go_wp2
      go_ret2
      exact ⟨_, by rw [HR.out]; rfl, by rw [HR.out]; exact own.out, hK⟩

theorem locksB_long {ls : List Lk} (h : 5 < ls.length) : locksB ls = false := by
  unfold locksB
  rw [decide_eq_false (by omega)]; rfl
theorem locksB_of {ls : List Lk} (h : ls.length ≤ 5) (H : ∀ (j : Nat) (l : Lk), ls[j]? = some l → lockB ls l = true) : locksB ls = true := by
  unfold locksB
  rw [decide_eq_true h, Bool.true_and, List.all_eq_true]
  intro l hl
  obtain ⟨j, hj, rfl⟩ := List.mem_iff_getElem.1 hl
  exact H j _ (List.getElem?_eq_getElem hj)
theorem locksB_at {ls : List Lk} (h : locksB ls = true) {j : Nat} {l : Lk} (hl : ls[j]? = some l) : lockB ls l = true := by
  unfold locksB at h
  simp only [Bool.and_eq_true, List.all_eq_true] at h
  exact h.2 l (List.mem_of_getElem? hl)
theorem locksB_no {ls : List Lk} {j : Nat} {l : Lk} (hl : ls[j]? = some l) (h : lockB ls l = false) : locksB ls = false := by
  cases hb : locksB ls
  · rfl
  · rw [locksB_at hb hl] at h; cases h
theorem lockB_no {ls : List Lk} {l : Lk} {j : Nat} {x : Int} (hx : l.waits[j]? = some x) (h : waiterB ls x = false) : lockB ls l = false := by
  unfold lockB
  have : l.waits.all (waiterB ls) = false := by
    rw [List.all_eq_false]
    exact ⟨x, List.mem_of_getElem? hx, by rw [h]; simp⟩
  rw [this]; simp
theorem lockB_of {ls : List Lk} {l : Lk} (h0 : inB l.owner 0 1000 = true) (h1 : (l.owner == 0 && decide (0 < l.waits.length)) = false) (H : ∀ (j : Nat) (x : Int), l.waits[j]? = some x → waiterB ls x = true) : lockB ls l = true := by
  unfold lockB
  rw [h0, h1, Bool.true_and, Bool.not_false, Bool.true_and, List.all_eq_true]
  intro x hx
  obtain ⟨j, hj, rfl⟩ := List.mem_iff_getElem.1 hx
  exact H j _ (List.getElem?_eq_getElem hj)

set_option maxRecDepth 100000 in
set_option maxHeartbeats 4000000 in
theorem specLocksOk_any (a : Option Addr) (cap : Nat) (ls : List Lk) (w : World) (hl : sizeN ls ≤ 2097152) (hs : Lks p w a ls) :
    Calls Tryz.prog 86 #[.slice a ls.length cap] w fun e w' => e = .returned (.bool (locksB ls)) ∧ Keeps w w' := by
  have HL : Hid (sizeN ls ≤ 2097152) := hl
  have hl0 : ls.length ≤ 2097152 := by unfold sizeN at hl; omega
  clear hl
  have HS : Hid (Lks p w a ls) := hs
  clear hs
  generalize hn : ls.length = n at hl0
  have Hn : Hid (ls.length = n) := hn
  clear hn
  by_cases h5 : 5 < n
  · have h5' : (5 : Int) < (n : Int) := by omega
    have Hr : Hid (locksB ls = false) := locksB_long (by rw [Hn.out]; exact h5)
    go_enter Tryz.func86, Tryz.ntmps86
    go_wp2
    go_ret
    exact ⟨by rw [Hr.out]; rfl, Keeps.refl _⟩
  have h5' : (n : Int) ≤ (5 : Int) := by omega
  go_enter Tryz.func86, Tryz.ntmps86
  go_wp2
  go_loopw [3] (fun i wr => ∃ k : Nat, k ≤ n ∧ i = .int .i64 k ∧ Keeps w wr ∧ Hid (∀ (j : Nat) (l : Lk), j < k → ls[j]? = some l → lockB ls l = true)) (fun i _ => n - (intOf i).toNat)
  case atStart => exact ⟨0, Nat.zero_le _, rfl, Keeps.refl _, fun j y hj => by omega⟩
  case round =>
    obtain ⟨k, hk, rfl, hK, H⟩ := hrel
    by_cases hlt : k < n
    · obtain ⟨l, hl1⟩ := some_in (xs := ls) (k := k) (by rw [Hn.out]; exact hlt)
      obtain ⟨b, off, a', cap', rfl, r0, r1, hle, hns⟩ := HS.out.at hl1
      have hlt' : (k : Int) < (n : Int) := by omega
      have Hl : Hid (ls[k]? = some l) := hl1
      have hw1 : Hid (l.waits.length ≤ 2097152) := by show _ ≤ _; have := sumW_mem hl1; have := HL.out; unfold sizeN at this; omega
      clear hl1 hle
      obtain ⟨m, Hm⟩ : ∃ m : Nat, Hid (l.waits.length = m) := ⟨_, rfl⟩
      have hm1 : m ≤ 2097152 := by rw [← Hm.out]; exact hw1.out
      rw [Hm.out] at r1
      cases c1 : inB l.owner 0 1000
      · have Hr : Hid (locksB ls = false) := locksB_no Hl.out (by unfold lockB; rw [c1]; rfl)
        go_wp2_with (go_at_call 29; refine (l1In_any _ _ _ _).mono ?_; rintro e w' ⟨rfl, hw'⟩; have hw2 := hw'.symm; subst hw2)
        go_ret
        exact ⟨by rw [Hr.out]; rfl, hK⟩
      have key : (l.owner == 0 && decide (0 < m)) = true ∨ (l.owner == 0 && decide (0 < m)) = false := by cases (l.owner == 0 && decide (0 < m)) <;> simp
      rcases key with c2 | c2
      · have Hr : Hid (locksB ls = false) := locksB_no Hl.out (by unfold lockB; rw [Hm.out, c2]; simp)
        obtain ⟨c3, c4⟩ := Bool.and_eq_true_iff.1 c2
        have c5 : (0 : Int) < (m : Int) := by simpa using c4
        go_wp2_with (go_at_call 29; refine (l1In_any _ _ _ _).mono ?_; rintro e w' ⟨rfl, hw'⟩; have hw2 := hw'.symm; subst hw2)
        go_ret
        exact ⟨by rw [Hr.out]; rfl, hK⟩
      · have C2 : Hid ((l.owner == 0 && decide (0 < l.waits.length)) = false) := by show _ = _; rw [Hm.out]; exact c2
        have C1 : Hid (inB l.owner 0 1000 = true) := c1
        have toInner : (l.owner == 0) = false ∨ ((l.owner == 0) = true ∧ decide (0 < m) = false) := by
          cases h : (l.owner == 0)
          · exact .inl rfl
          · rw [h, Bool.true_and] at c2
            exact .inr ⟨rfl, c2⟩
        clear c2
        rcases toInner with c3 | ⟨c3, c4'⟩
        · go_wp2_with (go_at_call 29; refine (l1In_any _ _ _ _).mono ?_; rintro e w' ⟨rfl, hw'⟩; have hw2 := hw'.symm; subst hw2)
          go_loopw [4] (fun i wr => ∃ j : Nat, j ≤ m ∧ i = .int .i64 j ∧ Keeps w wr ∧ Hid (∀ (t : Nat) (x : Int), t < j → l.waits[t]? = some x → waiterB ls x = true)) (fun i _ => m - (intOf i).toNat)
          case atStart => exact ⟨0, Nat.zero_le _, rfl, hK, fun j y hj => by omega⟩
          case round =>
            obtain ⟨j, hj, rfl, hK2, HW⟩ := hrel
            by_cases hlt2 : j < m
            · obtain ⟨x, hx⟩ := some_in (xs := l.waits) (k := j) (by rw [Hm.out]; exact hlt2)
              obtain ⟨b2, off2, rfl, x0⟩ := hns.at hx
              have hlt3 : (j : Int) < (m : Int) := by omega
              have Hx : Hid (l.waits[j]? = some x) := hx
              obtain ⟨q, Hq⟩ : ∃ q : Nat, Hid (waitsN ls x = q) := ⟨_, rfl⟩
              obtain ⟨g, Hg⟩ : ∃ g : Bool, Hid ((chainN ls (n + 1) x).2 = g) := ⟨_, rfl⟩
              have CH : Hid (∀ w', Keeps w w' → Calls Tryz.prog 108 #[.slice (some ⟨b, off, none⟩) n cap, .int .i64 x] w' fun e w'' => ∃ v, e = .returned (.tuple #[v, .bool g]) ∧ Keeps w' w'') := by
                intro w' h
                have := specChain_any (some ⟨b, off, none⟩) cap ls x w' (by rw [Hn.out]; exact hl0) (HS.out.keeps h)
                rw [Hn.out, Hg.out] at this
                exact this.mono fun e w'' ⟨v, h1, _, h2⟩ => ⟨v, h1, h2⟩
              have WS : Hid (∀ w', Keeps w w' → Calls Tryz.prog 109 #[.slice (some ⟨b, off, none⟩) n cap, .int .i64 x] w' fun e w'' => e = .returned (.int .i64 (q : Int)) ∧ Keeps w' w'') := by
                intro w' h
                have := specWaits_any (some ⟨b, off, none⟩) cap ls x w' HL.out (HS.out.keeps h)
                rw [Hn.out, Hq.out] at this
                exact this
              have HB : Hid (waiterB ls x = (g && (inB x 1 1000 && q == 1))) := by show _ = _; unfold waiterB; rw [Hn.out, Hg.out, Hq.out]
              clear hns hx
              cases c4 : inB x 1 1000
              · have Hr : Hid (locksB ls = false) := locksB_no Hl.out (lockB_no Hx.out (by rw [HB.out, c4]; simp))
                go_wp2_with (first
                  | (go_at_call 29; refine (l1In_any _ _ _ _).mono ?_; rintro e w' ⟨rfl, hw'⟩; have hw2 := hw'.symm; subst hw2)
                  | (go_at_call 108; refine (CH.out _ hK2).mono ?_; rintro e w1 ⟨v1, rfl, k1⟩; have kk1 : Keeps w w1 := hK2.trans k1)
                  | (go_at_call 109; refine (WS.out _ kk1).mono ?_; rintro e w2 ⟨rfl, k2⟩; have kk2 : Keeps w w2 := kk1.trans k2))
                go_ret
                exact ⟨by rw [Hr.out]; rfl, kk1⟩
              · cases c5 : ((q : Int) != 1)
                · have hq1 : (q == 1) = true := by simp at c5; simp; omega
                  cases c6 : g
                  · have Hr : Hid (locksB ls = false) := locksB_no Hl.out (lockB_no Hx.out (by rw [HB.out, c6]; simp))
                    rw [c6] at CH
                    go_wp2_with (first
                      | (go_at_call 29; refine (l1In_any _ _ _ _).mono ?_; rintro e w' ⟨rfl, hw'⟩; have hw2 := hw'.symm; subst hw2)
                      | (go_at_call 108; refine (CH.out _ hK2).mono ?_; rintro e w1 ⟨v1, rfl, k1⟩; have kk1 : Keeps w w1 := hK2.trans k1)
                      | (go_at_call 109; refine (WS.out _ kk1).mono ?_; rintro e w2 ⟨rfl, k2⟩; have kk2 : Keeps w w2 := kk1.trans k2))
                    go_ret
                    exact ⟨by rw [Hr.out]; rfl, kk2⟩
                  · have Hr : Hid (waiterB ls x = true) := by show _ = _; rw [HB.out, c6, c4, hq1]; rfl
                    rw [c6] at CH
                    go_wp2_with (first
                      | (go_at_call 29; refine (l1In_any _ _ _ _).mono ?_; rintro e w' ⟨rfl, hw'⟩; have hw2 := hw'.symm; subst hw2)
                      | (go_at_call 108; refine (CH.out _ hK2).mono ?_; rintro e w1 ⟨v1, rfl, k1⟩; have kk1 : Keeps w w1 := hK2.trans k1)
                      | (go_at_call 109; refine (WS.out _ kk1).mono ?_; rintro e w2 ⟨rfl, k2⟩; have kk2 : Keeps w w2 := kk1.trans k2))
                    exact ⟨⟨j + 1, by omega, by go_num, kk2, fun t y ht hy => by
                      by_cases e : t = j
                      · subst e; rw [Hx.out] at hy; cases hy; exact Hr.out
                      · exact HW.out t y (by omega) hy⟩, by simp only [intOf]; omega⟩
                · have hq1 : (q == 1) = false := by simp at c5; simp; omega
                  have Hr : Hid (locksB ls = false) := locksB_no Hl.out (lockB_no Hx.out (by rw [HB.out, hq1]; simp))
                  go_wp2_with (first
                    | (go_at_call 29; refine (l1In_any _ _ _ _).mono ?_; rintro e w' ⟨rfl, hw'⟩; have hw2 := hw'.symm; subst hw2)
                    | (go_at_call 108; refine (CH.out _ hK2).mono ?_; rintro e w1 ⟨v1, rfl, k1⟩; have kk1 : Keeps w w1 := hK2.trans k1)
                    | (go_at_call 109; refine (WS.out _ kk1).mono ?_; rintro e w2 ⟨rfl, k2⟩; have kk2 : Keeps w w2 := kk1.trans k2))
                  go_ret
                  exact ⟨by rw [Hr.out]; rfl, kk2⟩
            · have e : j = m := by omega
              subst e
              have Hk : Hid (lockB ls l = true) := lockB_of C1.out C2.out fun t x hx => HW.out t x (by have := lt_of_some hx; rw [Hm.out] at this; exact this) hx
              go_wp2
              exact ⟨⟨k + 1, by omega, by go_num, hK2, fun t y ht hy => by
                by_cases e : t = k
                · subst e; rw [Hl.out] at hy; cases hy; exact Hk.out
                · exact H.out t y (by omega) hy⟩, by simp only [intOf]; omega⟩
        · go_wp2_with (go_at_call 29; refine (l1In_any _ _ _ _).mono ?_; rintro e w' ⟨rfl, hw'⟩; have hw2 := hw'.symm; subst hw2)
          go_loopw [4] (fun i wr => ∃ j : Nat, j ≤ m ∧ i = .int .i64 j ∧ Keeps w wr ∧ Hid (∀ (t : Nat) (x : Int), t < j → l.waits[t]? = some x → waiterB ls x = true)) (fun i _ => m - (intOf i).toNat)
          case atStart => exact ⟨0, Nat.zero_le _, rfl, hK, fun j y hj => by omega⟩
          case round =>
            obtain ⟨j, hj, rfl, hK2, HW⟩ := hrel
            by_cases hlt2 : j < m
            · obtain ⟨x, hx⟩ := some_in (xs := l.waits) (k := j) (by rw [Hm.out]; exact hlt2)
              obtain ⟨b2, off2, rfl, x0⟩ := hns.at hx
              have hlt3 : (j : Int) < (m : Int) := by omega
              have Hx : Hid (l.waits[j]? = some x) := hx
              obtain ⟨q, Hq⟩ : ∃ q : Nat, Hid (waitsN ls x = q) := ⟨_, rfl⟩
              obtain ⟨g, Hg⟩ : ∃ g : Bool, Hid ((chainN ls (n + 1) x).2 = g) := ⟨_, rfl⟩
              have CH : Hid (∀ w', Keeps w w' → Calls Tryz.prog 108 #[.slice (some ⟨b, off, none⟩) n cap, .int .i64 x] w' fun e w'' => ∃ v, e = .returned (.tuple #[v, .bool g]) ∧ Keeps w' w'') := by
                intro w' h
                have := specChain_any (some ⟨b, off, none⟩) cap ls x w' (by rw [Hn.out]; exact hl0) (HS.out.keeps h)
                rw [Hn.out, Hg.out] at this
                exact this.mono fun e w'' ⟨v, h1, _, h2⟩ => ⟨v, h1, h2⟩
              have WS : Hid (∀ w', Keeps w w' → Calls Tryz.prog 109 #[.slice (some ⟨b, off, none⟩) n cap, .int .i64 x] w' fun e w'' => e = .returned (.int .i64 (q : Int)) ∧ Keeps w' w'') := by
                intro w' h
                have := specWaits_any (some ⟨b, off, none⟩) cap ls x w' HL.out (HS.out.keeps h)
                rw [Hn.out, Hq.out] at this
                exact this
              have HB : Hid (waiterB ls x = (g && (inB x 1 1000 && q == 1))) := by show _ = _; unfold waiterB; rw [Hn.out, Hg.out, Hq.out]
              clear hns hx
              cases c4 : inB x 1 1000
              · have Hr : Hid (locksB ls = false) := locksB_no Hl.out (lockB_no Hx.out (by rw [HB.out, c4]; simp))
                go_wp2_with (first
                  | (go_at_call 29; refine (l1In_any _ _ _ _).mono ?_; rintro e w' ⟨rfl, hw'⟩; have hw2 := hw'.symm; subst hw2)
                  | (go_at_call 108; refine (CH.out _ hK2).mono ?_; rintro e w1 ⟨v1, rfl, k1⟩; have kk1 : Keeps w w1 := hK2.trans k1)
                  | (go_at_call 109; refine (WS.out _ kk1).mono ?_; rintro e w2 ⟨rfl, k2⟩; have kk2 : Keeps w w2 := kk1.trans k2))
                go_ret
                exact ⟨by rw [Hr.out]; rfl, kk1⟩
              · cases c5 : ((q : Int) != 1)
                · have hq1 : (q == 1) = true := by simp at c5; simp; omega
                  cases c6 : g
                  · have Hr : Hid (locksB ls = false) := locksB_no Hl.out (lockB_no Hx.out (by rw [HB.out, c6]; simp))
                    rw [c6] at CH
                    go_wp2_with (first
                      | (go_at_call 29; refine (l1In_any _ _ _ _).mono ?_; rintro e w' ⟨rfl, hw'⟩; have hw2 := hw'.symm; subst hw2)
                      | (go_at_call 108; refine (CH.out _ hK2).mono ?_; rintro e w1 ⟨v1, rfl, k1⟩; have kk1 : Keeps w w1 := hK2.trans k1)
                      | (go_at_call 109; refine (WS.out _ kk1).mono ?_; rintro e w2 ⟨rfl, k2⟩; have kk2 : Keeps w w2 := kk1.trans k2))
                    go_ret
                    exact ⟨by rw [Hr.out]; rfl, kk2⟩
                  · have Hr : Hid (waiterB ls x = true) := by show _ = _; rw [HB.out, c6, c4, hq1]; rfl
                    rw [c6] at CH
                    go_wp2_with (first
                      | (go_at_call 29; refine (l1In_any _ _ _ _).mono ?_; rintro e w' ⟨rfl, hw'⟩; have hw2 := hw'.symm; subst hw2)
                      | (go_at_call 108; refine (CH.out _ hK2).mono ?_; rintro e w1 ⟨v1, rfl, k1⟩; have kk1 : Keeps w w1 := hK2.trans k1)
                      | (go_at_call 109; refine (WS.out _ kk1).mono ?_; rintro e w2 ⟨rfl, k2⟩; have kk2 : Keeps w w2 := kk1.trans k2))
                    exact ⟨⟨j + 1, by omega, by go_num, kk2, fun t y ht hy => by
                      by_cases e : t = j
                      · subst e; rw [Hx.out] at hy; cases hy; exact Hr.out
                      · exact HW.out t y (by omega) hy⟩, by simp only [intOf]; omega⟩
                · have hq1 : (q == 1) = false := by simp at c5; simp; omega
                  have Hr : Hid (locksB ls = false) := locksB_no Hl.out (lockB_no Hx.out (by rw [HB.out, hq1]; simp))
                  go_wp2_with (first
                    | (go_at_call 29; refine (l1In_any _ _ _ _).mono ?_; rintro e w' ⟨rfl, hw'⟩; have hw2 := hw'.symm; subst hw2)
                    | (go_at_call 108; refine (CH.out _ hK2).mono ?_; rintro e w1 ⟨v1, rfl, k1⟩; have kk1 : Keeps w w1 := hK2.trans k1)
                    | (go_at_call 109; refine (WS.out _ kk1).mono ?_; rintro e w2 ⟨rfl, k2⟩; have kk2 : Keeps w w2 := kk1.trans k2))
                  go_ret
                  exact ⟨by rw [Hr.out]; rfl, kk2⟩
            · have e : j = m := by omega
              subst e
              have Hk : Hid (lockB ls l = true) := lockB_of C1.out C2.out fun t x hx => HW.out t x (by have := lt_of_some hx; rw [Hm.out] at this; exact this) hx
              go_wp2
              exact ⟨⟨k + 1, by omega, by go_num, hK2, fun t y ht hy => by
                by_cases e : t = k
                · subst e; rw [Hl.out] at hy; cases hy; exact Hk.out
                · exact H.out t y (by omega) hy⟩, by simp only [intOf]; omega⟩
    · have e : k = n := by omega
      subst e
      have Hr : Hid (locksB ls = true) := locksB_of (by rw [Hn.out]; omega) fun j l hl => H.out j l (by have := lt_of_some hl; rw [Hn.out] at this; exact this) hl
      go_wp2
      go_ret
      exact ⟨by rw [Hr.out]; rfl, hK⟩
end Go.Proofs.YtpikopdfkhagmaaGreatDoor
