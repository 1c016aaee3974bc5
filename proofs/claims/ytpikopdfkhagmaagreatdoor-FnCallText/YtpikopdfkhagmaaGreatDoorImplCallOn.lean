/-
  The program's callOn: the call on a line, or a panic.
  The program's CallParse: a panic on the way is recovered.
  The law FnCallText: its walk.
-/
import Derived.Test.YtpikopdfkhagmaaGreatDoorImplParse
import Derived.Test.YtpikopdfkhagmaaGreatDoorDeskParse
import Derived.Test.YtpikopdfkhagmaaGreatDoorCur
import Derived.Test.YtpikopdfkhagmaaGreatDoorLate2
import Derived.Deep.RegionHeld3
import Derived.Defers
import Derived.Recover
import Derived.Test.YtpikopdfkhagmaaGreatDoorLineDraw1
import Derived.Test.YtpikopdfkhagmaaGreatDoorDeskNum
namespace Go.Proofs.YtpikopdfkhagmaaGreatDoor
open Go.RowKit
attribute [local go_sem] Keeps.refl Keeps.alloc Keeps.drew Keeps.drewN

set_option maxRecDepth 100000 in
set_option maxHeartbeats 2000000 in
theorem implIndex_any (b n cap k : Nat) (x : List UInt8) (f : Nat → List UInt8) (w : World) (hc : ∀ j, j < n → w.cell? ⟨b, j, none⟩ = some (strV (f j))) (hk : k < n) (hn : n ≤ 1048576) (he : (x == f k) = true) (hne : ∀ j, j < k → (x == f j) = false) :
    Calls Tryz.prog 54 #[.slice (some ⟨b, 0, none⟩) n cap, strV x] w fun e w' => e = .returned (.int .i64 k) ∧ w' = w := by
  have HC : Hid (∀ j, j < n → w.cell? ⟨b, j, none⟩ = some (strV (f j))) := hc
  have HE : Hid ((x == f k) = true) := he
  have HN : Hid (∀ j, j < k → (x == f j) = false) := hne
  clear hc he hne
  go_enter Tryz.func54, Tryz.ntmps54
  go_wp2
  go_loopw [8] (fun i wr => ∃ j : Nat, j ≤ k ∧ i = .int .i64 j ∧ wr = w) (fun i _ => n - (intOf i).toNat)
  case atStart => exact ⟨0, Nat.zero_le _, rfl, rfl⟩
  case round =>
    obtain ⟨j, hj, rfl, rfl⟩ := hrel
    have hlt' : (j : Int) < (n : Int) := by omega
    have h1 := HC.out j (by omega)
    by_cases e : j = k
    · subst e
      have h2 := HE.out
      generalize f j = y at h1 h2
      go_wp2
      go_ret
      exact ⟨rfl, rfl⟩
    · have h2 := HN.out j (by omega)
      generalize f j = y at h1 h2
      go_wp2
      exact ⟨⟨j + 1, by omega, by go_num, trivial⟩, by simp only [intOf]; omega⟩
theorem words_apart (k : Nat) (h1 : 1 ≤ k) (h2 : k ≤ 11) : (wordL (k : Int) == wordL ((k : Nat) : Int)) = true ∧ ∀ j : Nat, j < k → (wordL (k : Int) == wordL (j : Int)) = false := by
  refine ⟨by simp, fun j hj => ?_⟩
  have h3 : k = 1 ∨ k = 2 ∨ k = 3 ∨ k = 4 ∨ k = 5 ∨ k = 6 ∨ k = 7 ∨ k = 8 ∨ k = 9 ∨ k = 10 ∨ k = 11 := by omega
  have h4 : j = 0 ∨ j = 1 ∨ j = 2 ∨ j = 3 ∨ j = 4 ∨ j = 5 ∨ j = 6 ∨ j = 7 ∨ j = 8 ∨ j = 9 ∨ j = 10 := by omega
  rcases h3 with rfl | rfl | rfl | rfl | rfl | rfl | rfl | rfl | rfl | rfl | rfl <;> rcases h4 with rfl | rfl | rfl | rfl | rfl | rfl | rfl | rfl | rfl | rfl | rfl <;> first | (exfalso; omega) | rfl
theorem numSays_fell {s : List UInt8} {e : Ending} (h : NumSays s e) (hn : numO s = none) : Fell e := by
  rcases h with ⟨v, hv, _⟩ | ⟨_, h⟩
  · rw [hn] at hv
    cases hv
  · exact h
theorem numSays_val {s : List UInt8} {e : Ending} {v : Int} (h : NumSays s e) (hn : numO s = some v) : e = .returned (.int .i64 v) := by
  rcases h with ⟨v', hv, h⟩ | ⟨hv, _⟩
  · rw [hn] at hv
    cases hv
    exact h
  · rw [hn] at hv
    cases hv
/-- What is told of a line: its call, or a panic where it is none. -/
def OnSays (l : List UInt8) (e : Ending) : Prop := (∃ c, parseO l = some c ∧ e = .returned (ck c)) ∨ (parseO l = none ∧ Fell e)
theorem none_of {l : List UInt8} (h : ∀ c, parseO l = some c → False) : parseO l = none := by
  cases e : parseO l with
  | none => rfl
  | some c => exact (h c e).elim
set_option maxRecDepth 100000 in
set_option maxHeartbeats 8000000 in
theorem implCallOn_any (l : List UInt8) (w : World) (hg : GlobT w) (hgl : GlobL w) (hl : l.length ≤ 1048576) :
    Calls Tryz.prog 33 #[strV l] w fun e w' => OnSays l e ∧ Keeps w w' := by
  obtain ⟨w0, ws, hws⟩ := split_some l []
  have HW : Hid (wordsF l = w0 :: ws) := hws
  have HLw : Hid (∀ x ∈ w0 :: ws, x.length ≤ 1048576) := fun x hx => by
    have := split_long l [] x (by rw [hws]; exact hx)
    simp at this
    omega
  have hcnt : ws.length ≤ 1048576 := by
    have := split_count l []
    rw [hws] at this
    simp at this
    omega
  clear hws
  have HG : Hid (GlobT w) := hg
  have HGL : Hid (GlobL w) := hgl
  clear hg hgl
  have kW := blkK w (.cells zcc 25)
  have B0 : Hid (Blk (w.alloc (.cells zcc 25)) w.heap.size zcc) := Blk.new _ _ _
  go_enter Tryz.func33, Tryz.ntmps33
  go_wp2_with fail
  change Calls _ _ _ (w.alloc (.cells zcc 25)) _
  generalize w.alloc (.cells zcc 25) = W at *
  refine (implCutAt_any l W hl).mono ?_
  rintro e w1 ⟨u, rfl, o1, k1⟩
  rw [HW.out] at o1
  obtain ⟨m, Hm⟩ : ∃ m, Hid (ws.length = m) := ⟨_, rfl⟩
  obtain ⟨ub, uc, eu⟩ := o1.blk (by simp)
  rw [show (w0 :: ws).length = m + 1 from by rw [List.length_cons, Hm.out]] at eu
  subst eu
  have hm : m ≤ 1048576 := by rw [← Hm.out]; exact hcnt
  have O1 : Hid (Own 9 1 sc w1 W.heap.size (.slice (some ⟨ub, 0, none⟩) (m + 1) uc) (w0 :: ws)) := o1
  have hub : ub < w1.heap.size := (World.ownsRow.lt o1 ub rfl).2
  have T0 : Hid (∀ w', Keeps w1 w' → w'.cell? ⟨ub, 0, none⟩ = some (strV w0)) := by
    obtain ⟨b', e2, h⟩ := rowText o1 (k := 0) (x := w0) rfl
    obtain rfl : ub = b' := by simpa using e2
    exact h
  clear o1 hcnt
  have kX := blkK w1 (.cells zcc 25)
  have B1 : Hid (Blk (w1.alloc (.cells zcc 25)) w1.heap.size zcc) := Blk.new _ _ _
  have K1 : Hid (Keeps W w1) := k1
  clear k1
  have hm0 : (0 : Int) < (m : Int) + 1 := by omega
  go_upto_region 3 with fail
  change Code.wp _ _ _ _ (w1.alloc (.cells zcc 25))
  have hcb0 : w.heap.size ≤ w1.heap.size := (kW.trans K1.out).size
  have HWc0 : W.heap.size ≤ w1.heap.size := K1.out.size
  generalize hXd : w1.alloc (.cells zcc 25) = X at *
  have HXs : Hid (X.heap.size = w1.heap.size + 1) := by show _ = _; rw [← hXd]; simp
  clear hXd
  obtain ⟨cb, Hcb⟩ : ∃ cb, Hid (w1.heap.size = cb) := ⟨_, rfl⟩
  rw [Hcb.out] at B1 hub HXs hcb0 HWc0 ⊢
  have HWc : Hid (W.heap.size ≤ cb) := HWc0
  clear HWc0
  have t0 := T0.out X kX
  have KX : Hid (Keeps w X) := (kW.trans K1.out).trans kX
  by_cases hex : ∃ k ∈ kindsL, (w0 == wordL k) = true
  rotate_left
  · have HR : Hid (parseO l = none) := none_of fun c hc => by
      obtain ⟨e1, e2, -⟩ := line_known HW.out hc
      refine hex ⟨c.kind, ?_, by rw [e1]; simp⟩
      have h2 : c.kind = 1 ∨ c.kind = 2 ∨ c.kind = 3 ∨ c.kind = 4 ∨ c.kind = 5 ∨ c.kind = 6 ∨ c.kind = 7 ∨ c.kind = 8 ∨ c.kind = 9 ∨ c.kind = 10 ∨ c.kind = 11 := by omega
      unfold kindsL
      simp only [List.mem_cons, List.not_mem_nil, or_false]
      exact h2
    have cN := implNums_no w0 (fun k hk => by
      cases e : (w0 == wordL k)
      · rfl
      · exact (hex ⟨k, hk, e⟩).elim) cb X (HGL.out.keeps KX.out)
    go_wp2_with (go_at_call 25; refine cN.mono ?_; rintro e w2 ⟨⟨tp, pa, rfl⟩, k2⟩)
    exact ⟨rfl, .inr ⟨HR.out, tp, pa, rfl⟩, KX.out.trans k2⟩
  obtain ⟨k, Hk1, Hk2, HWk⟩ : ∃ k : Nat, 1 ≤ k ∧ k ≤ 11 ∧ Hid (wordL (k : Int) = w0) := by
    obtain ⟨k, hkm, hwk⟩ := hex
    have h1 : 1 ≤ k ∧ k ≤ 11 := by
      unfold kindsL at hkm
      simp only [List.mem_cons, List.not_mem_nil, or_false] at hkm
      omega
    refine ⟨k.toNat, by omega, by omega, ?_⟩
    show wordL _ = _
    rw [show ((k.toNat : Nat) : Int) = k from by omega]
    exact (beq_iff_eq.1 hwk).symm
  clear hex
  obtain ⟨n, HN⟩ : ∃ n, Hid ((placesO (k : Int)).length = n) := ⟨_, rfl⟩
  have hn4 : 1 ≤ n ∧ n ≤ 4 := by
    have h1 := numsL_length ⟨(k : Int), 0, 0, 0, 0⟩
    have h2 := places_length ⟨(k : Int), 0, 0, 0, 0⟩
    have h3 := HN.out
    simp only at h2
    omega
  have cN : Calls Tryz.prog 25 #[strV w0, .pointer (some ⟨cb, 0, none⟩)] X fun e w' => ∃ rb cap, e = .returned (.slice (some ⟨rb, 0, none⟩) n cap) ∧ (∀ i o, (placesO (k : Int))[i]? = some o → w'.cell? ⟨rb, i, none⟩ = some (.pointer (some ⟨cb, o, none⟩))) ∧ Keeps X w' := by
    have h := implNums_any (k : Int) (by omega) cb X
    rw [HWk.out, HN.out] at h
    exact h
  go_upto_region 4 with (go_at_call 25; refine cN.mono ?_; rintro e w2 ⟨rb, rc, rfl, hpl, k2⟩)
  have HPl : Hid (∀ i o, (placesO (k : Int))[i]? = some o → w2.cell? ⟨rb, i, none⟩ = some (.pointer (some ⟨cb, o, none⟩))) := hpl
  have B2 : Hid (Blk w2 cb zcc) := B1.out.keeps k2
  have K2 : Hid (Keeps w w2) := KX.out.trans k2
  have T2 : Hid (∀ w', Keeps w2 w' → w'.cell? ⟨ub, 0, none⟩ = some (strV w0)) := fun w' q => T0.out w' (kX.trans (k2.trans q))
  have KW2 : Hid (Keeps W w2) := (K1.out.trans kX).trans k2
  have O2 : Hid (Own 9 1 sc w2 W.heap.size (.slice (some ⟨ub, 0, none⟩) (m + 1) uc) (w0 :: ws)) := O1.out.keeps (kX.trans k2)
  have hrc : rb ≠ cb := by
    intro e
    have h1 : (placesO (k : Int))[0]? ≠ none := by
      rw [List.getElem?_eq_getElem (by have := HN.out; omega)]
      simp
    cases h2 : (placesO (k : Int))[0]? with
    | none => exact h1 h2
    | some o =>
      have h3 := hpl 0 o h2
      rw [e, B2.out.cells 0] at h3
      simp at h3
  obtain ⟨tp, pa, hgw⟩ := HGL.out
  have hgl := Keeps.has hgw w2 K2.out
  have HGw : Hid (w.cell? ⟨0, 0, none⟩ = some (.iface tp (.pointer (some pa)))) := hgw
  clear hgw
  clear cN hpl k2 kX B1 T0 O1 t0 KX
  by_cases hmn : m = n
  rotate_left
  · have HR : Hid (parseO l = none) := none_of fun c hc => by
      obtain ⟨e1, e2, e3, -⟩ := line_known HW.out hc
      have e4 : c.kind = (k : Int) := wordL_inj _ (by
        have h2 : c.kind = 1 ∨ c.kind = 2 ∨ c.kind = 3 ∨ c.kind = 4 ∨ c.kind = 5 ∨ c.kind = 6 ∨ c.kind = 7 ∨ c.kind = 8 ∨ c.kind = 9 ∨ c.kind = 10 ∨ c.kind = 11 := by omega
        unfold kindsL
        simp only [List.mem_cons, List.not_mem_nil, or_false]
        exact h2) _ (by
        have h2 : (k : Int) = 1 ∨ (k : Int) = 2 ∨ (k : Int) = 3 ∨ (k : Int) = 4 ∨ (k : Int) = 5 ∨ (k : Int) = 6 ∨ (k : Int) = 7 ∨ (k : Int) = 8 ∨ (k : Int) = 9 ∨ (k : Int) = 10 ∨ (k : Int) = 11 := by omega
        unfold kindsL
        simp only [List.mem_cons, List.not_mem_nil, or_false]
        exact h2) (by rw [← e1, HWk.out])
      rw [e4, HN.out, Hm.out] at e3
      exact hmn e3
    have hd : ((m : Int) + 1 != 1 + (n : Int)) = true := by simp; omega
    go_wp2
    exact ⟨rfl, .inr ⟨HR.out, tp, pa, rfl⟩, K2.out⟩
  subst hmn
  have hd : ((m : Int) + 1 != 1 + (m : Int)) = false := by simp; omega
  go_upto_region 6 with fail
  have t2 := T2.out
  have hap := words_apart k Hk1 Hk2
  have HAp : Hid ((w0 == wordL (k : Int)) = true ∧ ∀ j : Nat, j < k → (w0 == wordL (j : Int)) = false) := by rw [← HWk.out]; exact hap
  clear hap
  refine wp_region_late 6 (S := (fun w' => Keeps w2 w')) (by kernel_rfl) ?_ (fun hHeld => ?_)
  · exact (Keeps.refl w2).drew
  refine Plan.go [1, 2, 3] ?_
  iterate 3 (refine lateL (by simp only [opsAt]; rfl) (by kernel_rfl) (by exact fun _ _ _ h => h) (by rfl) (by assumption) (fun w _ => by go_simp; try (with_reducible rfl)) ?_; try simp only [putAtH])
  refine Plan.nil ?_
  refine late_step (i := 0) (by kernel_rfl) (by simp only [List.getElem?_toArray, List.getElem?_cons_zero]; rfl) (fun K hK => ?_)
  go_simp
  first
    | (go_at_call 24; refine (implCallWords_any _).mono ?_; rintro e w3 ⟨wb, rfl, h3, k3⟩)
    | (go_at_call 54; refine (implIndex_any wb 12 12 k w0 (fun j => wordL (j : Int)) w3 h3 (by omega) (by omega) HAp.out.1 HAp.out.2).mono ?_; rintro e w' ⟨rfl, hw'⟩; have hw2 := hw'.symm; subst hw2; clear hw')
  try go_wp2_with fail
  refine hK.out _ _ ?_ (fun hHeld => ?_)
  · first | assumption | exact Keeps.trans (by assumption) (by assumption)
  clear hK K
  try simp only [putAtH]
  refine late_step (i := 4) (by kernel_rfl) (by simp only [List.getElem?_toArray, List.getElem?_cons_succ, List.getElem?_cons_zero]; rfl) (fun K hK => ?_)
  go_simp
  first
    | (go_at_call 24; refine (implCallWords_any _).mono ?_; rintro e w3 ⟨wb, rfl, h3, k3⟩)
    | (go_at_call 54; refine (implIndex_any wb 12 12 k w0 (fun j => wordL (j : Int)) w3 h3 (by omega) (by omega) HAp.out.1 HAp.out.2).mono ?_; rintro e w' ⟨rfl, hw'⟩; have hw2 := hw'.symm; subst hw2; clear hw')
  try go_wp2_with fail
  refine hK.out _ _ ?_ (fun hHeld => ?_)
  · first | assumption | exact Keeps.trans (by assumption) (by assumption)
  clear hK K
  try simp only [putAtH]
  refine Plan.go [5] ?_
  iterate 1 (refine lateL (by simp only [opsAt]; rfl) (by kernel_rfl) (by exact fun _ _ _ h => h) (by rfl) (by assumption) (fun w _ => by go_simp; try (with_reducible rfl)) ?_; try simp only [putAtH])
  refine Plan.nil ?_
  refine late_last (by kernel_rfl) (by simp only [List.getElem?_toArray, List.getElem?_cons_succ, List.getElem?_cons_zero]; rfl) (by kernel_rfl) (fun K hK => ?_)
  have K3 : Keeps w2 w3 := (by assumption); have B3 := B2.out.keeps K3; obtain ⟨_, z1, z2⟩ := B3
  go_simp
  try go_wp2_with fail
  refine hK.out _ _ ?_
  clear hK K
  try simp only [putAtH]
  have K3 : Keeps w2 w3 := (by assumption)
  have BY : Hid (Blk (w3.setCell ⟨cb, 0, none⟩ (.int .i64 (k : Int))) cb (cc (ofF (k : Int) ((ws.map numV).take 0)))) := by
    have h := (B2.out.keeps K3).set 0 (by simp) (.int .i64 (k : Int))
    show Blk _ _ _
    rw [List.take_zero, fill_none]
    exact h
  have KY : Hid (KeepsBut cb w2 (w3.setCell ⟨cb, 0, none⟩ (.int .i64 (k : Int)))) := (KeepsBut.of K3).setCell 0 _
  clear z1 z2 k3 h3 hHeld t2 HAp K3
  generalize w3.setCell ⟨cb, 0, none⟩ (.int .i64 (k : Int)) = Y at *
  go_upto_region 8 with fail
  go_loopw [31] (fun i wr => ∃ j : Nat, j ≤ m ∧ i = .int .i64 j ∧ Hid (Blk wr cb (cc (ofF (k : Int) ((ws.map numV).take j)))) ∧ Hid (KeepsBut cb w2 wr)) (fun i _ => m - (intOf i).toNat)
  case atStart => exact ⟨0, Nat.zero_le _, rfl, BY, KY⟩
  case round =>
    obtain ⟨j, hj, rfl, BR, KR⟩ := hrel
    have KRw : Hid (Keeps w wr) := KR.out.keeps K2.out (by omega)
    clear BY KY
    by_cases hlt : j < m
    · have hlt' : (j : Int) < (m : Int) := by omega
      obtain ⟨s, hs⟩ := some_in (xs := ws) (k := j) (by rw [Hm.out]; exact hlt)
      obtain ⟨ub', e2, tx⟩ := rowText O2.out (k := j + 1) (x := s) (by simpa using hs)
      obtain rfl : ub = ub' := by simpa using e2
      have tx' : wr.cell? ⟨ub, j + 1, none⟩ = some (strV s) := KeepsBut.has (by omega) (tx w2 (Keeps.refl _)) wr KR.out
      obtain ⟨o, ho⟩ := some_in (xs := placesO (k : Int)) (k := j) (by rw [HN.out]; exact hlt)
      have tp' : wr.cell? ⟨rb, j, none⟩ = some (.pointer (some ⟨cb, o, none⟩)) := KeepsBut.has hrc (HPl.out j o ho) wr KR.out
      have ti : ((j : Int) + 1).toNat = j + 1 := by omega
      have cR := implNumberIn_any s wr (HGL.out.keeps KRw.out) (HLw.out s (by simp [List.mem_of_getElem? hs]))
      have ho5 : o < 5 := by
        have h2 : (k : Int) = 1 ∨ (k : Int) = 2 ∨ (k : Int) = 3 ∨ (k : Int) = 4 ∨ (k : Int) = 5 ∨ (k : Int) = 6 ∨ (k : Int) = 7 ∨ (k : Int) = 8 ∨ (k : Int) = 9 ∨ (k : Int) = 10 ∨ (k : Int) = 11 := by omega
        have h3 : o ∈ placesO (k : Int) := List.mem_of_getElem? ho
        rcases h2 with h | h | h | h | h | h | h | h | h | h | h <;> rw [h] at h3 <;> simp [placesO] at h3 <;> omega
      have hmem : s ∈ ws := List.mem_of_getElem? hs
      have hlt2 : (j : Int) + 1 < (m : Int) + 1 := by omega
      have HF : Hid (parseO l = some (ofF (k : Int) []) ∨ True) := .inr trivial
      obtain ⟨q0, hq0⟩ := cc_at (ofF (k : Int) ((ws.map numV).take j)) ho5
      have Hq0 : Hid ((cc (ofF (k : Int) ((ws.map numV).take j)))[o]? = some (Value.int .i64 q0)) := hq0
      clear e2 tx HF hq0
      cases hnv : numO s with
      | none =>
        have HR : Hid (parseO l = none) := none_of fun c hc => by
          obtain ⟨-, -, -, e4, -⟩ := line_known HW.out hc
          exact e4 s hmem hnv
        go_wp2_with (go_at_call 55; refine cR.mono ?_; rintro e w5 ⟨h5, k5⟩; obtain ⟨tp5, pa5, rfl⟩ := numSays_fell h5 hnv)
        exact ⟨rfl, .inr ⟨HR.out, tp5, pa5, rfl⟩, KRw.out.trans k5⟩
      | some v =>
        have hvs : (ws.map numV)[j]? = some v := by
          rw [List.getElem?_map, hs]
          show some (numV s) = _
          unfold numV
          rw [hnv]
          rfl
        have HFl : Hid ((cc (ofF (k : Int) ((ws.map numV).take j))).setIfInBounds o (.int .i64 v) = cc (ofF (k : Int) ((ws.map numV).take (j + 1)))) := fill_at (by omega) ho hvs
        clear ho hvs hs
        go_wp2_with (go_at_call 55; refine cR.mono ?_; rintro e w5 ⟨h5, k5⟩; obtain rfl := numSays_val h5 hnv; have z3 : w5.cell? ⟨cb, o, none⟩ = some (.int .i64 q0) := (by rw [(BR.out.keeps k5).cells o]; exact Hq0.out); have z4 : w5.frozen? ⟨cb, o, none⟩ = false := (BR.out.keeps k5).frozens o)
        exact ⟨⟨j + 1, by omega, by go_num, by
          show Blk _ _ _
          rw [← HFl.out]
          exact (BR.out.keeps k5).set o (by simpa using ho5) _, (KR.out.trans (.of k5)).setCell o _⟩, by simp only [intOf]; omega⟩
    · have hlt' : decide ((j : Int) < (m : Int)) = false := by simp; omega
      obtain ⟨C, HC⟩ : ∃ C, Hid (ofF (k : Int) (ws.map numV) = C) := ⟨_, rfl⟩
      have BC : Hid (Blk wr cb (cc C)) := by
        have h := BR.out
        rw [List.take_of_length_le (by rw [List.length_map, Hm.out]; omega), HC.out] at h
        exact h
      obtain ⟨LB, HLB⟩ : ∃ b, Hid (lineB C = b) := ⟨_, rfl⟩
      obtain ⟨LL, HLL⟩ : ∃ x : List UInt8, Hid (lineL C = x) := ⟨_, rfl⟩
      have cL : Calls Tryz.prog 7 #[ck C] wr fun e w' => e = .returned (.tuple #[strV LL, .bool LB]) ∧ Keeps wr w' := by
        have h := implCallLine_any C wr (HG.out.keeps KRw.out)
        rw [HLL.out, HLB.out] at h
        exact h
      have HPs : Hid ((LB && LL == l) = true → parseO l = some C) := fun h => by
        rw [Bool.and_eq_true] at h
        exact parse_is.2 ⟨by rw [HLB.out]; exact h.1, by rw [HLL.out]; exact beq_iff_eq.1 h.2⟩
      have HPn : Hid ((LB && LL == l) = false → parseO l = none) := fun h => none_of fun c hc => by
        obtain ⟨e1, e2, e3, e4, e5, e6, e7⟩ := line_known HW.out hc
        have ek : c.kind = (k : Int) := wordL_inj _ (by
          have h2 : c.kind = 1 ∨ c.kind = 2 ∨ c.kind = 3 ∨ c.kind = 4 ∨ c.kind = 5 ∨ c.kind = 6 ∨ c.kind = 7 ∨ c.kind = 8 ∨ c.kind = 9 ∨ c.kind = 10 ∨ c.kind = 11 := by omega
          unfold kindsL
          simp only [List.mem_cons, List.not_mem_nil, or_false]
          exact h2) _ (by
          have h2 : (k : Int) = 1 ∨ (k : Int) = 2 ∨ (k : Int) = 3 ∨ (k : Int) = 4 ∨ (k : Int) = 5 ∨ (k : Int) = 6 ∨ (k : Int) = 7 ∨ (k : Int) = 8 ∨ (k : Int) = 9 ∨ (k : Int) = 10 ∨ (k : Int) = 11 := by omega
          unfold kindsL
          simp only [List.mem_cons, List.not_mem_nil, or_false]
          exact h2) (by rw [← e1, HWk.out])
        rw [ek, HC.out] at e5
        rw [← HLB.out, ← HLL.out, e5, e6, e7] at h
        simp at h
      have hne := run_strNe LL l
      have tb := BC.out.cells
      have hglr : ∀ w', Keeps wr w' → w'.cell? ⟨0, 0, none⟩ = some (.iface tp (.pointer (some pa))) := fun w' q => Keeps.has HGw.out w' (KRw.out.trans q)
      clear BR
      cases LB
      · have HR : Hid (parseO l = none) := HPn.out rfl
        go_wp2_with (go_at_call 7; refine cL.mono ?_; rintro e w8 ⟨rfl, k8⟩; have hg8 := hglr w8 k8)
        exact ⟨rfl, .inr ⟨HR.out, tp, pa, rfl⟩, KRw.out.trans k8⟩
      cases e3 : (LL == l)
      · rw [e3] at hne
        have HR : Hid (parseO l = none) := HPn.out (by rw [e3]; rfl)
        go_wp2_with (go_at_call 7; refine cL.mono ?_; rintro e w8 ⟨rfl, k8⟩; have hg8 := hglr w8 k8)
        exact ⟨rfl, .inr ⟨HR.out, tp, pa, rfl⟩, KRw.out.trans k8⟩
      rw [e3] at hne
      have HR : Hid (parseO l = some C) := HPs.out (by rw [e3]; rfl)
      go_upto_region 15 with (go_at_call 7; refine cL.mono ?_; rintro e w8 ⟨rfl, k8⟩)
      have KW8 : Keeps W w8 := (KR.out.keeps KW2.out HWc.out).trans k8
      obtain ⟨E1, E2⟩ := parse_end B0.out kW KW8 C
      obtain ⟨_, z1, z2⟩ := B0.out.keeps KW8
      have tb8 := ((BC.out.keeps k8)).cells
      clear tb
      go_wp2
      change bodyPost _ _ _ _ _ (putC w8 w.heap.size 0 (cc C).toList)
      generalize putC w8 w.heap.size 0 (cc C).toList = Q at E1 E2 ⊢
      exact bodyPost_ret (v := ck C) (by simp [results, Tryz.results33, go_sem, E1.cells]) rfl ⟨.inl ⟨C, HR.out, rfl⟩, E2⟩
end Go.Proofs.YtpikopdfkhagmaaGreatDoor
namespace Go.Proofs.YtpikopdfkhagmaaGreatDoor
open Go.RowKit
attribute [local go_sem] Keeps.refl Keeps.alloc Keeps.drew Keeps.drewN

set_option maxRecDepth 100000 in
set_option linter.unusedSimpArgs false in
set_option maxHeartbeats 2000000 in
theorem catch_panicking (b bo : Nat) (hne : b ≠ bo) (u : TypeId) (pv : Value) (older : List PanicEntry) (w : World) (hb : Blk w b zcc) (ho : Blk w bo #[.bool false]) :
    CallsD Tryz.prog 32 #[.pointer (some ⟨b, 0, none⟩), .pointer (some ⟨bo, 0, none⟩)] (.panicking ({ v := .iface u pv, recovered := false } :: older)) w fun e u' w' =>
      e = .returned (.tuple #[]) ∧ u' = .panicking ({ v := .iface u pv, recovered := true } :: older) ∧ w' = (putC w b 0 zcc.toList).setCell ⟨bo, 0, none⟩ (.bool false) := by
  obtain ⟨_, z1, z2⟩ := hb
  obtain ⟨_, z3, z4⟩ := ho
  refine callsD_of_wpS Tryz.func32 rfl fun c₀ cs hu => ?_
  apply wpS_seq
  apply wpS_region
  simp [wpOpsS, go_sem, recoverD, hu, Tryz.ntmps32, Exit.thenS]
  refine wpS_cond (t := true) (by simp [Act.eval, Array.replicate]) ?_
  simp only [if_true]
  apply wpS_region
  simp [wpOpsS, go_sem, z1, z2, z3, z4, hne, Ne.symm hne, bodyPostS, results, Tryz.results32]
  rfl
set_option maxRecDepth 100000 in
theorem catch_idle (p q : Addr) (w : World) :
    CallsD Tryz.prog 32 #[.pointer (some p), .pointer (some q)] .returning w fun e u' w' => e = .returned (.tuple #[]) ∧ u' = .returning ∧ w' = w := by
  refine callsD_of_wpS Tryz.func32 rfl fun c₀ cs hu => ?_
  apply wpS_seq
  apply wpS_region
  simp [wpOpsS, go_sem, recoverD, hu, Tryz.ntmps32, Exit.thenS]
  refine wpS_cond (t := false) (by simp [Act.eval, Array.replicate]) ?_
  simp only [Bool.false_eq_true, if_false]
  refine wpS_of_wp (wp_skip ?_)
  cases c₀
  simp_all [bodyPostS, results, Tryz.results32]
set_option maxRecDepth 100000 in
set_option maxHeartbeats 4000000 in
theorem implCallParse_any (l : List UInt8) (w : World) (hg : GlobT w) (hgl : GlobL w) (hl : l.length ≤ 1048576) :
    Calls Tryz.prog 11 #[strV l] w fun e w' => e = .returned (.tuple #[ck (parseC l), .bool (parseB l)]) ∧ Keeps w w' := by
  have hmf : ∀ (fn : Fn) (first cap : Array Value) (w : World), (Instr.makeFunc fn first cap).run Tryz.prog w = .ok (.func fn first cap) w := fun _ _ _ _ => rfl
  have kW : Keeps w ((w.alloc (.cells zcc 25)).alloc (.cells #[.bool false] 4)) := ((Keeps.refl w).alloc _).alloc _
  have cO := implCallOn_any l ((w.alloc (.cells zcc 25)).alloc (.cells #[.bool false] 4)) (hg.keeps kW) (hgl.keeps kW) hl
  have B0 : Hid (Blk ((w.alloc (.cells zcc 25)).alloc (.cells #[.bool false] 4)) w.heap.size zcc) := (Blk.new _ _ _).alloc _
  have B1 : Hid (Blk ((w.alloc (.cells zcc 25)).alloc (.cells #[.bool false] 4)) (w.heap.size + 1) #[.bool false]) := by
    have := Blk.new (w.alloc (.cells zcc 25)) #[.bool false] 4
    show Blk _ _ _
    simpa using this
  cases hp : parseO l with
  | some c =>
    have HR : Hid (parseB l = true ∧ parseC l = c) := parse_yes hp
    go_enter_defers Tryz.func11, Tryz.ntmps11
    go_wp2_with fail
    change Calls _ _ _ ((w.alloc (.cells zcc 25)).alloc (.cells #[.bool false] 4)) _
    generalize (w.alloc (.cells zcc 25)).alloc (.cells #[.bool false] 4) = W at *
    refine cO.mono ?_
    rintro e w2 ⟨h2, k2⟩
    obtain rfl : e = .returned (ck c) := by
      rcases h2 with ⟨c', e1, h⟩ | ⟨e1, h⟩
      · rw [hp] at e1
        cases e1
        exact h
      · rw [hp] at e1
        cases e1
    have C0 := B0.out.keeps k2
    have C1 := B1.out.keeps k2
    have D0 : Hid (Blk ((putC w2 w.heap.size 0 (cc c).toList).setCell ⟨w.heap.size + 1, 0, none⟩ (.bool true)) w.heap.size (cc c)) := ((C0.putC (cc c).toList rfl).far (by simp) _)
    have D1 : Hid (Blk ((putC w2 w.heap.size 0 (cc c).toList).setCell ⟨w.heap.size + 1, 0, none⟩ (.bool true)) (w.heap.size + 1) #[.bool true]) := (Blk.farC (by omega) (cc c).toList 0 C1).set 0 (by simp) (.bool true)
    have D2 : Hid (Keeps w ((putC w2 w.heap.size 0 (cc c).toList).setCell ⟨w.heap.size + 1, 0, none⟩ (.bool true))) := (Keeps.putC (Nat.le_refl _) _ 0 (kW.trans k2)).setCell (by simp) _
    obtain ⟨_, z1, z2⟩ := C0
    obtain ⟨_, z3, z4⟩ := C1
    clear cO h2 B0 B1
    go_wp2
    change bodyPostD _ _ _ _ _ ((putC w2 w.heap.size 0 (cc c).toList).setCell ⟨w.heap.size + 1, 0, none⟩ (.bool true))
    generalize (putC w2 w.heap.size 0 (cc c).toList).setCell ⟨w.heap.size + 1, 0, none⟩ (.bool true) = Q at D0 D1 D2 ⊢
    refine leaves_cons (f := 32) (args := #[.pointer (some ⟨w.heap.size, 0, none⟩), .pointer (some ⟨w.heap.size + 1, 0, none⟩)]) (by simp) (by simp [go_sem]) ?_
    refine (catch_idle _ _ _).mono ?_
    rintro e u' w'' ⟨rfl, rfl, rfl⟩
    have y0 := D0.out.cells
    have y1 := D1.out.cells
    simp [Leaves, settle, results, Tryz.results11, go_sem, y0, y1, HR.out.1, HR.out.2, D2.out]
  | none =>
    have HR : Hid (parseB l = false ∧ parseC l = Cl.zero) := parse_no hp
    go_enter_defers Tryz.func11, Tryz.ntmps11
    go_wp2_with fail
    change Calls _ _ _ ((w.alloc (.cells zcc 25)).alloc (.cells #[.bool false] 4)) _
    generalize (w.alloc (.cells zcc 25)).alloc (.cells #[.bool false] 4) = W at *
    refine cO.mono ?_
    rintro e w2 ⟨h2, k2⟩
    obtain ⟨tp, pa, rfl⟩ : Fell e := by
      rcases h2 with ⟨c', e1, h⟩ | ⟨e1, h⟩
      · rw [hp] at e1
        cases e1
      · exact h
    have C0 := B0.out.keeps k2
    have C1 := B1.out.keeps k2
    have D0 : Hid (Blk ((putC w2 w.heap.size 0 zcc.toList).setCell ⟨w.heap.size + 1, 0, none⟩ (.bool false)) w.heap.size zcc) := ((C0.putC zcc.toList rfl).far (by simp) _)
    have D1 : Hid (Blk ((putC w2 w.heap.size 0 zcc.toList).setCell ⟨w.heap.size + 1, 0, none⟩ (.bool false)) (w.heap.size + 1) #[.bool false]) := (Blk.farC (by omega) zcc.toList 0 C1).set 0 (by simp) (.bool false)
    have D2 : Hid (Keeps w ((putC w2 w.heap.size 0 zcc.toList).setCell ⟨w.heap.size + 1, 0, none⟩ (.bool false))) := (Keeps.putC (Nat.le_refl _) _ 0 (kW.trans k2)).setCell (by simp) _
    clear cO h2 B0 B1
    go_wp2
    refine leaves_cons (f := 32) (args := #[.pointer (some ⟨w.heap.size, 0, none⟩), .pointer (some ⟨w.heap.size + 1, 0, none⟩)]) (by simp) (by simp [go_sem]) ?_
    refine (catch_panicking w.heap.size (w.heap.size + 1) (by omega) tp (.pointer (some pa)) [] w2 C0 C1).mono ?_
    rintro e u' w'' ⟨rfl, rfl, rfl⟩
    generalize (putC w2 w.heap.size 0 zcc.toList).setCell ⟨w.heap.size + 1, 0, none⟩ (.bool false) = Q at D0 D1 D2 ⊢
    have y0 := D0.out.cells
    have y1 := D1.out.cells
    simp [Leaves, settle, results, Tryz.results11, go_sem, y0, y1, HR.out.1, HR.out.2, D2.out, Cl.zero]
end Go.Proofs.YtpikopdfkhagmaaGreatDoor
namespace Go.Proofs.YtpikopdfkhagmaaGreatDoor
open Go.RowKit
attribute [local go_sem] Keeps.refl Keeps.alloc Keeps.drew Keeps.drewN

/-- What is read of the line of a call. -/
theorem parse_lineL {c : Cl} (h : lineB c = true) : parseC (lineL c) = c ∧ parseB (lineL c) = true := by
  have := parse_yes (parse_is.2 ⟨h, rfl⟩)
  exact ⟨this.2, this.1⟩
/-- What is read is written as it was. -/
theorem parse_back {l : List UInt8} (h : parseB l = true) : lineB (parseC l) = true ∧ lineL (parseC l) = l := by
  unfold parseB at h
  obtain ⟨c, hc⟩ := Option.isSome_iff_exists.1 h
  have := parse_yes hc
  rw [this.2]
  exact parse_is.1 hc
theorem parse_none {l : List UInt8} (h : parseB l = false) : parseC l = Cl.zero := by
  unfold parseB at h
  exact (parse_no (by simpa using h)).2
set_option maxRecDepth 100000 in
set_option maxHeartbeats 8000000 in
theorem callText_walk (a : Option Addr) (n cap : Nat) (w : World) (hm : n ≤ maxLen) (hb : ∀ g, w.heap.size ≤ g → Bytes g w a n) (hg : GlobT w) (hgl : GlobL w) :
    Calls Tryz.prog 3 #[.slice a n cap] w fun e w' => e = .returned (.bool true) ∧ Keeps w w' := by
  by_cases hn : n ≤ 1048576
  case neg =>
    have hd : decide (1048576 < (n : Int)) = true := by simp; omega
    go_enter Tryz.func3, Tryz.ntmps3
    go_wp2_with (go_at_call 5; refine (big_any _ _ _ _ hm).mono ?_; rintro e w1 ⟨rfl, rfl⟩)
    go_ret
    exact ⟨rfl, Keeps.refl _⟩
  have hd : decide (1048576 < (n : Int)) = false := by simp; omega
  have HB : Hid (∀ g, w.heap.size ≤ g → Bytes g w a n) := hb
  have HG : Hid (GlobT w) := hg
  have HGL : Hid (GlobL w) := hgl
  clear hb hg hgl
  go_enter Tryz.func3, Tryz.ntmps3
  go_wp2_with fail
  refine (big_any _ _ _ _ hm).mono ?_
  rintro e w0 ⟨rfl, rfl⟩
  rw [hd]
  go_upto_region 4 with (go_at_call 6; refine (drawCallLine_any a n cap _ hn HB.out).mono ?_; rintro e w1 ⟨c, rfl, k1⟩)
  have kX : Keeps w0 (w1.alloc (.cells (cc c) 25)) := k1.alloc _
  have BX : Hid (Blk (w1.alloc (.cells (cc c) 25)) w1.heap.size (cc c)) := Blk.new _ _ _
  change Code.wp _ _ _ _ (w1.alloc (.cells (cc c) 25))
  generalize w1.alloc (.cells (cc c) 25) = X at *
  generalize w1.heap.size = xb at *
  clear k1 hd
  have r1 : ∀ w', Keeps X w' → ∀ k, w'.cell? ⟨xb, k, none⟩ = (cc c)[k]? := fun w' h => (BX.out.keeps h).cells
  obtain ⟨l, Hl⟩ : ∃ l, Hid (lineL c = l) := ⟨_, rfl⟩
  obtain ⟨b, Hb⟩ : ∃ b, Hid (lineB c = b) := ⟨_, rfl⟩
  obtain ⟨q, Hq⟩ : ∃ q, Hid (callB c = q) := ⟨_, rfl⟩
  have hbb : (b != b) = false := by simp
  have hqq : (q != q) = false := by simp
  have hll : l.length ≤ 46 := by rw [← Hl.out]; exact lineL_length c
  have cI : Hid (∀ W, Keeps w0 W → Calls Tryz.prog 7 #[ck c] W fun e w' => e = .returned (.tuple #[strV l, .bool b]) ∧ Keeps W w') := fun W k => by
    have := implCallLine_any c W (HG.out.keeps k)
    rw [Hl.out, Hb.out] at this
    exact this
  have cS : Hid (∀ W, Calls Tryz.prog 8 #[ck c] W fun e w' => e = .returned (.tuple #[strV l, .bool b]) ∧ Keeps W w') := fun W => by
    have := specCallLine_any c W
    rw [Hl.out, Hb.out] at this
    exact this
  have cO : Hid (∀ W, Calls Tryz.prog 9 #[ck c] W fun e w' => e = .returned (.bool q) ∧ Keeps W w') := fun W => by
    have := implCallOk_says c W
    rw [Hq.out] at this
    exact this
  have cQ : Hid (∀ W, Calls Tryz.prog 10 #[ck c] W fun e w' => e = .returned (.bool q) ∧ Keeps W w') := fun W => by
    have := specCallOk_any c W
    rw [Hq.out] at this
    exact this
  go_upto_region 5 with (go_at_call 7; refine (cI.out _ kX).mono ?_; rintro e w2 ⟨rfl, k2⟩)
  go_upto_region 6 with (go_at_call 8; refine (cS.out _).mono ?_; rintro e w3 ⟨rfl, k3⟩)
  have K3 : Keeps X w3 := k2.trans k3
  clear k2 k3 cI cS
  refine wp_region_held_drew (S := (fun w' => Keeps X w')) (by kernel_rfl) ?_ (fun hHeld => ?_)
  · exact K3.drew
  refine Plan.go [0, 1, 2, 3, 4, 6] ?_
  iterate 6 (refine takeL (by simp only [opsAt]; rfl) (by kernel_rfl) (by exact fun _ _ _ h => h) (by rfl) (by assumption) (fun w _ => by go_simp; try (with_reducible rfl)) ?_; try simp only [putAtH])
  refine Plan.nil ?_
  refine callH 5 (by kernel_rfl) (by simp only [opsAt]; rfl) (fun K hK => ?_)
  go_simp
  first
    | (go_at_call 9; refine (cO.out _).mono ?_; rintro e w4 ⟨rfl, k4⟩)
    | (go_at_call 10; refine (cQ.out _).mono ?_; rintro e w5 ⟨rfl, k5⟩)
  try go_wp2_with fail
  refine hK.out _ _ ?_ (fun hHeld => ?_)
  · exact Keeps.trans (by assumption) (by assumption)
  clear hK K
  try simp only [putAtH]
  refine callH 7 (by kernel_rfl) (by simp only [opsAt]; rfl) (fun K hK => ?_)
  go_simp
  first
    | (go_at_call 9; refine (cO.out _).mono ?_; rintro e w4 ⟨rfl, k4⟩)
    | (go_at_call 10; refine (cQ.out _).mono ?_; rintro e w5 ⟨rfl, k5⟩)
  try go_wp2_with fail
  refine hK.out _ _ ?_ (fun hHeld => ?_)
  · exact Keeps.trans (by assumption) (by assumption)
  clear hK K
  try simp only [putAtH]
  refine Plan.go [8, 9] ?_
  iterate 2 (refine takeL (by simp only [opsAt]; rfl) (by kernel_rfl) (by exact fun _ _ _ h => h) (by rfl) (by assumption) (fun w _ => by go_simp; try (with_reducible rfl)) ?_; try simp only [putAtH])
  refine Plan.nil ?_
  refine wpAnyH_done (by kernel_rfl) ?_ _
  have K5 : Keeps X w5 := by assumption
  clear k4 k5 hHeld cO cQ K3
  go_upto_if 41 with fail
  go_cut [] (fun wx => Hid (Keeps w0 wx))
  case first =>
    cases b
    · go_wp2
      go_meet
      exact kX.trans K5
    · have hp := parse_lineL Hb.out
      rw [Hl.out] at hp
      have hpc : Hid (parseC l = c) := hp.1
      have hpb : Hid (parseB l = true) := hp.2
      clear hp
      have cP := implCallParse_any l w5 (HG.out.keeps (kX.trans K5)) (HGL.out.keeps (kX.trans K5)) (by omega)
      rw [hpc.out, hpb.out] at cP
      go_upto_region 10 with (go_at_call 11; refine cP.mono ?_; rintro e w6 ⟨rfl, k6⟩)
      have K7 : Keeps X (w6.alloc (.cells (cc c) 25)) := (K5.trans k6).alloc _
      have B7 : Hid (Blk (w6.alloc (.cells (cc c) 25)) w6.heap.size (cc c)) := Blk.new _ _ _
      change Code.wp _ _ _ _ (w6.alloc (.cells (cc c) 25))
      generalize w6.alloc (.cells (cc c) 25) = Y at *
      generalize w6.heap.size = yb at *
      clear k6 cP
      have r2 : ∀ w', Keeps Y w' → ∀ k, w'.cell? ⟨yb, k, none⟩ = (cc c)[k]? := fun w' h => (B7.out.keeps h).cells
      have r3 : ∀ w', Keeps Y w' → ∀ k, w'.cell? ⟨xb, k, none⟩ = (cc c)[k]? := fun w' h => r1 w' (K7.trans h)
      clear r1
      have h1 : (c.kind == c.kind) = true := by simp
      have h2 : (c.no == c.no) = true := by simp
      have h3 : (c.cpu == c.cpu) = true := by simp
      have h4 : (c.a == c.a) = true := by simp
      have h5 : (c.b == c.b) = true := by simp
      go_wp2
      go_meet
      exact kX.trans K7
  case rest =>
  have KC := hcut
  clear hcut r1 BX kX K5
  generalize wc = U at *
  have HB2 : Hid (∀ g, U.heap.size ≤ g → Bytes g U a n) := fun g hg => (HB.out g (by have := KC.out.size; omega)).but (.of KC.out)
  clear hbb hqq hll Hl Hb Hq HB
  go_upto_region 13 with (go_at_call 12; refine (drawCallParse_any a n cap _ hn HB2.out).mono ?_; rintro e v1 ⟨x, rfl, hx, k1⟩)
  have K1 : Keeps w0 v1 := KC.out.trans k1
  obtain ⟨y, Hy⟩ : ∃ y, Hid (parseC x = y) := ⟨_, rfl⟩
  obtain ⟨z, Hz⟩ : ∃ z, Hid (parseB x = z) := ⟨_, rfl⟩
  have cP := implCallParse_any x v1 (HG.out.keeps K1) (HGL.out.keeps K1) (by omega)
  rw [Hy.out, Hz.out] at cP
  clear HB2 k1
  go_upto_region 14 with (go_at_call 11; refine cP.mono ?_; rintro e v2 ⟨rfl, k2⟩)
  have K2 : Keeps w0 (v2.alloc (.cells (cc y) 25)) := (K1.trans k2).alloc _
  have B2 : Hid (Blk (v2.alloc (.cells (cc y) 25)) v2.heap.size (cc y)) := Blk.new _ _ _
  change Code.wp _ _ _ _ (v2.alloc (.cells (cc y) 25))
  generalize v2.alloc (.cells (cc y) 25) = Y at *
  generalize v2.heap.size = yb at *
  clear k2 cP K1
  have cS := specCallParse_any x Y (by omega)
  rw [Hy.out, Hz.out] at cS
  go_upto_region 15 with (go_at_call 13; refine cS.mono ?_; rintro e v3 ⟨rfl, k3⟩)
  have K3 : Keeps w0 (v3.alloc (.cells (cc y) 25)) := (K2.trans k3).alloc _
  have B3 : Hid (Blk (v3.alloc (.cells (cc y) 25)) yb (cc y)) := (B2.out.keeps k3).alloc _
  change Code.wp _ _ _ _ (v3.alloc (.cells (cc y) 25))
  generalize v3.alloc (.cells (cc y) 25) = Z at *
  clear k3 cS K2 B2
  have hzz : (z != z) = false := by simp
  have r4 : ∀ w', Keeps Z w' → ∀ k, w'.cell? ⟨yb, k, none⟩ = (cc y)[k]? := fun w' h => (B3.out.keeps h).cells
  obtain ⟨l2, Hl2⟩ : ∃ l, Hid (lineL y = l) := ⟨_, rfl⟩
  obtain ⟨b2, Hb2⟩ : ∃ b, Hid (lineB y = b) := ⟨_, rfl⟩
  have cL := implCallLine_any y Z (HG.out.keeps K3)
  rw [Hl2.out, Hb2.out] at cL
  go_upto_region 18 with (go_at_call 7; refine cL.mono ?_; rintro e v4 ⟨rfl, k4⟩)
  have K4 : Keeps w0 v4 := K3.trans k4
  have r5 : ∀ w', Keeps v4 w' → ∀ k, w'.cell? ⟨yb, k, none⟩ = (cc y)[k]? := fun w' h => r4 w' (k4.trans h)
  clear r4 cL K3 k4 hzz
  cases z
  · have h0 := parse_none Hz.out
    rw [Hy.out] at h0
    subst h0
    go_wp2
    go_ret
    exact ⟨rfl, K4⟩
  · have h0 := parse_back Hz.out
    rw [Hy.out, Hl2.out, Hb2.out] at h0
    obtain ⟨rfl, rfl⟩ := h0
    have hse := run_strEq l2 l2
    rw [show (l2 == l2) = true from by simp] at hse
    go_wp2
    go_ret
    exact ⟨rfl, K4⟩
end Go.Proofs.YtpikopdfkhagmaaGreatDoor
