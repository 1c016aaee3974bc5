/-
  The program's callOn: the call on a line, or a panic.
-/
import Derived.Test.YtpikopdfkhagmaaDoorImplParse
import Derived.Test.YtpikopdfkhagmaaDoorDeskParse
import Derived.Test.YtpikopdfkhagmaaDoorBut
import Derived.Test.YtpikopdfkhagmaaDoorLate
import Derived.Deep.RegionHeld3
namespace Go.Proofs.YtpikopdfkhagmaaDoor
open Go.RowKit
attribute [local go_sem] Keeps.refl Keeps.alloc Keeps.drew Keeps.drewN

set_option maxRecDepth 100000 in
set_option maxHeartbeats 2000000 in
theorem implIndex_any (b n cap k : Nat) (x : List UInt8) (f : Nat → List UInt8) (w : World) (hc : ∀ j, j < n → w.cell? ⟨b, j, none⟩ = some (strV (f j))) (hk : k < n) (hn : n ≤ 1048576) (he : (x == f k) = true) (hne : ∀ j, j < k → (x == f j) = false) :
    Calls Tryd.prog 44 #[.slice (some ⟨b, 0, none⟩) n cap, strV x] w fun e w' => e = .returned (.int .i64 k) ∧ w' = w := by
  have HC : Hid (∀ j, j < n → w.cell? ⟨b, j, none⟩ = some (strV (f j))) := hc
  have HE : Hid ((x == f k) = true) := he
  have HN : Hid (∀ j, j < k → (x == f j) = false) := hne
  clear hc he hne
  go_enter Tryd.func44, Tryd.ntmps44
  go_wp2
  go_loopw [8] (fun i wr => ∃ j : Nat, j ≤ k ∧ i = .int .i64 j ∧ wr = w) (fun i _ => n - (intOf i).toNat)
  case atStart => exact ⟨0, Nat.zero_le _, rfl, rfl⟩
  case round =>
    obtain ⟨j, hj, rfl, rfl⟩ := hrel
    have hlt' : (j : Int) < (n : Int) := by omega
    have h1 := HC.out j (by omega)
    by_cases e : j = k
    · subst e
      have h2 := HE.out
      generalize f j = y at h1 h2
      go_wp2
      go_ret
      exact ⟨rfl, rfl⟩
    · have h2 := HN.out j (by omega)
      generalize f j = y at h1 h2
      go_wp2
      exact ⟨⟨j + 1, by omega, by go_num, trivial⟩, by simp only [intOf]; omega⟩
theorem words_apart (k : Nat) (h1 : 1 ≤ k) (h2 : k ≤ 11) : (wordL (k : Int) == wordL ((k : Nat) : Int)) = true ∧ ∀ j : Nat, j < k → (wordL (k : Int) == wordL (j : Int)) = false := by
  refine ⟨by simp, fun j hj => ?_⟩
  have h3 : k = 1 ∨ k = 2 ∨ k = 3 ∨ k = 4 ∨ k = 5 ∨ k = 6 ∨ k = 7 ∨ k = 8 ∨ k = 9 ∨ k = 10 ∨ k = 11 := by omega
  have h4 : j = 0 ∨ j = 1 ∨ j = 2 ∨ j = 3 ∨ j = 4 ∨ j = 5 ∨ j = 6 ∨ j = 7 ∨ j = 8 ∨ j = 9 ∨ j = 10 := by omega
  rcases h3 with rfl | rfl | rfl | rfl | rfl | rfl | rfl | rfl | rfl | rfl | rfl <;> rcases h4 with rfl | rfl | rfl | rfl | rfl | rfl | rfl | rfl | rfl | rfl | rfl <;> first | (exfalso; omega) | rfl
theorem numSays_fell {s : List UInt8} {e : Ending} (h : NumSays s e) (hn : numO s = none) : Fell e := by
  rcases h with ⟨v, hv, _⟩ | ⟨_, h⟩
  · rw [hn] at hv
    cases hv
  · exact h
theorem numSays_val {s : List UInt8} {e : Ending} {v : Int} (h : NumSays s e) (hn : numO s = some v) : e = .returned (.int .i64 v) := by
  rcases h with ⟨v', hv, h⟩ | ⟨hv, _⟩
  · rw [hn] at hv
    cases hv
    exact h
  · rw [hn] at hv
    cases hv
/-- What is told of a line: its call, or a panic where it is none. -/
def OnSays (l : List UInt8) (e : Ending) : Prop := (∃ c, parseO l = some c ∧ e = .returned (ck c)) ∨ (parseO l = none ∧ Fell e)
theorem none_of {l : List UInt8} (h : ∀ c, parseO l = some c → False) : parseO l = none := by
  cases e : parseO l with
  | none => rfl
  | some c => exact (h c e).elim
set_option maxRecDepth 100000 in
set_option maxHeartbeats 8000000 in
theorem implCallOn_any (l : List UInt8) (w : World) (hg : GlobT w) (hgl : GlobL w) (hl : l.length ≤ 1048576) :
    Calls Tryd.prog 30 #[strV l] w fun e w' => OnSays l e ∧ Keeps w w' := by
  obtain ⟨w0, ws, hws⟩ := split_some l []
  have HW : Hid (wordsF l = w0 :: ws) := hws
  have HLw : Hid (∀ x ∈ w0 :: ws, x.length ≤ 1048576) := fun x hx => by
    have := split_long l [] x (by rw [hws]; exact hx)
    simp at this
    omega
  have hcnt : ws.length ≤ 1048576 := by
    have := split_count l []
    rw [hws] at this
    simp at this
    omega
  clear hws
  have HG : Hid (GlobT w) := hg
  have HGL : Hid (GlobL w) := hgl
  clear hg hgl
  have kW := blkK w (.cells zcc 26)
  have B0 : Hid (Blk (w.alloc (.cells zcc 26)) w.heap.size zcc) := Blk.new _ _ _
  go_enter Tryd.func30, Tryd.ntmps30
  go_wp2_with fail
  change Calls _ _ _ (w.alloc (.cells zcc 26)) _
  generalize w.alloc (.cells zcc 26) = W at *
  refine (implCutAt_any l W hl).mono ?_
  rintro e w1 ⟨u, rfl, o1, k1⟩
  rw [HW.out] at o1
  obtain ⟨m, Hm⟩ : ∃ m, Hid (ws.length = m) := ⟨_, rfl⟩
  obtain ⟨ub, uc, eu⟩ := o1.blk (by simp)
  rw [show (w0 :: ws).length = m + 1 from by rw [List.length_cons, Hm.out]] at eu
  subst eu
  have hm : m ≤ 1048576 := by rw [← Hm.out]; exact hcnt
  have O1 : Hid (Own 9 1 sc w1 W.heap.size (.slice (some ⟨ub, 0, none⟩) (m + 1) uc) (w0 :: ws)) := o1
  have hub : ub < w1.heap.size := (World.ownsRow.lt o1 ub rfl).2
  have T0 : Hid (∀ w', Keeps w1 w' → w'.cell? ⟨ub, 0, none⟩ = some (strV w0)) := by
    obtain ⟨b', e2, h⟩ := rowText o1 (k := 0) (x := w0) rfl
    obtain rfl : ub = b' := by simpa using e2
    exact h
  clear o1 hcnt
  have kX := blkK w1 (.cells zcc 26)
  have B1 : Hid (Blk (w1.alloc (.cells zcc 26)) w1.heap.size zcc) := Blk.new _ _ _
  have K1 : Hid (Keeps W w1) := k1
  clear k1
  have hm0 : (0 : Int) < (m : Int) + 1 := by omega
  go_upto_region 3 with fail
  change Code.wp _ _ _ _ (w1.alloc (.cells zcc 26))
  have hcb0 : w.heap.size ≤ w1.heap.size := (kW.trans K1.out).size
  have HWc0 : W.heap.size ≤ w1.heap.size := K1.out.size
  generalize hXd : w1.alloc (.cells zcc 26) = X at *
  have HXs : Hid (X.heap.size = w1.heap.size + 1) := by show _ = _; rw [← hXd]; simp
  clear hXd
  obtain ⟨cb, Hcb⟩ : ∃ cb, Hid (w1.heap.size = cb) := ⟨_, rfl⟩
  rw [Hcb.out] at B1 hub HXs hcb0 HWc0 ⊢
  have HWc : Hid (W.heap.size ≤ cb) := HWc0
  clear HWc0
  have t0 := T0.out X kX
  have KX : Hid (Keeps w X) := (kW.trans K1.out).trans kX
  by_cases hex : ∃ k ∈ kindsL, (w0 == wordL k) = true
  rotate_left
  · have HR : Hid (parseO l = none) := none_of fun c hc => by
      obtain ⟨e1, e2, -⟩ := line_known HW.out hc
      refine hex ⟨c.kind, ?_, by rw [e1]; simp⟩
      have h2 : c.kind = 1 ∨ c.kind = 2 ∨ c.kind = 3 ∨ c.kind = 4 ∨ c.kind = 5 ∨ c.kind = 6 ∨ c.kind = 7 ∨ c.kind = 8 ∨ c.kind = 9 ∨ c.kind = 10 ∨ c.kind = 11 := by omega
      unfold kindsL
      simp only [List.mem_cons, List.not_mem_nil, or_false]
      exact h2
    have cN := implNums_no w0 (fun k hk => by
      cases e : (w0 == wordL k)
      · rfl
      · exact (hex ⟨k, hk, e⟩).elim) cb X (HGL.out.keeps KX.out)
    go_wp2_with (go_at_call 24; refine cN.mono ?_; rintro e w2 ⟨⟨tp, pa, rfl⟩, k2⟩)
    exact ⟨rfl, .inr ⟨HR.out, tp, pa, rfl⟩, KX.out.trans k2⟩
  obtain ⟨k, Hk1, Hk2, HWk⟩ : ∃ k : Nat, 1 ≤ k ∧ k ≤ 11 ∧ Hid (wordL (k : Int) = w0) := by
    obtain ⟨k, hkm, hwk⟩ := hex
    have h1 : 1 ≤ k ∧ k ≤ 11 := by
      unfold kindsL at hkm
      simp only [List.mem_cons, List.not_mem_nil, or_false] at hkm
      omega
    refine ⟨k.toNat, by omega, by omega, ?_⟩
    show wordL _ = _
    rw [show ((k.toNat : Nat) : Int) = k from by omega]
    exact (beq_iff_eq.1 hwk).symm
  clear hex
  obtain ⟨n, HN⟩ : ∃ n, Hid ((placesO (k : Int)).length = n) := ⟨_, rfl⟩
  have hn4 : 1 ≤ n ∧ n ≤ 4 := by
    have h1 := numsL_length ⟨(k : Int), 0, 0, 0, 0⟩
    have h2 := places_length ⟨(k : Int), 0, 0, 0, 0⟩
    have h3 := HN.out
    simp only at h2
    omega
  have cN : Calls Tryd.prog 24 #[strV w0, .pointer (some ⟨cb, 0, none⟩)] X fun e w' => ∃ rb cap, e = .returned (.slice (some ⟨rb, 0, none⟩) n cap) ∧ (∀ i o, (placesO (k : Int))[i]? = some o → w'.cell? ⟨rb, i, none⟩ = some (.pointer (some ⟨cb, o, none⟩))) ∧ Keeps X w' := by
    have h := implNums_any (k : Int) (by omega) cb X
    rw [HWk.out, HN.out] at h
    exact h
  go_upto_region 4 with (go_at_call 24; refine cN.mono ?_; rintro e w2 ⟨rb, rc, rfl, hpl, k2⟩)
  have HPl : Hid (∀ i o, (placesO (k : Int))[i]? = some o → w2.cell? ⟨rb, i, none⟩ = some (.pointer (some ⟨cb, o, none⟩))) := hpl
  have B2 : Hid (Blk w2 cb zcc) := B1.out.keeps k2
  have K2 : Hid (Keeps w w2) := KX.out.trans k2
  have T2 : Hid (∀ w', Keeps w2 w' → w'.cell? ⟨ub, 0, none⟩ = some (strV w0)) := fun w' q => T0.out w' (kX.trans (k2.trans q))
  have KW2 : Hid (Keeps W w2) := (K1.out.trans kX).trans k2
  have O2 : Hid (Own 9 1 sc w2 W.heap.size (.slice (some ⟨ub, 0, none⟩) (m + 1) uc) (w0 :: ws)) := O1.out.keeps (kX.trans k2)
  have hrc : rb ≠ cb := by
    intro e
    have h1 : (placesO (k : Int))[0]? ≠ none := by
      rw [List.getElem?_eq_getElem (by have := HN.out; omega)]
      simp
    cases h2 : (placesO (k : Int))[0]? with
    | none => exact h1 h2
    | some o =>
      have h3 := hpl 0 o h2
      rw [e, B2.out.cells 0] at h3
      simp at h3
  obtain ⟨tp, pa, hgw⟩ := HGL.out
  have hgl := Keeps.has hgw w2 K2.out
  have HGw : Hid (w.cell? ⟨0, 0, none⟩ = some (.iface tp (.pointer (some pa)))) := hgw
  clear hgw
  clear cN hpl k2 kX B1 T0 O1 t0 KX
  by_cases hmn : m = n
  rotate_left
  · have HR : Hid (parseO l = none) := none_of fun c hc => by
      obtain ⟨e1, e2, e3, -⟩ := line_known HW.out hc
      have e4 : c.kind = (k : Int) := wordL_inj _ (by
        have h2 : c.kind = 1 ∨ c.kind = 2 ∨ c.kind = 3 ∨ c.kind = 4 ∨ c.kind = 5 ∨ c.kind = 6 ∨ c.kind = 7 ∨ c.kind = 8 ∨ c.kind = 9 ∨ c.kind = 10 ∨ c.kind = 11 := by omega
        unfold kindsL
        simp only [List.mem_cons, List.not_mem_nil, or_false]
        exact h2) _ (by
        have h2 : (k : Int) = 1 ∨ (k : Int) = 2 ∨ (k : Int) = 3 ∨ (k : Int) = 4 ∨ (k : Int) = 5 ∨ (k : Int) = 6 ∨ (k : Int) = 7 ∨ (k : Int) = 8 ∨ (k : Int) = 9 ∨ (k : Int) = 10 ∨ (k : Int) = 11 := by omega
        unfold kindsL
        simp only [List.mem_cons, List.not_mem_nil, or_false]
        exact h2) (by rw [← e1, HWk.out])
      rw [e4, HN.out, Hm.out] at e3
      exact hmn e3
    have hd : ((m : Int) + 1 != 1 + (n : Int)) = true := by simp; omega
    go_wp2
    exact ⟨rfl, .inr ⟨HR.out, tp, pa, rfl⟩, K2.out⟩
  subst hmn
  have hd : ((m : Int) + 1 != 1 + (m : Int)) = false := by simp; omega
  go_upto_region 6 with fail
  have t2 := T2.out
  have hap := words_apart k Hk1 Hk2
  have HAp : Hid ((w0 == wordL (k : Int)) = true ∧ ∀ j : Nat, j < k → (w0 == wordL (j : Int)) = false) := by rw [← HWk.out]; exact hap
  clear hap
  refine wp_region_late 6 (S := (fun w' => Keeps w2 w')) (by kernel_rfl) ?_ (fun hHeld => ?_)
  · exact (Keeps.refl w2).drew
  refine Plan.go [1, 2, 3] ?_
  iterate 3 (refine lateL (by simp only [opsAt]; rfl) (by kernel_rfl) (by exact fun _ _ _ h => h) (by rfl) (by assumption) (fun w _ => by go_simp; try (with_reducible rfl)) ?_; try simp only [putAtH])
  refine Plan.nil ?_
  refine late_step (i := 0) (by kernel_rfl) (by simp only [List.getElem?_toArray, List.getElem?_cons_zero]; rfl) (fun K hK => ?_)
  go_simp
  first
    | (go_at_call 23; refine (implCallWords_any _).mono ?_; rintro e w3 ⟨wb, rfl, h3, k3⟩)
    | (go_at_call 44; refine (implIndex_any wb 12 12 k w0 (fun j => wordL (j : Int)) w3 h3 (by omega) (by omega) HAp.out.1 HAp.out.2).mono ?_; rintro e w' ⟨rfl, hw'⟩; have hw2 := hw'.symm; subst hw2; clear hw')
  try go_wp2_with fail
  refine hK.out _ _ ?_ (fun hHeld => ?_)
  · first | assumption | exact Keeps.trans (by assumption) (by assumption)
  clear hK K
  try simp only [putAtH]
  refine late_step (i := 4) (by kernel_rfl) (by simp only [List.getElem?_toArray, List.getElem?_cons_succ, List.getElem?_cons_zero]; rfl) (fun K hK => ?_)
  go_simp
  first
    | (go_at_call 23; refine (implCallWords_any _).mono ?_; rintro e w3 ⟨wb, rfl, h3, k3⟩)
    | (go_at_call 44; refine (implIndex_any wb 12 12 k w0 (fun j => wordL (j : Int)) w3 h3 (by omega) (by omega) HAp.out.1 HAp.out.2).mono ?_; rintro e w' ⟨rfl, hw'⟩; have hw2 := hw'.symm; subst hw2; clear hw')
  try go_wp2_with fail
  refine hK.out _ _ ?_ (fun hHeld => ?_)
  · first | assumption | exact Keeps.trans (by assumption) (by assumption)
  clear hK K
  try simp only [putAtH]
  refine Plan.go [5] ?_
  iterate 1 (refine lateL (by simp only [opsAt]; rfl) (by kernel_rfl) (by exact fun _ _ _ h => h) (by rfl) (by assumption) (fun w _ => by go_simp; try (with_reducible rfl)) ?_; try simp only [putAtH])
  refine Plan.nil ?_
  refine late_last (by kernel_rfl) (by simp only [List.getElem?_toArray, List.getElem?_cons_succ, List.getElem?_cons_zero]; rfl) (by kernel_rfl) (fun K hK => ?_)
  have K3 : Keeps w2 w3 := (by assumption); have B3 := B2.out.keeps K3; obtain ⟨_, z1, z2⟩ := B3
  go_simp
  try go_wp2_with fail
  refine hK.out _ _ ?_
  clear hK K
  try simp only [putAtH]
  have K3 : Keeps w2 w3 := (by assumption)
  have BY : Hid (Blk (w3.setCell ⟨cb, 0, none⟩ (.int .i64 (k : Int))) cb (cc (ofF (k : Int) ((ws.map numV).take 0)))) := by
    have h := (B2.out.keeps K3).set 0 (by simp) (.int .i64 (k : Int))
    show Blk _ _ _
    rw [List.take_zero, fill_none]
    exact h
  have KY : Hid (KeepsBut cb w2 (w3.setCell ⟨cb, 0, none⟩ (.int .i64 (k : Int)))) := (KeepsBut.of K3).setCell 0 _
  clear z1 z2 k3 h3 hHeld t2 HAp K3
  generalize w3.setCell ⟨cb, 0, none⟩ (.int .i64 (k : Int)) = Y at *
  go_upto_region 8 with fail
  go_loopw [31] (fun i wr => ∃ j : Nat, j ≤ m ∧ i = .int .i64 j ∧ Hid (Blk wr cb (cc (ofF (k : Int) ((ws.map numV).take j)))) ∧ Hid (KeepsBut cb w2 wr)) (fun i _ => m - (intOf i).toNat)
  case atStart => exact ⟨0, Nat.zero_le _, rfl, BY, KY⟩
  case round =>
    obtain ⟨j, hj, rfl, BR, KR⟩ := hrel
    have KRw : Hid (Keeps w wr) := KR.out.keeps K2.out (by omega)
    clear BY KY
    by_cases hlt : j < m
    · have hlt' : (j : Int) < (m : Int) := by omega
      obtain ⟨s, hs⟩ := some_in (xs := ws) (k := j) (by rw [Hm.out]; exact hlt)
      obtain ⟨ub', e2, tx⟩ := rowText O2.out (k := j + 1) (x := s) (by simpa using hs)
      obtain rfl : ub = ub' := by simpa using e2
      have tx' : wr.cell? ⟨ub, j + 1, none⟩ = some (strV s) := KeepsBut.has (by omega) (tx w2 (Keeps.refl _)) wr KR.out
      obtain ⟨o, ho⟩ := some_in (xs := placesO (k : Int)) (k := j) (by rw [HN.out]; exact hlt)
      have tp' : wr.cell? ⟨rb, j, none⟩ = some (.pointer (some ⟨cb, o, none⟩)) := KeepsBut.has hrc (HPl.out j o ho) wr KR.out
      have ti : ((j : Int) + 1).toNat = j + 1 := by omega
      have cR := implNumberIn_any s wr (HGL.out.keeps KRw.out) (HLw.out s (by simp [List.mem_of_getElem? hs]))
      have ho5 : o < 5 := by
        have h2 : (k : Int) = 1 ∨ (k : Int) = 2 ∨ (k : Int) = 3 ∨ (k : Int) = 4 ∨ (k : Int) = 5 ∨ (k : Int) = 6 ∨ (k : Int) = 7 ∨ (k : Int) = 8 ∨ (k : Int) = 9 ∨ (k : Int) = 10 ∨ (k : Int) = 11 := by omega
        have h3 : o ∈ placesO (k : Int) := List.mem_of_getElem? ho
        rcases h2 with h | h | h | h | h | h | h | h | h | h | h <;> rw [h] at h3 <;> simp [placesO] at h3 <;> omega
      have hmem : s ∈ ws := List.mem_of_getElem? hs
      have hlt2 : (j : Int) + 1 < (m : Int) + 1 := by omega
      have HF : Hid (parseO l = some (ofF (k : Int) []) ∨ True) := .inr trivial
      obtain ⟨q0, hq0⟩ := cc_at (ofF (k : Int) ((ws.map numV).take j)) ho5
      have Hq0 : Hid ((cc (ofF (k : Int) ((ws.map numV).take j)))[o]? = some (Value.int .i64 q0)) := hq0
      clear e2 tx HF hq0
      cases hnv : numO s with
      | none =>
        have HR : Hid (parseO l = none) := none_of fun c hc => by
          obtain ⟨-, -, -, e4, -⟩ := line_known HW.out hc
          exact e4 s hmem hnv
        go_wp2_with (go_at_call 45; refine cR.mono ?_; rintro e w5 ⟨h5, k5⟩; obtain ⟨tp5, pa5, rfl⟩ := numSays_fell h5 hnv)
        exact ⟨rfl, .inr ⟨HR.out, tp5, pa5, rfl⟩, KRw.out.trans k5⟩
      | some v =>
        have hvs : (ws.map numV)[j]? = some v := by
          rw [List.getElem?_map, hs]
          show some (numV s) = _
          unfold numV
          rw [hnv]
          rfl
        have HFl : Hid ((cc (ofF (k : Int) ((ws.map numV).take j))).setIfInBounds o (.int .i64 v) = cc (ofF (k : Int) ((ws.map numV).take (j + 1)))) := fill_at (by omega) ho hvs
        clear ho hvs hs
        go_wp2_with (go_at_call 45; refine cR.mono ?_; rintro e w5 ⟨h5, k5⟩; obtain rfl := numSays_val h5 hnv; have z3 : w5.cell? ⟨cb, o, none⟩ = some (.int .i64 q0) := (by rw [(BR.out.keeps k5).cells o]; exact Hq0.out); have z4 : w5.frozen? ⟨cb, o, none⟩ = false := (BR.out.keeps k5).frozens o)
        exact ⟨⟨j + 1, by omega, by go_num, by
          show Blk _ _ _
          rw [← HFl.out]
          exact (BR.out.keeps k5).set o (by simpa using ho5) _, (KR.out.trans (.of k5)).setCell o _⟩, by simp only [intOf]; omega⟩
    · have hlt' : decide ((j : Int) < (m : Int)) = false := by simp; omega
      obtain ⟨C, HC⟩ : ∃ C, Hid (ofF (k : Int) (ws.map numV) = C) := ⟨_, rfl⟩
      have BC : Hid (Blk wr cb (cc C)) := by
        have h := BR.out
        rw [List.take_of_length_le (by rw [List.length_map, Hm.out]; omega), HC.out] at h
        exact h
      obtain ⟨LB, HLB⟩ : ∃ b, Hid (lineB C = b) := ⟨_, rfl⟩
      obtain ⟨LL, HLL⟩ : ∃ x : List UInt8, Hid (lineL C = x) := ⟨_, rfl⟩
      have cL : Calls Tryd.prog 8 #[ck C] wr fun e w' => e = .returned (.tuple #[strV LL, .bool LB]) ∧ Keeps wr w' := by
        have h := implCallLine_any C wr (HG.out.keeps KRw.out)
        rw [HLL.out, HLB.out] at h
        exact h
      have HPs : Hid ((LB && LL == l) = true → parseO l = some C) := fun h => by
        rw [Bool.and_eq_true] at h
        exact parse_is.2 ⟨by rw [HLB.out]; exact h.1, by rw [HLL.out]; exact beq_iff_eq.1 h.2⟩
      have HPn : Hid ((LB && LL == l) = false → parseO l = none) := fun h => none_of fun c hc => by
        obtain ⟨e1, e2, e3, e4, e5, e6, e7⟩ := line_known HW.out hc
        have ek : c.kind = (k : Int) := wordL_inj _ (by
          have h2 : c.kind = 1 ∨ c.kind = 2 ∨ c.kind = 3 ∨ c.kind = 4 ∨ c.kind = 5 ∨ c.kind = 6 ∨ c.kind = 7 ∨ c.kind = 8 ∨ c.kind = 9 ∨ c.kind = 10 ∨ c.kind = 11 := by omega
          unfold kindsL
          simp only [List.mem_cons, List.not_mem_nil, or_false]
          exact h2) _ (by
          have h2 : (k : Int) = 1 ∨ (k : Int) = 2 ∨ (k : Int) = 3 ∨ (k : Int) = 4 ∨ (k : Int) = 5 ∨ (k : Int) = 6 ∨ (k : Int) = 7 ∨ (k : Int) = 8 ∨ (k : Int) = 9 ∨ (k : Int) = 10 ∨ (k : Int) = 11 := by omega
          unfold kindsL
          simp only [List.mem_cons, List.not_mem_nil, or_false]
          exact h2) (by rw [← e1, HWk.out])
        rw [ek, HC.out] at e5
        rw [← HLB.out, ← HLL.out, e5, e6, e7] at h
        simp at h
      have hne := run_strNe LL l
      have tb := BC.out.cells
      have hglr : ∀ w', Keeps wr w' → w'.cell? ⟨0, 0, none⟩ = some (.iface tp (.pointer (some pa))) := fun w' q => Keeps.has HGw.out w' (KRw.out.trans q)
      clear BR
      cases LB
      · have HR : Hid (parseO l = none) := HPn.out rfl
        go_wp2_with (go_at_call 8; refine cL.mono ?_; rintro e w8 ⟨rfl, k8⟩; have hg8 := hglr w8 k8)
        exact ⟨rfl, .inr ⟨HR.out, tp, pa, rfl⟩, KRw.out.trans k8⟩
      cases e3 : (LL == l)
      · rw [e3] at hne
        have HR : Hid (parseO l = none) := HPn.out (by rw [e3]; rfl)
        go_wp2_with (go_at_call 8; refine cL.mono ?_; rintro e w8 ⟨rfl, k8⟩; have hg8 := hglr w8 k8)
        exact ⟨rfl, .inr ⟨HR.out, tp, pa, rfl⟩, KRw.out.trans k8⟩
      rw [e3] at hne
      have HR : Hid (parseO l = some C) := HPs.out (by rw [e3]; rfl)
      go_upto_region 15 with (go_at_call 8; refine cL.mono ?_; rintro e w8 ⟨rfl, k8⟩)
      have KW8 : Keeps W w8 := (KR.out.keeps KW2.out HWc.out).trans k8
      obtain ⟨E1, E2⟩ := parse_end B0.out kW KW8 C
      obtain ⟨_, z1, z2⟩ := B0.out.keeps KW8
      have tb8 := ((BC.out.keeps k8)).cells
      clear tb
      go_wp2
      change bodyPost _ _ _ _ _ (putC w8 w.heap.size 0 (cc C).toList)
      generalize putC w8 w.heap.size 0 (cc C).toList = Q at E1 E2 ⊢
      exact bodyPost_ret (v := ck C) (by simp [results, Tryd.results30, go_sem, E1.cells]) rfl ⟨.inl ⟨C, HR.out, rfl⟩, E2⟩
end Go.Proofs.YtpikopdfkhagmaaDoor
