/-
  The model's CallParse: the call of a line.
-/
import Derived.Test.YtpikopdfkhagmaaGreatDoorDeskParseP
import Derived.Test.YtpikopdfkhagmaaGreatDoorDeskRead
import Derived.Test.YtpikopdfkhagmaaGreatDoorImplCall
import Derived.Test.YtpikopdfkhagmaaGreatDoorOwn
import Derived.Deep.RegionHeld3
namespace Go.Proofs.YtpikopdfkhagmaaGreatDoor
open Go.RowKit
attribute [local go_sem] Keeps.refl Keeps.alloc Keeps.drew Keeps.drewN

def Cl.zero : Cl := ⟨0, 0, 0, 0, 0⟩
def parseC (l : List UInt8) : Cl := (parseO l).getD Cl.zero
def parseB (l : List UInt8) : Bool := (parseO l).isSome
theorem parse_no {l : List UInt8} (h : parseO l = none) : parseB l = false ∧ parseC l = Cl.zero := by unfold parseB parseC; rw [h]; exact ⟨rfl, rfl⟩
theorem parse_yes {l : List UInt8} {c : Cl} (h : parseO l = some c) : parseB l = true ∧ parseC l = c := by unfold parseB parseC; rw [h]; exact ⟨rfl, rfl⟩
theorem split_some : ∀ (s cur : List UInt8), ∃ w0 ws, splitF cur s = w0 :: ws
  | [], cur => ⟨cur, [], rfl⟩
  | b :: r, cur => by
    rw [splitF]
    split
    · exact ⟨_, _, rfl⟩
    · exact split_some r _
theorem split_count : ∀ (s cur : List UInt8), (splitF cur s).length ≤ s.length + 1
  | [], cur => by simp [splitF]
  | b :: r, cur => by
    rw [splitF]
    split
    · have := split_count r []
      simp
      omega
    · have := split_count r (cur ++ [b])
      simp
      omega
theorem split_long : ∀ (s cur x : List UInt8), x ∈ splitF cur s → x.length ≤ cur.length + s.length
  | [], cur, x, h => by
    obtain rfl : x = cur := by simpa [splitF] using h
    simp
  | b :: r, cur, x, h => by
    rw [splitF] at h
    split at h
    · rcases List.mem_cons.1 h with rfl | h
      · exact Nat.le_add_right _ _
      · have := split_long r [] x h
        simp at this ⊢
        omega
    · have := split_long r (cur ++ [b]) x h
      simp at this ⊢
      omega
/-- Of a line whose words are known. -/
theorem parseO_of {l w0 : List UInt8} {ws : List (List UInt8)} (h : wordsF l = w0 :: ws) : parseO l = if ws.all readB then (kindsL.find? (tryB l w0 (ws.map readI))).map (fun k => ofF k (ws.map readI)) else none := by
  unfold parseO
  rw [h]
theorem rowText {w : World} {base : Nat} {a : Option Addr} {n cap : Nat} {xs : List (List UInt8)} (h : Own 9 1 sc w base (.slice a n cap) xs) {k : Nat} {x : List UInt8} (hx : xs[k]? = some x) : ∃ b, a = some ⟨b, 0, none⟩ ∧ ∀ w', Keeps w w' → w'.cell? ⟨b, k, none⟩ = some (strV x) := by
  have hlt : k < xs.length := by
    rcases Nat.lt_or_ge k xs.length with h1 | h1
    · exact h1
    · simp [List.getElem?_eq_none h1] at hx
  obtain ⟨b, cp, e⟩ := h.blk (by omega)
  simp only [Value.slice.injEq] at e
  obtain ⟨rfl, rfl, rfl⟩ := e
  have h2 := h.cellAt sc_size hx (k := 0) (by omega)
  simp only [Nat.mul_one, Nat.add_zero] at h2
  exact ⟨b, rfl, Keeps.has h2⟩
abbrev zcc : Array Value := #[.int .i64 0, .int .i64 0, .int .i64 0, .int .i64 0, .int .i64 0]
theorem parse_end {w W X : World} (B : Blk W w.heap.size zcc) (kW : Keeps w W) (k : Keeps W X) (c : Cl) : Blk (putC X w.heap.size 0 (cc c).toList) w.heap.size (cc c) ∧ Keeps w (putC X w.heap.size 0 (cc c).toList) :=
  ⟨(B.keeps k).putC _ rfl, Keeps.putC (Nat.le_refl _) _ 0 (kW.trans k)⟩
theorem find_first {p : Int → Bool} {j : Nat} (hj : j < 11) (h : ∀ k ∈ kindsL, k ≤ (j : Int) → p k = false) (hp : p ((j : Int) + 1) = true) : kindsL.find? p = some ((j : Int) + 1) := by
  have h2 : j = 0 ∨ j = 1 ∨ j = 2 ∨ j = 3 ∨ j = 4 ∨ j = 5 ∨ j = 6 ∨ j = 7 ∨ j = 8 ∨ j = 9 ∨ j = 10 := by omega
  have f : ∀ k ∈ kindsL, k ≤ (j : Int) → p k = false := h
  unfold kindsL at f
  simp only [List.mem_cons, List.not_mem_nil, or_false, forall_eq_or_imp, forall_eq] at f
  obtain ⟨f1, f2, f3, f4, f5, f6, f7, f8, f9, f10, f11⟩ := f
  clear h hj
  rcases h2 with rfl | rfl | rfl | rfl | rfl | rfl | rfl | rfl | rfl | rfl | rfl <;> simp at f1 f2 f3 f4 f5 f6 f7 f8 f9 f10 f11 hp ⊢ <;> simp [kindsL, *]
theorem find_never {p : Int → Bool} (h : ∀ k ∈ kindsL, k ≤ (11 : Int) → p k = false) : kindsL.find? p = none := by
  rw [List.find?_eq_none]
  intro k hk
  have : k ≤ 11 := by
    unfold kindsL at hk
    simp only [List.mem_cons, List.not_mem_nil, or_false] at hk
    omega
  rw [h k hk this]
  simp
theorem ownForm {α : Type} {e : TypeId} {sz : Nat} {c : α → Array Value} {w : World} {base : Nat} {v : Value} {xs : List α} (h : Own e sz c w base v xs) : ∃ a cap, v = .slice a xs.length cap := by
  obtain ⟨_, ⟨e, h0⟩ | ⟨b, cap, cur, e, _⟩⟩ := h
  · exact ⟨none, 0, by rw [e, h0]⟩
  · exact ⟨_, _, e⟩
set_option maxRecDepth 100000 in
set_option maxHeartbeats 8000000 in
theorem specCallParse_any (l : List UInt8) (w : World) (hl : l.length ≤ 1048576) :
    Calls Tryz.prog 13 #[strV l] w fun e w' => e = .returned (.tuple #[ck (parseC l), .bool (parseB l)]) ∧ Keeps w w' := by
  obtain ⟨w0, ws, hws⟩ := split_some l []
  have HW : Hid (wordsF l = w0 :: ws) := hws
  have HLw : Hid (∀ x ∈ w0 :: ws, x.length ≤ 1048576) := fun x hx => by
    have := split_long l [] x (by rw [hws]; exact hx)
    simp at this
    omega
  have hcnt : ws.length ≤ 1048576 := by
    have := split_count l []
    rw [hws] at this
    simp at this
    omega
  have HP : Hid (parseO l = if ws.all readB then (kindsL.find? (tryB l w0 (ws.map readI))).map (fun k => ofF k (ws.map readI)) else none) := parseO_of HW.out
  clear hws
  have kW : Keeps w ((w.alloc (.cells zcc 25)).alloc (.cells zcc 25)) := ((Keeps.refl w).alloc _).alloc _
  have B0 : Hid (Blk ((w.alloc (.cells zcc 25)).alloc (.cells zcc 25)) w.heap.size zcc) := (Blk.new _ _ _).alloc _
  have B1 : Hid (Blk ((w.alloc (.cells zcc 25)).alloc (.cells zcc 25)) (w.heap.size + 1) zcc) := by
    have := Blk.new (w.alloc (.cells zcc 25)) zcc 25
    show Blk _ _ _
    simpa using this
  go_enter Tryz.func13, Tryz.ntmps13
  go_wp2_with fail
  change Calls _ _ _ ((w.alloc (.cells zcc 25)).alloc (.cells zcc 25)) _
  generalize (w.alloc (.cells zcc 25)).alloc (.cells zcc 25) = W at *
  refine (l14Words_any l W hl).mono ?_
  rintro e w1 ⟨u, rfl, o1, k1⟩
  rw [HW.out] at o1
  obtain ⟨m, Hm⟩ : ∃ m, Hid (ws.length = m) := ⟨_, rfl⟩
  obtain ⟨ub, uc, eu⟩ := o1.blk (by simp)
  rw [show (w0 :: ws).length = m + 1 from by rw [List.length_cons, Hm.out]] at eu
  subst eu
  have hm : m ≤ 1048576 := by rw [← Hm.out]; exact hcnt
  have O1 : Hid (Own 9 1 sc w1 W.heap.size (.slice (some ⟨ub, 0, none⟩) (m + 1) uc) (w0 :: ws)) := o1
  have t0 : ∀ w', Keeps w1 w' → w'.cell? ⟨ub, 0, none⟩ = some (strV w0) := by
    obtain ⟨b', e2, h⟩ := rowText o1 (k := 0) (x := w0) rfl
    obtain rfl : ub = b' := by simpa using e2
    exact h
  have t1 : ∀ w', Keeps w1 w' → ∀ j, w'.cell? ⟨w.heap.size + 1, j, none⟩ = zcc[j]? := fun w' q => (B1.out.keeps (k1.trans q)).cells
  clear o1 hcnt
  go_upto_region 5 with fail
  have N0 : Hid (OwnN (w1.alloc (.cells #[] 3)) w1.heap.size (.slice (some ⟨w1.heap.size, 0, none⟩) 0 0) []) := Own.new 3 1 ic _ (Nat.le_refl _)
  go_loopw [6, 7] (fun o i wr => ∃ (k : Nat), k ≤ m ∧ i = .int .i64 ((k : Int) + 1) ∧ Hid ((ws.take k).all readB = true) ∧ Hid (OwnN wr w1.heap.size o ((ws.map readI).take k)) ∧ Hid (Keeps w1 wr)) (fun _ i _ => m + 1 - (intOf i).toNat)
  case atStart => exact ⟨0, Nat.zero_le _, rfl, by show _ = _; simp, N0, (Keeps.refl _).alloc _⟩
  case round =>
    obtain ⟨k, hk, rfl, HA, HO, hK⟩ := hrel
    clear N0
    by_cases hlt : k < m
    · have hlt' : decide ((k : Int) + 1 < ((m : Int) + 1)) = true := by simp; omega
      obtain ⟨x, hx⟩ := some_in (xs := ws) (k := k) (by rw [Hm.out]; exact hlt)
      obtain ⟨ub', e2, tx⟩ := rowText O1.out (k := k + 1) (x := x) (by simpa using hx)
      obtain rfl : ub = ub' := by simpa using e2
      have tx' : ∀ w', Keeps wr w' → w'.cell? ⟨ub, k + 1, none⟩ = some (strV x) := fun w' q => tx w' (hK.out.trans q)
      have ti : ((k : Int) + 1).toNat = k + 1 := by omega
      have cR := fun W' => l14Read_any x W' (HLw.out x (by simp [List.mem_of_getElem? hx]))
      have hxm : x ∈ ws := List.mem_of_getElem? hx
      have Hx : Hid (ws[k]? = some x) := hx
      clear hx e2 tx
      obtain ⟨rb, hrb⟩ : ∃ b, readB x = b := ⟨_, rfl⟩
      obtain ⟨ri, Hri⟩ : ∃ i, Hid (readI x = i) := ⟨_, rfl⟩
      rw [hrb, Hri.out] at cR
      have t1' : ∀ w', Keeps wr w' → ∀ j, w'.cell? ⟨w.heap.size + 1, j, none⟩ = zcc[j]? := fun w' q => t1 w' (hK.out.trans q)
      cases rb
      · have HN : Hid (parseB l = false ∧ parseC l = Cl.zero) := parse_no (by
          rw [HP.out, if_neg]
          intro hall
          have := List.all_eq_true.1 hall x hxm
          rw [hrb] at this
          cases this)
        obtain ⟨E1, E2⟩ := parse_end B0.out kW (k1.trans hK.out) Cl.zero
        obtain ⟨_, z1, z2⟩ := B0.out.keeps (k1.trans hK.out)
        clear HO HA
        go_wp2_with (go_at_call 36; refine (cR _).mono ?_; rintro e w' ⟨rfl, hw'⟩; have hw2 := hw'.symm; subst hw2)
        change bodyPost _ _ _ _ _ (putC wr w.heap.size 0 (cc Cl.zero).toList)
        generalize putC wr w.heap.size 0 (cc Cl.zero).toList = Q at E1 E2 ⊢
        exact bodyPost_ret (v := .tuple #[ck Cl.zero, .bool false]) (by simp [results, Tryz.results13, go_sem, E1.cells]) rfl ⟨by rw [HN.out.1, HN.out.2], E2⟩
      · have HA2 : Hid ((ws.take (k + 1)).all readB = true) := by
          show _ = _
          rw [List.take_add_one, Hx.out, List.all_append, HA.out]
          simp [hrb]
        have HL2 : Hid ((ws.map readI).take (k + 1) = (ws.map readI).take k ++ [ri]) := by
          show _ = _
          rw [List.take_add_one, List.getElem?_map, Hx.out]
          simp [Hri.out]
        have hlen : ((ws.map readI).take k).length ≤ 1048576 := by simp; omega
        go_wp2_with (first
          | (go_at_call 36; refine (cR _).mono ?_; rintro e w' ⟨rfl, hw'⟩; have hw2 := hw'.symm; subst hw2)
          | (at_builtin; (refine wpList_push rfl _ _ 41 rfl w1 3 (.int .i64 0) 1 8 ic Tryz.underlying41 (by kernel_rfl) rfl (by decide) ic_size ic_one _ ((ws.map readI).take k) rfl wr HO.out hK.out ((Keeps.refl _).alloc _) ri _ 1 (Blk.new _ _ _) rfl ?c1 ?c2 ?_)))
        case c1 => unfold maxLen; omega
        case c2 => omega
        intro v' w5 own5 k5 _
        have HO2 : Hid (OwnN w5 w1.heap.size v' ((ws.map readI).take (k + 1))) := by show OwnN _ _ _ _; rw [HL2.out]; exact own5
        have HK5 : Hid (Keeps w1 w5) := k5
        clear own5 HO k5
        go_wp2
        exact ⟨⟨k + 1, by omega, by go_num, HA2, HO2, HK5⟩, by simp only [intOf]; omega⟩
    · have hlt' : decide ((k : Int) + 1 < ((m : Int) + 1)) = false := by simp; omega
      have hkm : ws.take k = ws := List.take_of_length_le (by rw [Hm.out]; omega)
      have hall : ws.all readB = true := by have h := HA.out; rwa [hkm] at h
      obtain ⟨ns, Hns⟩ : ∃ ns, Hid (ws.map readI = ns) := ⟨_, rfl⟩
      have HN1 : Hid (OwnN wr w1.heap.size u6 ns) := by show OwnN _ _ _ _; have h := HO.out; rwa [List.take_of_length_le (by rw [List.length_map, Hm.out]; omega), Hns.out] at h
      have HP2 : Hid (parseO l = (kindsL.find? (tryB l w0 ns)).map (fun k => ofF k ns)) := by show _ = _; rw [HP.out, if_pos hall, Hns.out]
      clear HP HA HO hall hkm
      obtain ⟨wo, hwo⟩ : ∃ x, x = wr := ⟨_, rfl⟩
      subst hwo
      obtain ⟨na, nc, eN⟩ := ownForm HN1.out
      obtain ⟨q, Hq⟩ : ∃ q, Hid (ns.length = q) := ⟨_, rfl⟩
      rw [Hq.out] at eN
      subst eN
      have hq : q ≤ 1048576 := by have h := Hq.out; rw [← Hns.out, List.length_map, Hm.out] at h; omega
      have KR : Hid (Keeps W wo) := k1.trans hK.out
      have t0' : ∀ w', Keeps wo w' → w'.cell? ⟨ub, 0, none⟩ = some (strV w0) := fun w' g => t0 w' (hK.out.trans g)
      have t1' : ∀ w', Keeps wo w' → ∀ j, w'.cell? ⟨w.heap.size + 1, j, none⟩ = zcc[j]? := fun w' g => t1 w' (hK.out.trans g)
      have hkd : decide (k < m) = false := by simp; omega
      clear t0 t1 hK k1 O1 hlt'
      go_upto_region 12 with fail
      go_loopw [10] (fun i wq => ∃ j : Nat, j ≤ 11 ∧ i = .int .i64 ((j : Int) + 1) ∧ Hid (∀ k ∈ kindsL, k ≤ (j : Int) → tryB l w0 ns k = false) ∧ Hid (Keeps wo wq)) (fun i _ => 12 - (intOf i).toNat)
      case atStart => exact ⟨0, by omega, rfl, fun k hk h0 => by unfold kindsL at hk; simp only [List.mem_cons, List.not_mem_nil, or_false] at hk; omega, Keeps.refl _⟩
      case round =>
        obtain ⟨j, hj, rfl, HF, hKq⟩ := hrel
        by_cases hlt2 : j < 11
        · have hl2 : decide ((j : Int) + 1 ≤ 11) = true := by simp; omega
          obtain ⟨kk, Hkk⟩ : ∃ kk : Int, Hid ((j : Int) + 1 = kk) := ⟨_, rfl⟩
          have hkr : 1 ≤ kk ∧ kk ≤ 11 := by have := Hkk.out; omega
          have hkm : kk ∈ kindsL := by
            have h2 : kk = 1 ∨ kk = 2 ∨ kk = 3 ∨ kk = 4 ∨ kk = 5 ∨ kk = 6 ∨ kk = 7 ∨ kk = 8 ∨ kk = 9 ∨ kk = 10 ∨ kk = 11 := by omega
            unfold kindsL
            simp only [List.mem_cons, List.not_mem_nil, or_false]
            exact h2
          have HFn : Hid (tryB l w0 ns kk = false → ∀ k ∈ kindsL, k ≤ ((j + 1 : Nat) : Int) → tryB l w0 ns k = false) := fun h k hk hle => by
            by_cases e : k = kk
            · rw [e]; exact h
            · exact HF.out k hk (by have := Hkk.out; omega)
          obtain ⟨WD, HWD⟩ : ∃ x : List UInt8, Hid (wordL kk = x) := ⟨_, rfl⟩
          have cW : ∀ W', Calls Tryz.prog 27 #[.int .i64 ((j : Int) + 1)] W' fun e w' => e = .returned (strV WD) ∧ Keeps W' w' := fun W' => by rw [Hkk.out, ← HWD.out]; exact l14Word_any kk W' hkr
          have t0q : ∀ w', Keeps wr w' → w'.cell? ⟨ub, 0, none⟩ = some (strV w0) := fun w' g => t0' w' (hKq.out.trans g)
          have hne := run_strNe w0 WD
          have hm0 : (0 : Int) < (m : Int) + 1 := by omega
          go_upto_region 14 with fail
          cases e1 : (w0 == WD)
          · have HT : Hid (tryB l w0 ns kk = false) := by show _ = _; unfold tryB; rw [HWD.out, e1]; rfl
            rw [e1] at hne
            refine wp_region_held_drew (S := (fun w' => Keeps wr w')) (by kernel_rfl) ?_ (fun hHeld => ?_)
            · exact (Keeps.refl wr).drew
            refine Plan.go [0, 1, 2, 3] ?_
            iterate 4 (refine takeL (by simp only [opsAt]; rfl) (by kernel_rfl) (by exact fun _ _ _ h => h) (by rfl) (by assumption) (fun w _ => by go_simp; try (with_reducible rfl)) ?_; try simp only [putAtH])
            refine Plan.nil ?_
            refine callH 4 (by kernel_rfl) (by simp only [opsAt]; rfl) (fun K hK => ?_)
            go_simp
            (go_at_call 27; refine (cW _).mono ?_; rintro e w5 ⟨rfl, k5⟩)
            try go_wp2_with fail
            refine hK.out _ _ ?_ (fun hHeld => ?_)
            · exact Keeps.trans (by assumption) (by assumption)
            clear hK K
            try simp only [putAtH]
            refine Plan.go [5, 6] ?_
            iterate 2 (refine takeL (by simp only [opsAt]; rfl) (by kernel_rfl) (by exact fun _ _ _ h => h) (by rfl) (by assumption) (fun w _ => by go_simp; try (with_reducible rfl)) ?_; try simp only [putAtH])
            refine Plan.nil ?_
            refine Plan.go [7, 8, 9, 10, 11, 12, 13] ?_
            iterate 7 (refine skipL (by simp only [opsAt]; rfl) (by kernel_rfl) (by exact fun _ _ _ h => h) (by rfl) (by assumption) ?_; try simp only [putAtH])
            refine Plan.nil ?_
            refine takeH 14 (v := ?_) (by simp only [opsAt]; rfl) (by kernel_rfl) (by exact fun _ _ _ h => h) (by rfl) (by assumption) ?_ ?_
            rotate_left
            · (intro w _; go_simp; try (with_reducible rfl))
            try simp only [putAtH]
            refine wpAnyH_done (by kernel_rfl) ?_ _
            have K5 : Keeps wr w5 := by assumption
            go_wp2
            exact ⟨⟨j + 1, by omega, by go_num, HFn.out HT.out, hKq.out.trans K5⟩, by simp only [intOf]; omega⟩
          rw [e1] at hne
          have cN : ∀ W', Calls Tryz.prog 28 #[ck ⟨(j : Int) + 1, 0, 0, 0, 0⟩] W' fun e w' => ∃ b n, e = .returned (.slice (some ⟨b, 0, none⟩) n n) ∧ (numsL ⟨kk, 0, 0, 0, 0⟩).length = n ∧ Keeps W' w' := fun W' => (l14Nums_any ⟨(j : Int) + 1, 0, 0, 0, 0⟩ W').mono fun e w' ⟨b, n, h1, h2, _, h4⟩ => ⟨b, n, h1, by rw [← Hkk.out]; exact h2, h4⟩
          refine wp_region_held_drew (S := (fun w' => Keeps wr w')) (by kernel_rfl) ?_ (fun hHeld => ?_)
          · exact (Keeps.refl wr).drew
          refine Plan.go [0, 1, 2, 3] ?_
          iterate 4 (refine takeL (by simp only [opsAt]; rfl) (by kernel_rfl) (by exact fun _ _ _ h => h) (by rfl) (by assumption) (fun w _ => by go_simp; try (with_reducible rfl)) ?_; try simp only [putAtH])
          refine Plan.nil ?_
          refine callH 4 (by kernel_rfl) (by simp only [opsAt]; rfl) (fun K hK => ?_)
          go_simp
          first
            | (go_at_call 27; refine (cW _).mono ?_; rintro e w5 ⟨rfl, k5⟩)
            | (go_at_call 28; refine (cN _).mono ?_; rintro e w6 ⟨nb, nn, rfl, hnn, k6⟩)
          try go_wp2_with fail
          refine hK.out _ _ ?_ (fun hHeld => ?_)
          · exact Keeps.trans (by assumption) (by assumption)
          clear hK K
          try simp only [putAtH]
          refine Plan.go [5, 6, 7, 8, 9, 10] ?_
          iterate 6 (refine takeL (by simp only [opsAt]; rfl) (by kernel_rfl) (by exact fun _ _ _ h => h) (by rfl) (by assumption) (fun w _ => by go_simp; try (with_reducible rfl)) ?_; try simp only [putAtH])
          refine Plan.nil ?_
          refine callH 11 (by kernel_rfl) (by simp only [opsAt]; rfl) (fun K hK => ?_)
          go_simp
          first
            | (go_at_call 27; refine (cW _).mono ?_; rintro e w5 ⟨rfl, k5⟩)
            | (go_at_call 28; refine (cN _).mono ?_; rintro e w6 ⟨nb, nn, rfl, hnn, k6⟩)
          try go_wp2_with fail
          refine hK.out _ _ ?_ (fun hHeld => ?_)
          · exact Keeps.trans (by assumption) (by assumption)
          clear hK K
          try simp only [putAtH]
          refine Plan.go [12, 13, 14] ?_
          iterate 3 (refine takeL (by simp only [opsAt]; rfl) (by kernel_rfl) (by exact fun _ _ _ h => h) (by rfl) (by assumption) (fun w _ => by go_simp; try (with_reducible rfl)) ?_; try simp only [putAtH])
          refine Plan.nil ?_
          refine wpAnyH_done (by kernel_rfl) ?_ _
          have K6 : Keeps wr w6 := by assumption
          have hnl := numsL_length ⟨kk, 0, 0, 0, 0⟩
          by_cases e2 : q = nn
          rotate_left
          · have HT : Hid (tryB l w0 ns kk = false) := by
              show _ = _
              unfold tryB
              rw [Hq.out, hnn, show (q == nn) = false from by simpa using e2]
              simp
            have hd : ((q : Int) != (nn : Int)) = true := by simp; omega
            clear k5 k6 hHeld
            go_wp2
            exact ⟨⟨j + 1, by omega, by go_num, HFn.out HT.out, hKq.out.trans K6⟩, by simp only [intOf]; omega⟩
          subst e2
          have hd : ((q : Int) != (q : Int)) = false := by simp
          obtain ⟨nbk, ncp, eB⟩ := HN1.out.blk (by rw [Hq.out]; omega)
          simp only [Value.slice.injEq] at eB
          obtain ⟨rfl, -, -⟩ := eB
          have HNs : Hid (Ns wo (some ⟨nbk, 0, none⟩) ns) := by
            refine .inr ⟨nbk, 0, rfl, (HN1.out.ltb nbk rfl).2, fun i x hx => ?_⟩
            have h := HN1.out
            rw [← Hq.out] at h
            have h2 := h.cellAt ic_size hx (k := 0) (by omega)
            simpa using h2
          obtain ⟨C, HC⟩ : ∃ C, Hid (ofF kk ns = C) := ⟨_, rfl⟩
          have cO : ∀ W', Keeps wo W' → Calls Tryz.prog 37 #[.int .i64 ((j : Int) + 1), .slice (some ⟨nbk, 0, none⟩) q nc] W' fun e w' => e = .returned (ck C) ∧ Keeps W' w' := fun W' g => by
            have h := l14Of_any ((j : Int) + 1) ns nbk q nc W' (by rw [Hkk.out]; exact hkm) Hq.out (by rw [Hkk.out, hnn]; exact Hq.out) (HNs.out.keeps g)
            rw [Hkk.out, HC.out] at h
            rw [Hkk.out]
            exact h
          obtain ⟨LB, HLB⟩ : ∃ b, Hid (lineB C = b) := ⟨_, rfl⟩
          obtain ⟨LL, HLL⟩ : ∃ x : List UInt8, Hid (lineL C = x) := ⟨_, rfl⟩
          have cL : ∀ W', Calls Tryz.prog 8 #[ck C] W' fun e w' => e = .returned (.tuple #[strV LL, .bool LB]) ∧ Keeps W' w' := fun W' => by
            have h := specCallLine_any C W'
            rw [HLL.out, HLB.out] at h
            exact h
          have HTy : Hid (tryB l w0 ns kk = (LB && LL == l)) := by
            show _ = _
            unfold tryB
            rw [HWD.out, e1, Hq.out, hnn, HC.out, HLB.out, HLL.out]
            simp
          clear k5 k6 hHeld cN cW
          go_upto_region 16 with (go_at_call 37; refine (cO _ (hKq.out.trans K6)).mono ?_; rintro e w7 ⟨rfl, k7⟩)
          have KX : Hid (Keeps wo (w7.alloc (.cells (cc C) 25))) := ((hKq.out.trans K6).trans k7).alloc _
          have hX := blkR w7 (cc C) 25
          change Code.wp _ _ _ _ (w7.alloc (.cells (cc C) 25))
          clear k7 cO
          generalize w7.alloc (.cells (cc C) 25) = X at *
          generalize w7.heap.size = xb at *
          have heq := run_strEq LL l
          cases LB
          · have HT : Hid (tryB l w0 ns kk = false) := by show _ = _; rw [HTy.out]; rfl
            go_wp2_with (go_at_call 8; refine (cL _).mono ?_; rintro e w8 ⟨rfl, k8⟩)
            exact ⟨⟨j + 1, by omega, by go_num, HFn.out HT.out, KX.out.trans k8⟩, by simp only [intOf]; omega⟩
          cases e3 : (LL == l)
          · rw [e3] at heq
            have HT : Hid (tryB l w0 ns kk = false) := by show _ = _; rw [HTy.out, e3]; rfl
            go_wp2_with (go_at_call 8; refine (cL _).mono ?_; rintro e w8 ⟨rfl, k8⟩)
            exact ⟨⟨j + 1, by omega, by go_num, HFn.out HT.out, KX.out.trans k8⟩, by simp only [intOf]; omega⟩
          rw [e3] at heq
          have HT : tryB l w0 ns ((j : Int) + 1) = true := by rw [Hkk.out, HTy.out, e3]; rfl
          have HN : Hid (parseB l = true ∧ parseC l = C) := parse_yes (by rw [HP2.out, find_first hlt2 HF.out HT, Option.map_some, Hkk.out, HC.out])
          clear HT
          go_upto_region 18 with (go_at_call 8; refine (cL _).mono ?_; rintro e w8 ⟨rfl, k8⟩)
          obtain ⟨E1, E2⟩ := parse_end B0.out kW (KR.out.trans (KX.out.trans k8)) C
          obtain ⟨_, z1, z2⟩ := B0.out.keeps (KR.out.trans (KX.out.trans k8))
          have hX8 := hX w8 k8
          clear hX
          go_wp2
          change bodyPost _ _ _ _ _ (putC w8 w.heap.size 0 (cc C).toList)
          generalize putC w8 w.heap.size 0 (cc C).toList = Q at E1 E2 ⊢
          exact bodyPost_ret (v := .tuple #[ck C, .bool true]) (by simp [results, Tryz.results13, go_sem, E1.cells]) rfl ⟨by rw [HN.out.1, HN.out.2], E2⟩
        · obtain rfl : j = 11 := by omega
          have hl2 : decide (((11 : Nat) : Int) + 1 ≤ 11) = false := by decide
          have HN : Hid (parseB l = false ∧ parseC l = Cl.zero) := parse_no (by rw [HP2.out, find_never HF.out]; rfl)
          obtain ⟨E1, E2⟩ := parse_end B0.out kW (KR.out.trans hKq.out) Cl.zero
          obtain ⟨_, z1, z2⟩ := B0.out.keeps (KR.out.trans hKq.out)
          have t1q := t1' wr hKq.out
          go_wp2
          change bodyPost _ _ _ _ _ (putC wr w.heap.size 0 (cc Cl.zero).toList)
          generalize putC wr w.heap.size 0 (cc Cl.zero).toList = Q at E1 E2 ⊢
          exact bodyPost_ret (v := .tuple #[ck Cl.zero, .bool false]) (by simp [results, Tryz.results13, go_sem, E1.cells]) rfl ⟨by rw [HN.out.1, HN.out.2], E2⟩
end Go.Proofs.YtpikopdfkhagmaaGreatDoor
