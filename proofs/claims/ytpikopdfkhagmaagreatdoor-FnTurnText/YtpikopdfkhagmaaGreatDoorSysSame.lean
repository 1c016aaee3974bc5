/-
  Sums of parts of time: contracts of the model's SumOf and Fits.
  The system: contracts of the model's functions that only read it.
  The system: the parts of time that are counted on a processor.
  The system: of the same processor.
-/
import Derived.Test.YtpikopdfkhagmaaGreatDoorSum
import Derived.Test.YtpikopdfkhagmaaGreatDoorSysBase
import Derived.Deep.RegionHeld3
namespace Go.Proofs.YtpikopdfkhagmaaGreatDoor
open Go.RowKit Plain
attribute [local go_sem] Keeps.refl Keeps.alloc Keeps.drew Keeps.drewN

set_option maxRecDepth 100000 in
set_option maxHeartbeats 1600000 in
theorem specSumOf_any (a : Option Addr) (cap : Nat) (xs : List (Int × Int)) (w : World) (hl : xs.length ≤ maxLen) (hs : Sh w a xs) :
    Calls Tryz.prog 88 #[.slice a xs.length cap] w fun e w' => e = .returned (.tuple #[.int .i64 (sumOfV xs).1, .int .i64 (sumOfV xs).2.1, .bool (sumOfV xs).2.2]) ∧ Keeps w w' := by
  unfold maxLen at hl
  generalize hn : xs.length = n at hl
  have Hn : Hid (xs.length = n) := hn
  by_cases h7 : 7 < n
  · have Hr : Hid (sumOfV xs = (0, 0, false)) := sumOfV_no (by simp [canSumB, hn]; omega)
    clear hn
    go_enter Tryz.func88, Tryz.ntmps88
    go_wp2
    go_ret3
    exact ⟨by rw [Hr.out]; rfl, Keeps.refl _⟩
  · clear hn
    have h7' : n ≤ 7 := by omega
    go_enter Tryz.func88, Tryz.ntmps88
    go_wp2
    go_loopw [5, 6, 7] (fun s t i wr => ∃ k : Nat, k ≤ n ∧ i = .int .i64 k ∧ ∃ nn dd : Int, s = .int .i64 nn ∧ t = .int .i64 dd ∧ Hid (sumI (xs.take k) = (nn, dd)) ∧ Inv k (nn, dd) ∧ Hid (okAll (xs.take k) = true) ∧ Keeps w wr) (fun _ _ i _ => n - (intOf i).toNat)
    case atStart => exact ⟨0, Nat.zero_le _, rfl, 0, 1, rfl, rfl, rfl, inv_zero, by simp [Hid, okAll], Keeps.refl _⟩
    case round =>
      obtain ⟨k, hk, rfl, nn, dd, rfl, rfl, hsum, hI, hok, hK⟩ := hrel
      by_cases hlt : k < n
      · obtain ⟨b, off, q, p, rfl, e, c0, c1⟩ := hs.at (by rw [Hn.out]; exact hlt)
        have E : Hid (xs.getD k (0, 0) = (q, p)) := e
        clear e
        have r0 := Keeps.has c0
        have r1 := Keeps.has c1
        have hlt' : (k : Int) < (n : Int) := by omega
        clear c0 c1 hs
        cases ho : okB q p
        · have Hf : Hid (sumOfV xs = (0, 0, false)) := by
            refine sumOfV_no ?_
            have := okAll_no (k := k) (by rw [Hn.out]; exact hlt) (by rw [E.out]; exact ho)
            simp [canSumB, this]
          go_wp2_with (go_at_call 87; refine (specShareOk_k _ _ _).mono ?_; rintro e w1 ⟨rfl, hb⟩; have kk : Keeps w w1 := hK.trans hb)
          go_ret3
          exact ⟨by rw [Hf.out]; rfl, kk⟩
        · have Hf : Hid (okAll (xs.take (k + 1)) = true) := by
            show _ = _
            rw [okAll_snoc xs k (by rw [Hn.out]; exact hlt), hok.out, E.out]; exact ho
          obtain ⟨⟨hp1, hp2⟩, hq1, hq2⟩ := okB_iff.1 ho
          obtain ⟨b1, b2, b3, b4, b5, b6, b7, b8⟩ := step_bd hI (by omega) hp1 hp2 hq1 hq2
          have hI' := step_next hI hp1 hp2 hq1 hq2
          have Hs : Hid (sumI (xs.take (k + 1)) = stepQ (nn, dd) (q, p)) := by
            show _ = _
            rw [sumI_take xs k (by rw [Hn.out]; exact hlt), hsum.out, E.out]
          clear hI
          go_wp2_with (go_at_call 87; refine (specShareOk_k _ _ _).mono ?_; rintro e w1 ⟨rfl, hb⟩; have kk : Keeps w w1 := hK.trans hb)
          go_quiet (fail)
          go_wp2_with (go_at_call 110; refine (l1Gcd_int _ _ _ ?_ ?_ ?_ ?_).mono ?_; omega; omega; omega; omega; rintro e w1 ⟨rfl, m, rfl⟩)
          refine ⟨⟨k + 1, by omega, by go_num, _, _, rfl, rfl, Hs, hI', Hf, kk.drewN _⟩, by simp only [intOf]; omega⟩
      · have Hf : Hid (sumOfV xs = (nn, dd, true)) := by
          have h1 := hsum.out
          have h2 := hok.out
          rw [List.take_of_length_le (by rw [Hn.out]; omega)] at h1 h2
          show _ = _
          rw [sumOfV_yes (canSumB_iff.2 ⟨by rw [Hn.out]; exact h7', h2⟩), h1]
        go_wp2
        go_ret3
        exact ⟨by rw [Hf.out]; rfl, hK⟩

set_option maxRecDepth 100000 in
set_option maxHeartbeats 1000000 in
theorem specFits_any (a : Option Addr) (cap : Nat) (xs : List (Int × Int)) (w : World) (hl : xs.length ≤ maxLen) (hs : Sh w a xs) :
    Calls Tryz.prog 69 #[.slice a xs.length cap] w fun e w' => e = .returned (.bool (canSumB xs && decide ((sumI xs).1 ≤ (sumI xs).2))) ∧ Keeps w w' := by
  cases hc : canSumB xs
  · have Hr : Hid (sumOfV xs = (0, 0, false)) := sumOfV_no hc
    go_enter Tryz.func69, Tryz.ntmps69
    go_wp2_with (go_at_call 88; refine (specSumOf_any _ _ _ _ hl hs).mono ?_; rintro e w1 ⟨rfl, hb⟩; rw [Hr.out])
    go_ret
    exact ⟨rfl, hb⟩
  · have Hr : Hid (sumOfV xs = ((sumI xs).1, (sumI xs).2, true)) := sumOfV_yes hc
    generalize (sumI xs).1 = s1 at *
    generalize (sumI xs).2 = s2 at *
    go_enter Tryz.func69, Tryz.ntmps69
    go_wp2_with (go_at_call 88; refine (specSumOf_any _ _ _ _ hl hs).mono ?_; rintro e w1 ⟨rfl, hb⟩; rw [Hr.out])
    go_ret
    exact ⟨rfl, hb⟩
end Go.Proofs.YtpikopdfkhagmaaGreatDoor
namespace Go.Proofs.YtpikopdfkhagmaaGreatDoor
open Go.RowKit
attribute [local go_sem] Keeps.refl Keeps.alloc Keeps.drew Keeps.drewN

theorem take_snoc {α : Type} {xs : List α} {k : Nat} {x : α} (h : xs[k]? = some x) : xs.take (k + 1) = xs.take k ++ [x] := by
  have hk := lt_of_some h
  rw [List.getElem?_eq_getElem hk] at h
  simp only [Option.some.injEq] at h
  rw [List.take_succ_eq_append_getElem hk, h]
theorem getD_at {α : Type} {xs : List α} {k : Nat} {x d : α} (h : xs[k]? = some x) : xs.getD k d = x := by simp [List.getD, h]
set_option maxRecDepth 100000 in
set_option maxHeartbeats 1000000 in
theorem specFloorOn_any {w : World} {v : Sv} {s : Sy} (h : SysOn w v s) (cpu : Int) :
    Calls Tryz.prog 90 #[.agg (syc s v), .int .i64 cpu] w fun e w' => e = .returned (.int .i64 (floorI s cpu)) ∧ Keeps w w' := by
  have hm : v.f.n ≤ 2000000 := by have := h.size; have := h.lay.fl; unfold sizeS at *; omega
  have e1 : IntKind.i64.wrap ((v.f.n : Int) - 1) = (v.f.n : Int) - 1 := Go.IntWalk.i64_in _ (by omega)
  have HF : Hid (floorI s cpu = if inB cpu 0 ((v.f.n : Int) - 1) then s.floors.getD cpu.toNat 0 else 0) := by show _ = _; unfold floorI; rw [h.lay.fl]
  cases hc : inB cpu 0 ((v.f.n : Int) - 1)
  · have Hr : Hid (floorI s cpu = 0) := by show _ = _; rw [HF.out, hc]; rfl
    go_enter Tryz.func90, Tryz.ntmps90
    go_wp2_with (go_at_call 29; refine (l1In_any _ _ _ _).mono ?_; rintro e w' ⟨rfl, hw'⟩; have hw2 := hw'.symm; subst hw2; rw [hc])
    go_ret
    exact ⟨by rw [Hr.out]; rfl, (Keeps.refl _).alloc _⟩
  · obtain ⟨c0, c1⟩ := inB_iff.1 hc
    obtain ⟨k, rfl⟩ : ∃ k : Nat, cpu = (k : Int) := ⟨cpu.toNat, by omega⟩
    obtain ⟨x, hx⟩ := some_in (xs := s.floors) (k := k) (by rw [h.lay.fl]; omega)
    obtain ⟨b, off, ha, r0⟩ := h.lay.f.at hx
    have Hr : Hid (floorI s k = x) := by show _ = _; rw [HF.out, hc, if_pos rfl, Int.toNat_natCast, getD_at hx]
    have hlt : (k : Int) < (v.f.n : Int) := by omega
    have r1 : ∀ w', Keeps w w' → w'.cell? ⟨b, off + k, none⟩ = some (.int .i64 x) := r0
    clear HF hx r0 h
    go_enter Tryz.func90, Tryz.ntmps90
    go_wp2_with (go_at_call 29; refine (l1In_any _ _ _ _).mono ?_; rintro e w' ⟨rfl, hw'⟩; have hw2 := hw'.symm; subst hw2; rw [hc])
    go_ret
    exact ⟨by rw [Hr.out]; rfl, (Keeps.refl _).alloc _⟩

set_option maxRecDepth 100000 in
set_option maxHeartbeats 2000000 in
theorem l9Ghosts_any {w : World} {v : Sv} {s : Sy} (h : SysOn w v s) (hc : 1 ≤ s.cpus ∧ s.cpus ≤ 4) :
    Calls Tryz.prog 68 #[.agg (syc s v)] w fun e w' => e = .returned (.bool (ghostsB s)) ∧ Keeps w w' := by
  obtain ⟨hc1, hc2⟩ := hc
  have hm : v.g.n ≤ 2000000 := by have := h.size; have := h.lay.gl; unfold sizeS at *; omega
  have Hn : Hid (s.ghosts.length = v.g.n) := h.lay.gl
  have hs : Gs w v.g.a s.ghosts := h.lay.g
  have e1 : IntKind.i64.wrap (s.cpus - 1) = s.cpus - 1 := Go.IntWalk.i64_in _ (by omega)
  clear h
  have kW := blkK w (.cells (syc s v) 43)
  have hb := blkR w (syc s v) 43
  have hs1 := hs.keeps kW
  clear hs
  go_enter Tryz.func68, Tryz.ntmps68
  go_wp2
  generalize w.alloc (.cells (syc s v) 43) = W at *
  go_loopw [3] (fun i wr => ∃ k : Nat, k ≤ v.g.n ∧ i = .int .i64 k ∧ Hid ((s.ghosts.take k).all (ghB s.cpus) = true) ∧ Keeps W wr) (fun i _ => v.g.n - (intOf i).toNat)
  case atStart => exact ⟨0, Nat.zero_le _, rfl, by show _ = _; simp, Keeps.refl _⟩
  case round =>
    obtain ⟨k, hk, rfl, HA, hK⟩ := hrel
    by_cases hlt : k < v.g.n
    · obtain ⟨g, hg⟩ := some_in (xs := s.ghosts) (k := k) (by rw [Hn.out]; exact hlt)
      obtain ⟨b, off, ha, r0, r1⟩ := hs1.at hg (by omega)
      have hlt' : (k : Int) < (v.g.n : Int) := by omega
      have Hg : Hid (s.ghosts[k]? = some g) := hg
      have Hstep : Hid ((s.ghosts.take (k + 1)).all (ghB s.cpus) = ghB s.cpus g) := by
        show _ = _
        rw [take_snoc hg, List.all_append, HA.out]
        simp
      have Hno : Hid (ghB s.cpus g = false → ghostsB s = false) := fun e => by
        unfold ghostsB
        rw [List.all_eq_false.2 ⟨g, List.mem_of_getElem? hg, by rw [e]; simp⟩]
        rfl
      clear hg hs1 Hg
      go_wp2_with fail
      have K0 : Keeps W (wr.alloc (.cells (ghc g) 129)) := hK.alloc _
      have hX := blkR wr (ghc g) 129
      change Calls _ _ _ (wr.alloc (.cells (ghc g) 129)) _
      generalize wr.alloc (.cells (ghc g) 129) = X at *
      refine (l1In_any _ _ _ _).mono ?_
      rintro e w' ⟨rfl, hw'⟩
      have hw2 := hw'.symm
      subst hw2
      cases c1 : inB g.cpu 0 (s.cpus - 1)
      · have Hr : Hid (ghostsB s = false) := Hno.out (by unfold ghB; rw [c1]; rfl)
        go_wp2
        go_ret
        exact ⟨by rw [Hr.out]; rfl, kW.trans K0⟩
      go_wp2_with fail
      refine (specShareOk_k g.q g.p _).mono ?_
      rintro e w1 ⟨rfl, k1⟩
      have K1 : Keeps W w1 := K0.trans k1
      cases c2 : okB g.q g.p
      · have Hr : Hid (ghostsB s = false) := Hno.out (by unfold ghB; rw [c1, c2]; rfl)
        go_wp2
        go_ret
        exact ⟨by rw [Hr.out]; rfl, kW.trans K1⟩
      go_wp2_with fail
      refine (l1In_any _ _ _ _).mono ?_
      rintro e w' ⟨rfl, hw'⟩
      have hw2 := hw'.symm
      subst hw2
      cases c3 : inB g.til 0 100040
      · have Hr : Hid (ghostsB s = false) := Hno.out (by unfold ghB; rw [c1, c2, c3]; rfl)
        go_wp2
        go_ret
        exact ⟨by rw [Hr.out]; rfl, kW.trans K1⟩
      have HG : Hid ((s.ghosts.take (k + 1)).all (ghB s.cpus) = true) := by show _ = _; rw [Hstep.out]; unfold ghB; rw [c1, c2, c3]; rfl
      go_wp2
      exact ⟨⟨k + 1, by omega, by go_num, HG, K1⟩, by simp only [intOf]; omega⟩
    · have hlt' : decide ((k : Int) < (v.g.n : Int)) = false := by simp; omega
      have Hr : Hid (ghostsB s = decide ((v.g.n : Int) ≤ 12)) := by
        have h1 := HA.out
        rw [List.take_of_length_le (by have := Hn.out; omega)] at h1
        show _ = _
        unfold ghostsB
        rw [h1, Hn.out, Bool.true_and]
        congr 1
        exact propext (by omega)
      go_wp2
      go_ret
      exact ⟨by rw [Hr.out]; rfl, kW.trans hK⟩
end Go.Proofs.YtpikopdfkhagmaaGreatDoor
namespace Go.Proofs.YtpikopdfkhagmaaGreatDoor
open Go.RowKit
attribute [local go_sem] Keeps.refl Keeps.alloc Keeps.drew Keeps.drewN

abbrev pc (x : Int × Int) : Array Value := #[.int .i64 x.1, .int .i64 x.2]
theorem pc_size (x : Int × Int) : (pc x).size = 2 := rfl
theorem pc_one (x : Int × Int) : ∀ u ∈ (pc x).toList, u.oneCell' = true := by
  intro u hu
  simp at hu
  rcases hu with rfl | rfl <;> rfl
abbrev OwnP (w : World) (base : Nat) (v : Value) (xs : List (Int × Int)) : Prop := Own 127 2 pc w base v xs
theorem sh_of_lies {w : World} {a : Option Addr} {xs : List (Int × Int)} (h : Lies 2 pc w a xs) : Sh w a xs := by
  rcases h with h | ⟨b, off, rfl, hb, h⟩
  · exact .inl h
  · refine .inr ⟨b, off, rfl, fun i hi => ?_⟩
    obtain ⟨x, hx⟩ := some_in hi
    have e : xs.getD i (0, 0) = x := getD_at hx
    rw [e]
    exact ⟨by simpa using h i x hx 0 (by omega), by simpa using h i x hx 1 (by omega)⟩
theorem filter_snoc {α β : Type} (p : α → Bool) (f : α → β) {xs : List α} {k : Nat} {x : α} (h : xs[k]? = some x) : ((xs.take (k + 1)).filter p).map f = ((xs.take k).filter p).map f ++ (if p x then [f x] else []) := by
  rw [take_snoc h, List.filter_append, List.map_append]
  congr 1
  cases e : p x <;> simp [e]
set_option maxRecDepth 100000 in
set_option maxHeartbeats 4000000 in
theorem l9Shares_any {w : World} {v : Sv} {s : Sy} (h : SysOn w v s) (cpu : Int) :
    Calls Tryz.prog 70 #[.agg (syc s v), .int .i64 cpu] w fun e w' => ∃ u, e = .returned u ∧ OwnP w' w.heap.size u (sharesL s cpu) ∧ Keeps w w' := by
  have hm : v.t.n ≤ 2000000 ∧ v.g.n ≤ 2000000 := by have := h.size; have := h.lay.gl; have := h.lay.tl; unfold sizeS at *; omega
  obtain ⟨hm1, hm2⟩ := hm
  have Hn : Hid (s.tasks.length = v.t.n) := h.lay.tl
  have Hg : Hid (s.ghosts.length = v.g.n) := h.lay.gl
  have kW := blkK w (.cells (syc s v) 43)
  have hb := blkR w (syc s v) 43
  have hs1 : Hid (Ts (w.alloc (.cells (syc s v) 43)) v.t.a s.tasks) := h.lay.t.keeps kW
  have hs2 : Hid (Gs (w.alloc (.cells (syc s v) 43)) v.g.a s.ghosts) := h.lay.g.keeps kW
  clear h
  have HE : Hid (sharesL s cpu = (s.tasks.filter (dueOn cpu)).map partT ++ (s.ghosts.filter (ghOn cpu)).map partG) := rfl
  go_enter Tryz.func70, Tryz.ntmps70
  go_wp2
  have O0 : Hid (OwnP ((w.alloc (.cells (syc s v) 43)).alloc (.cells #[] 127)) (w.alloc (.cells (syc s v) 43)).heap.size (.slice (some ⟨(w.alloc (.cells (syc s v) 43)).heap.size, 0, none⟩) 0 0) []) := Own.new 127 2 pc _ (Nat.le_refl _)
  have hz : (w.alloc (.cells (syc s v) 43)).heap.size = w.heap.size + 1 := by simp
  rw [hz] at O0
  have HW : Hid (w.heap.size ≤ (w.alloc (.cells (syc s v) 43)).heap.size) := by show _ ≤ _; omega
  have Hz : Hid ((w.alloc (.cells (syc s v) 43)).heap.size = w.heap.size + 1) := hz
  clear hz
  generalize w.alloc (.cells (syc s v) 43) = W at *
  go_loopw [5, 6] (fun o i wr => ∃ (k : Nat) (xs : List (Int × Int)), k ≤ v.t.n ∧ i = .int .i64 k ∧ xs.length ≤ k ∧ Hid (xs = ((s.tasks.take k).filter (dueOn cpu)).map partT) ∧ Hid (OwnP wr W.heap.size o xs) ∧ Keeps W wr) (fun _ i _ => v.t.n - (intOf i).toNat)
  case atStart => exact ⟨0, [], Nat.zero_le _, rfl, by simp, by show _ = _; simp, by show OwnP _ _ _ _; rw [Hz.out]; exact O0.out, (Keeps.refl _).alloc _⟩
  case round =>
    obtain ⟨k, xs, hk, rfl, hxl, HX, O, hK⟩ := hrel
    clear O0
    by_cases hlt : k < v.t.n
    · obtain ⟨t, ht⟩ := some_in (xs := s.tasks) (k := k) (by rw [Hn.out]; exact hlt)
      obtain ⟨b, off, ha, r0, r1⟩ := hs1.out.at ht (by omega)
      have hlt' : (k : Int) < (v.t.n : Int) := by omega
      have Hstep := filter_snoc (dueOn cpu) partT ht
      rw [← HX.out] at Hstep
      have HS : Hid (((s.tasks.take (k + 1)).filter (dueOn cpu)).map partT = xs ++ (if dueOn cpu t then [partT t] else [])) := Hstep
      clear ht Hstep
      cases c1 : (t.cpu == cpu)
      · have Hx : Hid (xs = ((s.tasks.take (k + 1)).filter (dueOn cpu)).map partT) := by show _ = _; rw [HS.out]; simp [dueOn, c1]
        go_wp2
        exact ⟨⟨k + 1, xs, by omega, by go_num, by omega, Hx, O.out.keeps ((Keeps.refl _).alloc _), hK.alloc _⟩, by simp only [intOf]; omega⟩
      cases c2 : (t.cls == 1)
      · have Hx : Hid (xs = ((s.tasks.take (k + 1)).filter (dueOn cpu)).map partT) := by show _ = _; rw [HS.out]; simp [dueOn, c1, c2]
        go_wp2
        exact ⟨⟨k + 1, xs, by omega, by go_num, by omega, Hx, O.out.keeps ((Keeps.refl _).alloc _), hK.alloc _⟩, by simp only [intOf]; omega⟩
      have Hx : Hid (xs ++ [(t.q, t.p)] = ((s.tasks.take (k + 1)).filter (dueOn cpu)).map partT) := by show _ = _; rw [HS.out]; simp [dueOn, c1, c2, partT]
      go_wp2_with (at_builtin; (refine wpList_push rfl _ _ 110 rfl W 127 (.agg (pc (0, 0))) 2 16 pc Tryz.underlying110 (by kernel_rfl) rfl (by decide) pc_size pc_one _ xs rfl wr O.out hK (((Keeps.refl _).alloc _).alloc _) (t.q, t.p) (wr.heap.size + 1) 1 (by have := Blk.new (wr.alloc (.cells (tc t) 90)) (pc (t.q, t.p)) 127; simpa using this) rfl ?c1 ?c2 ?_))
      case c1 => unfold maxLen; omega
      case c2 => omega
      intro v' w5 own5 k5 _
      have HO : Hid (OwnP w5 W.heap.size v' (xs ++ [(t.q, t.p)])) := own5
      clear own5 O
      go_wp2
      exact ⟨⟨k + 1, xs ++ [(t.q, t.p)], by omega, by go_num, by simp; omega, Hx, HO, k5⟩, by simp only [intOf]; omega⟩
    · have hlt' : decide ((k : Int) < (v.t.n : Int)) = false := by simp; omega
      have HP : Hid ((s.tasks.filter (dueOn cpu)).map partT = xs) := by
        have h1 := HX.out
        rw [List.take_of_length_le (by have := Hn.out; omega)] at h1
        exact h1.symm
      clear HX
      go_wp2
      generalize wr = V at *
      go_loopw [5, 8] (fun o i wr => ∃ (j : Nat) (ys : List (Int × Int)), j ≤ v.g.n ∧ i = .int .i64 j ∧ ys.length ≤ v.t.n + j ∧ Hid (ys = xs ++ ((s.ghosts.take j).filter (ghOn cpu)).map partG) ∧ Hid (OwnP wr W.heap.size o ys) ∧ Keeps W wr) (fun _ i _ => v.g.n - (intOf i).toNat)
      case atStart => exact ⟨0, xs, Nat.zero_le _, rfl, by omega, by show _ = _; simp, O, hK⟩
      case round =>
        obtain ⟨j, ys, hj, rfl, hyl, HY, O2, hK2⟩ := hrel
        clear O hK
        by_cases hjt : j < v.g.n
        · obtain ⟨g, hg⟩ := some_in (xs := s.ghosts) (k := j) (by rw [Hg.out]; exact hjt)
          obtain ⟨b, off, ha, r0, r1⟩ := hs2.out.at hg (by omega)
          have hjt' : (j : Int) < (v.g.n : Int) := by omega
          have r2 : ∀ w', Keeps W w' → w'.cell? ⟨b, off + j * 4 + 1 + 1, none⟩ = some (.int .i64 g.p) := fun w' h => r1 w' h 2 (by omega)
          have HS : Hid (xs ++ ((s.ghosts.take (j + 1)).filter (ghOn cpu)).map partG = ys ++ (if ghOn cpu g then [partG g] else [])) := by
            show _ = _
            rw [filter_snoc (ghOn cpu) partG hg, HY.out, List.append_assoc]
          clear hg
          cases c1 : (g.cpu == cpu)
          · have Hx : Hid (ys = xs ++ ((s.ghosts.take (j + 1)).filter (ghOn cpu)).map partG) := by show _ = _; rw [HS.out]; simp [ghOn, c1]
            go_wp2
            exact ⟨⟨j + 1, ys, by omega, by go_num, by omega, Hx, O2, hK2⟩, by simp only [intOf]; omega⟩
          have Hx : Hid (ys ++ [(g.q, g.p)] = xs ++ ((s.ghosts.take (j + 1)).filter (ghOn cpu)).map partG) := by show _ = _; rw [HS.out]; simp [ghOn, c1, partG]
          go_wp2_with (at_builtin; (refine wpList_push rfl _ _ 110 rfl W 127 (.agg (pc (0, 0))) 2 16 pc Tryz.underlying110 (by kernel_rfl) rfl (by decide) pc_size pc_one _ ys rfl wr O2.out hK2 ((Keeps.refl _).alloc _) (g.q, g.p) _ 1 (Blk.new _ _ _) rfl ?c1 ?c2 ?_))
          case c1 => unfold maxLen; omega
          case c2 => omega
          intro v' w5 own5 k5 _
          have HO : Hid (OwnP w5 W.heap.size v' (ys ++ [(g.q, g.p)])) := own5
          clear own5 O2
          go_wp2
          exact ⟨⟨j + 1, ys ++ [(g.q, g.p)], by omega, by go_num, by simp; omega, Hx, HO, k5⟩, by simp only [intOf]; omega⟩
        · have hjt' : decide ((j : Int) < (v.g.n : Int)) = false := by simp; omega
          have HQ : Hid (sharesL s cpu = ys) := by
            have h1 := HY.out
            rw [List.take_of_length_le (by have := Hg.out; omega)] at h1
            show _ = _
            rw [HE.out, h1, HP.out]
          go_wp2
          go_ret
          exact ⟨_, rfl, by rw [HQ.out]; exact O2.out.base HW.out, kW.trans hK2⟩
end Go.Proofs.YtpikopdfkhagmaaGreatDoor
namespace Go.Proofs.YtpikopdfkhagmaaGreatDoor
open Go.RowKit
attribute [local go_sem] Keeps.refl Keeps.alloc Keeps.drew Keeps.drewN

set_option maxRecDepth 100000 in
set_option maxHeartbeats 8000000 in
theorem specSameCpu_any {w : World} {v : Sv} {s : Sy} (h : SysOn w v s) (i no : Int) :
    Calls Tryz.prog 97 #[.agg (syc s v), .int .i64 i, .int .i64 no] w fun e w' => e = .returned (.bool (sameB s i no)) ∧ Keeps w w' := by
  have hm : v.t.n ≤ 2000000 ∧ v.l.n ≤ 2000000 := by have := h.size; have := h.lay.ll; have := h.lay.tl; have := len_le_size s.locks; unfold sizeS at *; omega
  obtain ⟨hm1, hm2⟩ := hm
  have kW := blkK w (.cells (syc s v) 43)
  have hb := blkR w (syc s v) 43
  have hT : Hid (OnT (w.alloc (.cells (syc s v) 43)) v.t.a v.t.n v.t.cap s.tasks) := h.onT.keeps kW
  have hL : Hid (On (w.alloc (.cells (syc s v) 43)) v.l.a v.l.n v.l.cap s.locks) := h.onL.keeps kW
  have e1 : IntKind.i64.wrap ((v.l.n : Int) - 1) = (v.l.n : Int) - 1 := Go.IntWalk.i64_in _ (by omega)
  have HE : Hid (sameB s i no = (inB i 0 ((v.l.n : Int) - 1) && (thereB s.tasks no && (ownerAt s.locks i.toNat == 0 || (thereB s.tasks (ownerAt s.locks i.toNat) && (tAt s.tasks (ownerAt s.locks i.toNat)).cpu == (tAt s.tasks no).cpu))))) := by show _ = _; unfold sameB; rw [hL.out.len]
  clear h
  obtain ⟨pa, Hpa⟩ : ∃ pa, Hid (atFrom s.tasks no = pa) := ⟨_, rfl⟩
  go_enter Tryz.func97, Tryz.ntmps97
  go_wp2_with fail
  generalize w.alloc (.cells (syc s v) 43) = W at *
  refine (hT.out.sTaskAt no Hpa.out (Keeps.refl _)).mono ?_
  rintro e w1 ⟨rfl, k1⟩
  go_wp2_with fail
  refine (l1In_any _ _ _ _).mono ?_
  rintro e w' ⟨rfl, hw'⟩
  have hw2 := hw'.symm
  subst hw2
  cases c1 : inB i 0 ((v.l.n : Int) - 1)
  · have Hr : Hid (sameB s i no = false) := by show _ = _; rw [HE.out, c1]; rfl
    go_wp2
    go_ret
    exact ⟨by rw [Hr.out]; rfl, kW.trans k1⟩
  cases c2 : decide (pa < 0)
  rotate_left
  · have Hr : Hid (sameB s i no = false) := by show _ = _; rw [HE.out, c1]; unfold thereB; rw [Hpa.out, c2]; rfl
    go_wp2
    go_ret
    exact ⟨by rw [Hr.out]; rfl, kW.trans k1⟩
  have hth : thereB s.tasks no = true := by unfold thereB; rw [Hpa.out, c2]; rfl
  obtain ⟨ka, ta, ea, hta, -⟩ := thereB_iff.1 hth
  have Hta : Hid (tAt s.tasks no = ta) := tAt_of ea hta
  obtain rfl : pa = (ka : Int) := by rw [← Hpa.out]; exact ea
  have hka : ka < v.t.n := by have := lt_of_some hta; rw [hT.out.len] at this; exact this
  have hkai : (ka : Int) < (v.t.n : Int) := by omega
  obtain ⟨bt, ot, hat, rt⟩ := hT.out.all (by omega)
  have ra : ∀ w', Keeps W w' → w'.cell? ⟨bt, ot + ka * 14 + 2, none⟩ = some (.int .i64 ta.cpu) := fun w' h => (rt ka ta hta).2 w' h 2 (by omega)
  have RT : Hid (∀ (i : Nat) (t : Tsk), s.tasks[i]? = some t → ∀ w', Keeps W w' → w'.cell? ⟨bt, ot + i * 14 + 2, none⟩ = some (.int .i64 t.cpu)) := fun i t ht w' h => (rt i t ht).2 w' h 2 (by omega)
  obtain ⟨i0, i1⟩ := inB_iff.1 c1
  obtain ⟨k, rfl⟩ : ∃ k : Nat, i = (k : Int) := ⟨i.toNat, by omega⟩
  obtain ⟨l, hl⟩ := some_in (xs := s.locks) (k := k) (by rw [hL.out.len]; omega)
  obtain ⟨hkn, b, off, a', cap', ha, r0, -, -, -⟩ := hL.out.at hl
  have hki : (k : Int) < (v.l.n : Int) := by omega
  have HE2 : Hid (sameB s k no = (l.owner == 0 || (thereB s.tasks l.owner && (tAt s.tasks l.owner).cpu == ta.cpu))) := by
    show _ = _
    rw [HE.out, c1, hth, Int.toNat_natCast, ownerAt_of hl, Hta.out]
    rfl
  obtain ⟨po, Hpo⟩ : ∃ po, Hid (atFrom s.tasks l.owner = po) := ⟨_, rfl⟩
  have TA : Hid (∀ w', Keeps W w' → Calls Tryz.prog 73 #[.slice v.t.a v.t.n v.t.cap, .int .i64 l.owner] w' fun e w'' => e = .returned (.int .i64 po) ∧ Keeps w' w'') := fun w' h => hT.out.sTaskAt l.owner Hpo.out h
  rw [hat] at TA
  clear hth ea hta rt Hpa hl HE
  go_wp2_with fail
  refine wp_region_held_drew (S := (fun w' => Keeps W w')) (by kernel_rfl) ?_ (fun hHeld => ?_)
  · exact k1.drew
  refine Plan.go [0, 1, 2, 3, 4, 5, 6, 7] ?_
  iterate 8 (refine takeL (by simp only [opsAt]; rfl) (by kernel_rfl) (by exact fun _ _ _ h => h) (by rfl) (by assumption) (fun w _ => by go_simp; try (with_reducible rfl)) ?_; try simp only [putAtH])
  refine Plan.nil ?_
  refine callH 8 (by kernel_rfl) (by simp only [opsAt]; rfl) (fun K hK => ?_)
  go_simp
  first
    | (go_at_call 73; refine (TA.out _ k1.drew).mono ?_; rintro e w5 ⟨rfl, k5⟩)
  try go_wp2_with fail
  refine hK.out _ _ ?_ (fun hHeld => ?_)
  · exact Keeps.trans (by assumption) (by assumption)
  clear hK K
  try simp only [putAtH]
  refine takeH 9 (v := ?_) (by simp only [opsAt]; rfl) (by kernel_rfl) (by exact fun _ _ _ h => h) (by rfl) (by assumption) ?_ ?_
  rotate_left
  · (intro w _; go_simp; try (with_reducible rfl))
  try simp only [putAtH]
  refine wpAnyH_done (by kernel_rfl) ?_ _
  have K5 : Keeps W w5 := by assumption
  clear TA
  cases c3 : (l.owner == 0)
  rotate_left
  · have Hr : Hid (sameB s k no = true) := by show _ = _; rw [HE2.out, c3]; rfl
    go_wp2_with fail
    refine wp_region_held_drew (S := (fun w' => Keeps W w')) (by kernel_rfl) ?_ (fun hHeld => ?_)
    · exact K5.drew
    refine Plan.go [0, 1, 2, 3, 4, 5, 6, 7] ?_
    iterate 8 (refine takeL (by simp only [opsAt]; rfl) (by kernel_rfl) (by exact fun _ _ _ h => h) (by rfl) (by assumption) (fun w _ => by go_simp; try (with_reducible rfl)) ?_; try simp only [putAtH])
    refine Plan.nil ?_
    refine Plan.go [8, 9, 10, 11, 12, 13, 14, 15, 16, 17, 18, 19, 20, 21, 22, 23, 24] ?_
    iterate 17 (refine skipL (by simp only [opsAt]; rfl) (by kernel_rfl) (by exact fun _ _ _ h => h) (by rfl) (by assumption) ?_; try simp only [putAtH])
    refine Plan.nil ?_
    refine Plan.go [25, 26] ?_
    iterate 2 (refine takeL (by simp only [opsAt]; rfl) (by kernel_rfl) (by exact fun _ _ _ h => h) (by rfl) (by assumption) (fun w _ => by go_simp; try (with_reducible rfl)) ?_; try simp only [putAtH])
    refine Plan.nil ?_
    refine wpAnyH_done (by kernel_rfl) ?_ _
    go_wp2
    go_ret
    exact ⟨by rw [Hr.out]; rfl, kW.trans K5.drew⟩
  cases c4 : decide (0 ≤ po)
  · have Hr : Hid (sameB s k no = false) := by
      have : thereB s.tasks l.owner = false := by unfold thereB; rw [Hpo.out]; simp only [decide_eq_false_iff_not] at c4; simp; omega
      show _ = _
      rw [HE2.out, c3, this]; rfl
    go_wp2_with fail
    refine wp_region_held_drew (S := (fun w' => Keeps W w')) (by kernel_rfl) ?_ (fun hHeld => ?_)
    · exact K5.drew
    refine Plan.go [0, 1, 2, 3, 4, 5, 6, 7, 8, 9, 10] ?_
    iterate 11 (refine takeL (by simp only [opsAt]; rfl) (by kernel_rfl) (by exact fun _ _ _ h => h) (by rfl) (by assumption) (fun w _ => by go_simp; try (with_reducible rfl)) ?_; try simp only [putAtH])
    refine Plan.nil ?_
    refine Plan.go [11, 12, 13, 14, 15, 16, 17, 18, 19, 20, 21, 22, 23] ?_
    iterate 13 (refine skipL (by simp only [opsAt]; rfl) (by kernel_rfl) (by exact fun _ _ _ h => h) (by rfl) (by assumption) ?_; try simp only [putAtH])
    refine Plan.nil ?_
    refine Plan.go [24, 25, 26] ?_
    iterate 3 (refine takeL (by simp only [opsAt]; rfl) (by kernel_rfl) (by exact fun _ _ _ h => h) (by rfl) (by assumption) (fun w _ => by go_simp; try (with_reducible rfl)) ?_; try simp only [putAtH])
    refine Plan.nil ?_
    refine wpAnyH_done (by kernel_rfl) ?_ _
    go_wp2
    go_ret
    exact ⟨by rw [Hr.out]; rfl, kW.trans K5.drew⟩
  have htho : thereB s.tasks l.owner = true := by unfold thereB; rw [Hpo.out]; simp only [decide_eq_true_eq] at c4; simp; omega
  obtain ⟨kx, tx, ex, htx, -⟩ := thereB_iff.1 htho
  have Htx : Hid (tAt s.tasks l.owner = tx) := tAt_of ex htx
  obtain rfl : po = (kx : Int) := by rw [← Hpo.out]; exact ex
  have hkx : kx < v.t.n := by have := lt_of_some htx; rw [hT.out.len] at this; exact this
  have hkxi : (kx : Int) < (v.t.n : Int) := by omega
  have rx : ∀ w', Keeps W w' → w'.cell? ⟨bt, ot + kx * 14 + 2, none⟩ = some (.int .i64 tx.cpu) := fun w' h => RT.out kx tx htx w' h
  have Hr : Hid (sameB s k no = (tx.cpu == ta.cpu)) := by show _ = _; rw [HE2.out, c3, htho, Htx.out]; rfl
  clear htho ex htx Hpo
  go_wp2_with fail
  refine wp_region_held_drew (S := (fun w' => Keeps W w')) (by kernel_rfl) ?_ (fun hHeld => ?_)
  · exact K5.drew
  refine Plan.go [0, 1, 2, 3, 4, 5, 6, 7, 8, 9, 10, 11, 12, 13, 14, 15, 16, 17, 18, 19, 20, 21, 22, 23, 24, 25, 26] ?_
  iterate 27 (refine takeL (by simp only [opsAt]; rfl) (by kernel_rfl) (by exact fun _ _ _ h => h) (by rfl) (by assumption) (fun w _ => by go_simp; try (with_reducible rfl)) ?_; try simp only [putAtH])
  refine Plan.nil ?_
  refine wpAnyH_done (by kernel_rfl) ?_ _
  go_wp2
  go_ret
  exact ⟨by rw [Hr.out]; rfl, kW.trans K5.drew⟩
end Go.Proofs.YtpikopdfkhagmaaGreatDoor
