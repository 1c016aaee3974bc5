/-
  Ticks: so many of them.
  Runs of calls: what is drawn stays small.
  Calls: the codes of calls of a task, and what is stored of a task.
  The turns of a run of drawn calls are of the first numbers.
  Calls: what is done of a right call: tasks that are made, ticks, and what is not there.
-/
import Derived.Test.YtpikopdfkhagmaaGreatDoorSysTick
import Derived.Test.YtpikopdfkhagmaaGreatDoorTaskMark
import Derived.Test.YtpikopdfkhagmaaGreatDoorTasksOkS
import Derived.Test.YtpikopdfkhagmaaGreatDoorSysFacts
import Derived.Test.YtpikopdfkhagmaaGreatDoorSysTurn
import Derived.Test.YtpikopdfkhagmaaGreatDoorSum
import Derived.Test.YtpikopdfkhagmaaGreatDoorTaskNew
import Derived.Test.YtpikopdfkhagmaaGreatDoorCallNew
namespace Go.Proofs.YtpikopdfkhagmaaGreatDoor
open Go.RowKit
attribute [local go_sem] Keeps.refl Keeps.alloc Keeps.drew Keeps.drewN

/-- So many ticks of a system, if it is right; and how many went. -/
def ticksOf (s : Sy) (n : Int) : Sy := if sysB s then (ticksS s n.toNat).1 else Sy.zero
def ticksN (s : Sy) (n : Int) : Int := if sysB s then ((ticksS s n.toNat).2 : Int) else 0
theorem tickB_now {s : Sy} (h : tickB s = true) : sysB s = true ∧ s.now < 100000 ∧ 0 ≤ s.now := by
  have h0 := h
  unfold tickB at h
  simp only [Bool.and_eq_true, Bool.not_eq_true', beq_eq_false_iff_ne, ne_eq] at h
  have := (sysB_iff.1 h.1).now
  exact ⟨h.1, by omega, this.1⟩
theorem tickS_facts {s : Sy} (h : tickB s = true) : (tickS s).now = s.now + 1 ∧ sizeS (tickS s) ≤ 1600 := by
  have R := sysB_iff.1 (tickB_now h).1
  have e : tickS s = aheadS (turnsS (flooredS (wakeS (agedS s))) s.cpus.toNat) := by unfold tickS; rw [h]; rfl
  obtain ⟨t1, t2, t3, t4, t5⟩ := turnsS_facts (flooredS (wakeS (agedS s))) s.cpus.toNat
  have h1 := aged_size s
  have h2 := R.small
  have h3 := R.cpus
  rw [floored_size, wake_size] at t3
  rw [e]
  refine ⟨?_, ?_⟩
  · show (turnsS (flooredS (wakeS (agedS s))) s.cpus.toNat).now + 1 = _
    rw [t2]; rfl
  · show sizeS (turnsS (flooredS (wakeS (agedS s))) s.cpus.toNat) ≤ _
    omega
set_option maxRecDepth 100000 in
set_option maxHeartbeats 4000000 in
theorem specSysTicks_any {w : World} {v : Sv} {s : Sy} (h : SysOn w v s) (n : Int) :
    Calls Tryz.prog 72 #[.agg (syc s v), .int .i64 n] w fun e w' => ∃ v' vs', e = .returned (.tuple #[.agg (syc (ticksOf s n) v'), .int .i64 (ticksN s n)]) ∧ OwnS w' w.heap.size v' vs' (ticksOf s n) ∧ Keeps w w' := by
  obtain ⟨⟨ta, tn, tcap⟩, ⟨la, ln, lcap⟩, ⟨ga, gn, gcap⟩, ⟨fa, fn, fcap⟩, ⟨ra, rn, rcap⟩⟩ := v
  have kZ : Keeps w ((w.alloc (.cells (syc s ⟨⟨ta, tn, tcap⟩, ⟨la, ln, lcap⟩, ⟨ga, gn, gcap⟩, ⟨fa, fn, fcap⟩, ⟨ra, rn, rcap⟩⟩) 43)).alloc (.cells zc 43)) := ((Keeps.refl w).alloc _).alloc _
  have B0 : Hid (Blk ((w.alloc (.cells (syc s ⟨⟨ta, tn, tcap⟩, ⟨la, ln, lcap⟩, ⟨ga, gn, gcap⟩, ⟨fa, fn, fcap⟩, ⟨ra, rn, rcap⟩⟩) 43)).alloc (.cells zc 43)) w.heap.size (syc s ⟨⟨ta, tn, tcap⟩, ⟨la, ln, lcap⟩, ⟨ga, gn, gcap⟩, ⟨fa, fn, fcap⟩, ⟨ra, rn, rcap⟩⟩)) := (Blk.new _ _ _).alloc _
  have R0 : Hid (Blk ((w.alloc (.cells (syc s ⟨⟨ta, tn, tcap⟩, ⟨la, ln, lcap⟩, ⟨ga, gn, gcap⟩, ⟨fa, fn, fcap⟩, ⟨ra, rn, rcap⟩⟩) 43)).alloc (.cells zc 43)) (w.heap.size + 1) zc) := by
    have := Blk.new (w.alloc (.cells (syc s ⟨⟨ta, tn, tcap⟩, ⟨la, ln, lcap⟩, ⟨ga, gn, gcap⟩, ⟨fa, fn, fcap⟩, ⟨ra, rn, rcap⟩⟩) 43)) zc 43
    show Blk _ _ _
    simpa using this
  have hz : Hid (((w.alloc (.cells (syc s ⟨⟨ta, tn, tcap⟩, ⟨la, ln, lcap⟩, ⟨ga, gn, gcap⟩, ⟨fa, fn, fcap⟩, ⟨ra, rn, rcap⟩⟩) 43)).alloc (.cells zc 43)).heap.size = w.heap.size + 2) := by show _ = _; simp
  have HS : Hid (SysOn ((w.alloc (.cells (syc s ⟨⟨ta, tn, tcap⟩, ⟨la, ln, lcap⟩, ⟨ga, gn, gcap⟩, ⟨fa, fn, fcap⟩, ⟨ra, rn, rcap⟩⟩) 43)).alloc (.cells zc 43)) ⟨⟨ta, tn, tcap⟩, ⟨la, ln, lcap⟩, ⟨ga, gn, gcap⟩, ⟨fa, fn, fcap⟩, ⟨ra, rn, rcap⟩⟩ s) := h.keeps kZ
  clear h
  go_enter Tryz.func72, Tryz.ntmps72
  go_wp2_with fail
  change Calls _ _ _ ((w.alloc (.cells (syc s ⟨⟨ta, tn, tcap⟩, ⟨la, ln, lcap⟩, ⟨ga, gn, gcap⟩, ⟨fa, fn, fcap⟩, ⟨ra, rn, rcap⟩⟩) 43)).alloc (.cells zc 43)) _
  generalize (w.alloc (.cells (syc s ⟨⟨ta, tn, tcap⟩, ⟨la, ln, lcap⟩, ⟨ga, gn, gcap⟩, ⟨fa, fn, fcap⟩, ⟨ra, rn, rcap⟩⟩) 43)).alloc (.cells zc 43) = Z at *
  refine (specSysOk_any HS.out).mono ?_
  rintro e w1 ⟨rfl, k1⟩
  have hb0 : ∀ w', Keeps Z w' → ∀ j, w'.cell? ⟨w.heap.size, j, none⟩ = (syc s ⟨⟨ta, tn, tcap⟩, ⟨la, ln, lcap⟩, ⟨ga, gn, gcap⟩, ⟨fa, fn, fcap⟩, ⟨ra, rn, rcap⟩⟩)[j]? := fun w' k => (B0.out.keeps k).cells
  dsimp only [syc] at hb0
  cases hb : sysB s
  · have HTB : Hid (ticksN s n = 0) := by show _ = _; unfold ticksN; rw [hb]; rfl
    have HT : Hid (ticksOf s n = Sy.zero) := by show _ = _; unfold ticksOf; rw [hb]; rfl
    obtain ⟨_, r1, r2⟩ := R0.out.keeps k1
    go_wp2
    have D := (R0.out.keeps k1).putC zc.toList rfl
    have KQ := Keeps.putC (b := w.heap.size + 1) (by omega) zc.toList 0 (kZ.trans k1)
    change bodyPost _ _ _ _ _ (putC w1 (w.heap.size + 1) 0 zc.toList)
    generalize putC w1 (w.heap.size + 1) 0 zc.toList = Q at D KQ ⊢
    exact bodyPost_ret (v := .tuple #[.agg zc, .int .i64 0]) (by simp [results, Tryz.results72, go_sem, D.cells]) rfl (by rw [HT.out, HTB.out]; first | exact ⟨Sv.zero, [], rfl, OwnS.nothing _ _, KQ⟩ | exact ⟨Sv.zero, rfl, ⟨[], OwnS.nothing _ _⟩, KQ⟩)
  have R := sysB_iff.1 hb
  have hsm : sizeS s ≤ 1500 := R.small
  obtain ⟨hn0, hn1⟩ := R.now
  have HT0 : Hid (ticksOf s n = (ticksS s n.toNat).1) := by show _ = _; unfold ticksOf; rw [hb]; rfl
  have HN0 : Hid (ticksN s n = ((ticksS s n.toNat).2 : Int)) := by show _ = _; unfold ticksN; rw [hb]; rfl
  clear R
  go_wp2_with fail
  refine (l9Copy_any (HS.out.keeps k1)).mono ?_
  rintro e w2 ⟨vo, vso, rfl, o2, k2⟩
  obtain ⟨⟨ta', tn', tcap'⟩, ⟨la', ln', lcap'⟩, ⟨ga', gn', gcap'⟩, ⟨fa', fn', fcap'⟩, ⟨ra', rn', rcap'⟩⟩ := vo
  have O2 : Hid (OwnS w2 w1.heap.size ⟨⟨ta', tn', tcap'⟩, ⟨la', ln', lcap'⟩, ⟨ga', gn', gcap'⟩, ⟨fa', fn', fcap'⟩, ⟨ra', rn', rcap'⟩⟩ vso s) := o2
  have k02 : Hid (Keeps Z w2) := k1.trans k2
  have hZ1 : Hid (Z.heap.size ≤ w1.heap.size) := k1.size
  have g0 := VarG.start o2 k2.size
  clear o2
  go_wp2
  change Code.wp _ _ _ _ (w2.alloc (.cells (syc s ⟨⟨ta', tn', tcap'⟩, ⟨la', ln', lcap'⟩, ⟨ga', gn', gcap'⟩, ⟨fa', fn', fcap'⟩, ⟨ra', rn', rcap'⟩⟩) 43))
  generalize w2.alloc (.cells (syc s ⟨⟨ta', tn', tcap'⟩, ⟨la', ln', lcap'⟩, ⟨ga', gn', gcap'⟩, ⟨fa', fn', fcap'⟩, ⟨ra', rn', rcap'⟩⟩) 43) = X0 at *
  generalize w2.heap.size = ob at *
  have G0 : Hid (VarG w2 w1.heap.size ⟨⟨ta', tn', tcap'⟩, ⟨la', ln', lcap'⟩, ⟨ga', gn', gcap'⟩, ⟨fa', fn', fcap'⟩, ⟨ra', rn', rcap'⟩⟩ vso X0 ob ⟨⟨ta', tn', tcap'⟩, ⟨la', ln', lcap'⟩, ⟨ga', gn', gcap'⟩, ⟨fa', fn', fcap'⟩, ⟨ra', rn', rcap'⟩⟩ vso s) := g0
  clear g0 k1 k2
  go_loopw [7] (fun i wr => ∃ (k : Nat) (v5 : Sv) (vs5 : List Lv) (T : Sy), i = .int .i64 k ∧ k ≤ n.toNat ∧ T.now = s.now + k ∧ T.now ≤ 100000 ∧ sizeS T ≤ 1600 ∧ Hid (VarG w2 w1.heap.size ⟨⟨ta', tn', tcap'⟩, ⟨la', ln', lcap'⟩, ⟨ga', gn', gcap'⟩, ⟨fa', fn', fcap'⟩, ⟨ra', rn', rcap'⟩⟩ vso wr ob v5 vs5 T) ∧ Hid ((ticksS s n.toNat) = ((ticksS T (n.toNat - k)).1, (ticksS T (n.toNat - k)).2 + k))) (fun i _ => 200000 - (intOf i).toNat)
  case atStart => exact ⟨0, _, vso, s, rfl, Nat.zero_le _, by simp, hn1, by omega, G0, by show _ = _; simp⟩
  case round =>
    obtain ⟨k, ⟨⟨ta5, tn5, tcap5⟩, ⟨la5, ln5, lcap5⟩, ⟨ga5, gn5, gcap5⟩, ⟨fa5, fn5, fcap5⟩, ⟨ra5, rn5, rcap5⟩⟩, vs5, T, rfl, hk, hTn, hTm, hTs, G, HI⟩ := hrel
    clear G0
    have hTn' : Hid (T.now = s.now + k) := hTn
    have hk1 : k ≤ 100000 := by omega
    by_cases hlt : (k : Int) < n
    · obtain ⟨m, Hm⟩ : ∃ m, Hid (n.toNat - k = m + 1) := ⟨n.toNat - k - 1, by show _ = _; omega⟩
      obtain ⟨_, o1, o2⟩ := G.out.var.box
      dsimp only [syc] at o1
      obtain ⟨tb, HTb⟩ : ∃ b, Hid (tickB T = b) := ⟨_, rfl⟩
      have CT : Hid (Calls Tryz.prog 94 #[.agg (syc T ⟨⟨ta5, tn5, tcap5⟩, ⟨la5, ln5, lcap5⟩, ⟨ga5, gn5, gcap5⟩, ⟨fa5, fn5, fcap5⟩, ⟨ra5, rn5, rcap5⟩⟩)] wr fun e w' => ∃ v' vs', e = .returned (.tuple #[.agg (syc (tickS T) v'), .bool tb]) ∧ OwnS w' wr.heap.size v' vs' (tickS T) ∧ Keeps wr w') := by
        have h1 := specSysTick_any (G.out.var.own.on (by omega))
        rw [HTb.out] at h1
        exact h1
      dsimp only [syc] at CT
      clear hTn
      go_wp2_with fail
      refine CT.out.mono ?_
      rintro e w7 ⟨⟨⟨ta6, tn6, tcap6⟩, ⟨la6, ln6, lcap6⟩, ⟨ga6, gn6, gcap6⟩, ⟨fa6, fn6, fcap6⟩, ⟨ra6, rn6, rcap6⟩⟩, vs6, rfl, O7, k7⟩
      have KN : Keeps wr (w7.alloc (.cells (syc (tickS T) ⟨⟨ta6, tn6, tcap6⟩, ⟨la6, ln6, lcap6⟩, ⟨ga6, gn6, gcap6⟩, ⟨fa6, fn6, fcap6⟩, ⟨ra6, rn6, rcap6⟩⟩) 43)) := k7.alloc _
      have NB : Hid (Blk (w7.alloc (.cells (syc (tickS T) ⟨⟨ta6, tn6, tcap6⟩, ⟨la6, ln6, lcap6⟩, ⟨ga6, gn6, gcap6⟩, ⟨fa6, fn6, fcap6⟩, ⟨ra6, rn6, rcap6⟩⟩) 43)) w7.heap.size (syc (tickS T) ⟨⟨ta6, tn6, tcap6⟩, ⟨la6, ln6, lcap6⟩, ⟨ga6, gn6, gcap6⟩, ⟨fa6, fn6, fcap6⟩, ⟨ra6, rn6, rcap6⟩⟩)) := Blk.new _ _ _
      have GN : Hid (Goes wr w1.heap.size ⟨⟨ta5, tn5, tcap5⟩, ⟨la5, ln5, lcap5⟩, ⟨ga5, gn5, gcap5⟩, ⟨fa5, fn5, fcap5⟩, ⟨ra5, rn5, rcap5⟩⟩ vs5 (w7.alloc (.cells (syc (tickS T) ⟨⟨ta6, tn6, tcap6⟩, ⟨la6, ln6, lcap6⟩, ⟨ga6, gn6, gcap6⟩, ⟨fa6, fn6, fcap6⟩, ⟨ra6, rn6, rcap6⟩⟩) 43)) ⟨⟨ta6, tn6, tcap6⟩, ⟨la6, ln6, lcap6⟩, ⟨ga6, gn6, gcap6⟩, ⟨fa6, fn6, fcap6⟩, ⟨ra6, rn6, rcap6⟩⟩ vs6 (tickS T)) := (Goes.fresh O7 k7 (by have := G.out.var.lob; have := G.out.var.box.lt; omega)).behind ((Keeps.refl _).alloc _)
      clear o1 o2 O7 k7 CT
      go_upto_region 7 with fail
      change Code.wp _ _ _ _ (w7.alloc (.cells (syc (tickS T) ⟨⟨ta6, tn6, tcap6⟩, ⟨la6, ln6, lcap6⟩, ⟨ga6, gn6, gcap6⟩, ⟨fa6, fn6, fcap6⟩, ⟨ra6, rn6, rcap6⟩⟩) 43))
      generalize w7.alloc (.cells (syc (tickS T) ⟨⟨ta6, tn6, tcap6⟩, ⟨la6, ln6, lcap6⟩, ⟨ga6, gn6, gcap6⟩, ⟨fa6, fn6, fcap6⟩, ⟨ra6, rn6, rcap6⟩⟩) 43) = X at *
      generalize w7.heap.size = nb at *
      cases tb
      · have E1 : ticksS T (n.toNat - k) = (T, 0) := by rw [Hm.out]; simp [ticksS, HTb.out]
        have HT : Hid (ticksOf s n = T) := by show _ = _; rw [HT0.out, HI.out, E1]
        have HN : Hid (ticksN s n = (k : Int)) := by show _ = _; rw [HN0.out, HI.out, E1]; simp
        have GX : Hid (VarG w2 w1.heap.size ⟨⟨ta', tn', tcap'⟩, ⟨la', ln', lcap'⟩, ⟨ga', gn', gcap'⟩, ⟨fa', fn', fcap'⟩, ⟨ra', rn', rcap'⟩⟩ vso X ob ⟨⟨ta5, tn5, tcap5⟩, ⟨la5, ln5, lcap5⟩, ⟨ga5, gn5, gcap5⟩, ⟨fa5, fn5, fcap5⟩, ⟨ra5, rn5, rcap5⟩⟩ vs5 T) := G.out.keeps KN
        clear E1 G GN NB KN
        have KX : Keeps Z X := GX.out.keepsZ O2.out k02.out hZ1.out
        obtain ⟨_, o1, o2⟩ := GX.out.var.box
        dsimp only [syc] at o1
        obtain ⟨_, r1, r2⟩ := R0.out.keeps KX
        go_wp2
        have D := (R0.out.keeps KX).putC (syc (T : Sy) ⟨⟨ta5, tn5, tcap5⟩, ⟨la5, ln5, lcap5⟩, ⟨ga5, gn5, gcap5⟩, ⟨fa5, fn5, fcap5⟩, ⟨ra5, rn5, rcap5⟩⟩).toList rfl
        have KQ := Keeps.putC (b := w.heap.size + 1) (by omega) (syc (T : Sy) ⟨⟨ta5, tn5, tcap5⟩, ⟨la5, ln5, lcap5⟩, ⟨ga5, gn5, gcap5⟩, ⟨fa5, fn5, fcap5⟩, ⟨ra5, rn5, rcap5⟩⟩).toList 0 (kZ.trans KX)
        have SQ : OwnS (putC X (w.heap.size + 1) 0 (syc (T : Sy) ⟨⟨ta5, tn5, tcap5⟩, ⟨la5, ln5, lcap5⟩, ⟨ga5, gn5, gcap5⟩, ⟨fa5, fn5, fcap5⟩, ⟨ra5, rn5, rcap5⟩⟩).toList) w.heap.size ⟨⟨ta5, tn5, tcap5⟩, ⟨la5, ln5, lcap5⟩, ⟨ga5, gn5, gcap5⟩, ⟨fa5, fn5, fcap5⟩, ⟨ra5, rn5, rcap5⟩⟩ vs5 (T) := (OwnS.farC (c := w.heap.size + 1) (fun i hi => by have := (GX.out.var.own.blkLt hi).1; have := hz.out; have := hZ1.out; omega) _ _ GX.out.var.own).base (by have := hz.out; have := hZ1.out; omega)
        change bodyPost _ _ _ _ _ (putC X (w.heap.size + 1) 0 (syc (T : Sy) ⟨⟨ta5, tn5, tcap5⟩, ⟨la5, ln5, lcap5⟩, ⟨ga5, gn5, gcap5⟩, ⟨fa5, fn5, fcap5⟩, ⟨ra5, rn5, rcap5⟩⟩).toList)
        generalize putC X (w.heap.size + 1) 0 (syc (T : Sy) ⟨⟨ta5, tn5, tcap5⟩, ⟨la5, ln5, lcap5⟩, ⟨ga5, gn5, gcap5⟩, ⟨fa5, fn5, fcap5⟩, ⟨ra5, rn5, rcap5⟩⟩).toList = Q at D KQ SQ ⊢
        exact bodyPost_ret (v := .tuple #[.agg (syc (T : Sy) ⟨⟨ta5, tn5, tcap5⟩, ⟨la5, ln5, lcap5⟩, ⟨ga5, gn5, gcap5⟩, ⟨fa5, fn5, fcap5⟩, ⟨ra5, rn5, rcap5⟩⟩), .int .i64 k]) (by simp [results, Tryz.results72, go_sem, D.cells]) rfl (by rw [HT.out, HN.out]; first | exact ⟨_, vs5, rfl, SQ, KQ⟩ | exact ⟨_, rfl, ⟨_, SQ⟩, KQ⟩)
      · have hf := tickS_facts HTb.out
        have hn2 := (tickB_now HTb.out).2
        have HI2 : Hid (ticksS s n.toNat = ((ticksS (tickS T) (n.toNat - (k + 1))).1, (ticksS (tickS T) (n.toNat - (k + 1))).2 + (k + 1))) := by
          show _ = _
          rw [HI.out, Hm.out, show n.toNat - (k + 1) = m from by have := Hm.out; omega]
          simp only [ticksS, HTb.out, if_true]
          congr 1
          omega
        have G9 : Hid (VarG w2 w1.heap.size ⟨⟨ta', tn', tcap'⟩, ⟨la', ln', lcap'⟩, ⟨ga', gn', gcap'⟩, ⟨fa', fn', fcap'⟩, ⟨ra', rn', rcap'⟩⟩ vso (putC X ob 0 (syc (tickS T) ⟨⟨ta6, tn6, tcap6⟩, ⟨la6, ln6, lcap6⟩, ⟨ga6, gn6, gcap6⟩, ⟨fa6, fn6, fcap6⟩, ⟨ra6, rn6, rcap6⟩⟩).toList) ob ⟨⟨ta6, tn6, tcap6⟩, ⟨la6, ln6, lcap6⟩, ⟨ga6, gn6, gcap6⟩, ⟨fa6, fn6, fcap6⟩, ⟨ra6, rn6, rcap6⟩⟩ vs6 (tickS T)) := G.out.put GN.out
        have hT1 : (tickS T).now = s.now + ((k + 1 : Nat) : Int) := by have := hTn'.out; omega
        have hT2 : (tickS T).now ≤ 100000 := by omega
        have hT3 : sizeS (tickS T) ≤ 1600 := hf.2
        have HTs : Hid ((tickS T).now = s.now + ((k + 1 : Nat) : Int) ∧ (tickS T).now ≤ 100000 ∧ sizeS (tickS T) ≤ 1600) := ⟨hT1, hT2, hT3⟩
        obtain ⟨_, q1, q2⟩ := NB.out
        dsimp only [syc] at q1
        obtain ⟨_, p1, p2⟩ := G.out.var.box.keeps KN
        dsimp only [syc] at p1
        clear hf hn2 hT1 hT2 hT3
        go_upto_region 10 with fail
        change Code.wp _ _ _ _ (putC X ob 0 (syc (tickS T) ⟨⟨ta6, tn6, tcap6⟩, ⟨la6, ln6, lcap6⟩, ⟨ga6, gn6, gcap6⟩, ⟨fa6, fn6, fcap6⟩, ⟨ra6, rn6, rcap6⟩⟩).toList)
        clear q1 q2 p1 p2 NB GN G KN
        generalize putC X ob 0 (syc (tickS T) ⟨⟨ta6, tn6, tcap6⟩, ⟨la6, ln6, lcap6⟩, ⟨ga6, gn6, gcap6⟩, ⟨fa6, fn6, fcap6⟩, ⟨ra6, rn6, rcap6⟩⟩).toList = X9 at *
        go_wp2
        exact ⟨⟨k + 1, _, vs6, tickS T, by go_num, by omega, HTs.out.1, HTs.out.2.1, HTs.out.2.2, G9, HI2⟩, by simp only [intOf]; omega⟩
    · have E0 : n.toNat - k = 0 := by omega
      have E1 : ticksS T (n.toNat - k) = (T, 0) := by rw [E0]; rfl
      have HT : Hid (ticksOf s n = T) := by show _ = _; rw [HT0.out, HI.out, E1]
      have HN : Hid (ticksN s n = (k : Int)) := by show _ = _; rw [HN0.out, HI.out, E1]; simp
      clear E0 E1 hTn
      have KX : Keeps Z wr := G.out.keepsZ O2.out k02.out hZ1.out
      obtain ⟨_, o1, o2⟩ := G.out.var.box
      dsimp only [syc] at o1
      obtain ⟨_, r1, r2⟩ := R0.out.keeps KX
      go_wp2
      have D := (R0.out.keeps KX).putC (syc (T : Sy) ⟨⟨ta5, tn5, tcap5⟩, ⟨la5, ln5, lcap5⟩, ⟨ga5, gn5, gcap5⟩, ⟨fa5, fn5, fcap5⟩, ⟨ra5, rn5, rcap5⟩⟩).toList rfl
      have KQ := Keeps.putC (b := w.heap.size + 1) (by omega) (syc (T : Sy) ⟨⟨ta5, tn5, tcap5⟩, ⟨la5, ln5, lcap5⟩, ⟨ga5, gn5, gcap5⟩, ⟨fa5, fn5, fcap5⟩, ⟨ra5, rn5, rcap5⟩⟩).toList 0 (kZ.trans KX)
      have SQ : OwnS (putC wr (w.heap.size + 1) 0 (syc (T : Sy) ⟨⟨ta5, tn5, tcap5⟩, ⟨la5, ln5, lcap5⟩, ⟨ga5, gn5, gcap5⟩, ⟨fa5, fn5, fcap5⟩, ⟨ra5, rn5, rcap5⟩⟩).toList) w.heap.size ⟨⟨ta5, tn5, tcap5⟩, ⟨la5, ln5, lcap5⟩, ⟨ga5, gn5, gcap5⟩, ⟨fa5, fn5, fcap5⟩, ⟨ra5, rn5, rcap5⟩⟩ vs5 (T) := (OwnS.farC (c := w.heap.size + 1) (fun i hi => by have := (G.out.var.own.blkLt hi).1; have := hz.out; have := hZ1.out; omega) _ _ G.out.var.own).base (by have := hz.out; have := hZ1.out; omega)
      change bodyPost _ _ _ _ _ (putC wr (w.heap.size + 1) 0 (syc (T : Sy) ⟨⟨ta5, tn5, tcap5⟩, ⟨la5, ln5, lcap5⟩, ⟨ga5, gn5, gcap5⟩, ⟨fa5, fn5, fcap5⟩, ⟨ra5, rn5, rcap5⟩⟩).toList)
      generalize putC wr (w.heap.size + 1) 0 (syc (T : Sy) ⟨⟨ta5, tn5, tcap5⟩, ⟨la5, ln5, lcap5⟩, ⟨ga5, gn5, gcap5⟩, ⟨fa5, fn5, fcap5⟩, ⟨ra5, rn5, rcap5⟩⟩).toList = Q at D KQ SQ ⊢
      exact bodyPost_ret (v := .tuple #[.agg (syc (T : Sy) ⟨⟨ta5, tn5, tcap5⟩, ⟨la5, ln5, lcap5⟩, ⟨ga5, gn5, gcap5⟩, ⟨fa5, fn5, fcap5⟩, ⟨ra5, rn5, rcap5⟩⟩), .int .i64 k]) (by simp [results, Tryz.results72, go_sem, D.cells]) rfl (by rw [HT.out, HN.out]; first | exact ⟨_, vs5, rfl, SQ, KQ⟩ | exact ⟨_, rfl, ⟨_, SQ⟩, KQ⟩)
end Go.Proofs.YtpikopdfkhagmaaGreatDoor
namespace Go.Proofs.YtpikopdfkhagmaaGreatDoor
open Go.RowKit

theorem turnS_tasks (s : Sy) (cpu : Int) : (turnS s cpu).tasks.length = s.tasks.length := by
  unfold turnS
  split
  · rfl
  · simp [turnTo]
theorem turnsS_tasks (s : Sy) : ∀ k : Nat, (turnsS s k).tasks.length = s.tasks.length
  | 0 => rfl
  | k + 1 => by
    show (turnS (turnsS s k) k).tasks.length = _
    rw [turnS_tasks, turnsS_tasks s k]
theorem tick_keeps {s : Sy} (h : tickB s = true) : (tickS s).tasks.length = s.tasks.length ∧ (tickS s).cpus = s.cpus := by
  have e : tickS s = aheadS (turnsS (flooredS (wakeS (agedS s))) s.cpus.toNat) := by unfold tickS; rw [h]; rfl
  rw [e]
  refine ⟨?_, ?_⟩
  · show (turnsS (flooredS (wakeS (agedS s))) s.cpus.toNat).tasks.length = _
    rw [turnsS_tasks]
    simp [flooredS, wakeS, agedS]
  · show (turnsS (flooredS (wakeS (agedS s))) s.cpus.toNat).cpus = _
    rw [(turnsS_facts _ _).1]
    rfl
theorem ticks_keeps : ∀ (n : Nat) (s : Sy), (ticksS s n).1.tasks.length = s.tasks.length ∧ (ticksS s n).1.cpus = s.cpus ∧ sizeS (ticksS s n).1 ≤ max (sizeS s) 1600
  | 0, s => ⟨rfl, rfl, by show sizeS s ≤ _; omega⟩
  | n + 1, s => by
    cases h : tickB s
    · have e : (ticksS s (n + 1)).1 = s := by simp [ticksS, h]
      rw [e]
      exact ⟨rfl, rfl, by omega⟩
    · have e : (ticksS s (n + 1)).1 = (ticksS (tickS s) n).1 := by simp [ticksS, h]
      obtain ⟨h1, h2, h3⟩ := ticks_keeps n (tickS s)
      have h4 := tick_keeps h
      have h5 := (tickS_facts h).2
      rw [e]
      exact ⟨h1.trans h4.1, h2.trans h4.2, by omega⟩
/-- A system as it is drawn. -/
def Small (s : Sy) : Prop := s.tasks.length ≤ 13 ∧ s.cpus ≤ 4 ∧ sizeS s ≤ 3000
theorem putL_len (ts : List Tsk) (t : Tsk) : (putL ts t).length ≤ ts.length + 1 := by
  unfold putL
  split
  · split
    · rw [ins_length]; omega
    · omega
  · simp
theorem call_small {s : Sy} {c : Cl} (h : callN s c = 0) : Small (callS s c) := by
  unfold callN at h
  split at h
  case isFalse => omega
  case isTrue hb =>
    simp only [Bool.and_eq_true] at hb
    have R := sysB_iff.1 hb.1
    obtain ⟨f1, f2, f3, f4⟩ := R.few
    have f5 := R.small
    have f6 := R.cpus
    have e : callS s c = doC s c := by unfold callS; rw [hb.1, hb.2, h]; rfl
    rw [e]
    unfold doC
    split
    · have := putL_len s.tasks (madeT s c)
      unfold sizeS at f5
      refine ⟨by show (putL s.tasks (madeT s c)).length ≤ _; omega, f6.2, ?_⟩
      show (putL s.tasks (madeT s c)).length + sizeN s.locks + s.ghosts.length + s.floors.length + s.trace.length ≤ _
      omega
    · split
      · obtain ⟨h1, h2, h3⟩ := ticks_keeps c.a.toNat s
        exact ⟨by omega, by omega, by omega⟩
      · unfold ofTaskC
        unfold sizeS at f5
        have same : ∀ (k : Nat) (t : Tsk), Small { s with tasks := s.tasks.set k t } := fun k t => ⟨by simp; omega, f6.2, by unfold sizeS; simp; omega⟩
        split
        · exact same _ _
        · split
          · exact same _ _
          · split
            · have he := List.length_eraseIdx_le s.tasks (atFrom s.tasks c.no).toNat
              refine ⟨by show (s.tasks.eraseIdx _).length ≤ _; omega, f6.2, ?_⟩
              unfold exitC sizeS
              dsimp only
              split
              · simp only [List.length_append, List.length_singleton]; omega
              · omega
            · split
              · have := askL_size s.locks c.a c.no
                refine ⟨by show s.tasks.length ≤ _; omega, f6.2, ?_⟩
                show s.tasks.length + sizeN (askL s.locks c.a c.no) + s.ghosts.length + s.floors.length + s.trace.length ≤ _
                omega
              · split
                · have := freeL_size s.locks c.a c.no (bestI s.tasks (waitsAt s.locks c.a.toNat))
                  refine ⟨by show s.tasks.length ≤ _; omega, f6.2, ?_⟩
                  show s.tasks.length + sizeN (freeL s.locks c.a c.no (bestI s.tasks (waitsAt s.locks c.a.toNat))) + s.ghosts.length + s.floors.length + s.trace.length ≤ _
                  omega
                · split
                  · exact same _ _
                  · split
                    · exact same _ _
                    · exact ⟨by omega, f6.2, by unfold sizeS; omega⟩
theorem runS_snoc : ∀ (cs : List Cl) (s : Sy) (c : Cl), runS s (cs ++ [c]) = if callN (runS s cs) c == 0 then callS (runS s cs) c else runS s cs
  | [], s, c => by
    show (if callN s c == 0 then runS (callS s c) [] else runS s []) = _
    rfl
  | x :: r, s, c => by
    show (if callN s x == 0 then runS (callS s x) (r ++ [c]) else runS s (r ++ [c])) = _
    cases h : (callN s x == 0)
    · have e : runS s (x :: r) = runS s r := by show (if callN s x == 0 then runS (callS s x) r else runS s r) = _; rw [h]; rfl
      rw [e]
      exact runS_snoc r s c
    · have e : runS s (x :: r) = runS (callS s x) r := by show (if callN s x == 0 then runS (callS s x) r else runS s r) = _; rw [h]; rfl
      rw [e]
      exact runS_snoc r (callS s x) c
theorem new_small {n : Int} (h : inB n 1 4 = true) : Small (newS n) := by
  have := inB_iff.1 h
  unfold newS
  rw [h]
  refine ⟨by simp [Sy.zero], this.2, ?_⟩
  simp [sizeS, Sy.zero, sizeN, sumW]
  omega
end Go.Proofs.YtpikopdfkhagmaaGreatDoor
namespace Go.Proofs.YtpikopdfkhagmaaGreatDoor
open Go.RowKit
attribute [local go_sem] Keeps.refl Keeps.alloc Keeps.drew Keeps.drewN

theorem there_at {ts : List Tsk} {no : Int} (h : thereB ts no = true) : ∃ k : Nat, atFrom ts no = (k : Int) ∧ (∃ t, ts[k]? = some t) ∧ ∀ t, ts[k]? = some t → tAt ts no = t := by
  obtain ⟨k, t, e, ht, -⟩ := thereB_iff.1 h
  exact ⟨k, e, ⟨t, ht⟩, fun t' ht' => tAt_of e ht'⟩
theorem doN_task {s : Sy} {c : Cl} (h4 : decide (c.kind ≤ 3) = false) (h11 : (c.kind == 11) = false) (hth : thereB s.tasks c.no = true) : doN s c = ofTaskN s c (tAt s.tasks c.no) := by
  unfold doN
  rw [if_neg (by simpa using h4), h11, hth]
  rfl
theorem doN_none {s : Sy} {c : Cl} (h4 : decide (c.kind ≤ 3) = false) (h11 : (c.kind == 11) = false) (hth : thereB s.tasks c.no = false) : doN s c = 2 := by
  unfold doN
  rw [if_neg (by simpa using h4), h11, hth]
  rfl
theorem doC_task {s : Sy} {c : Cl} (h4 : decide (c.kind ≤ 3) = false) (h11 : (c.kind == 11) = false) : doC s c = ofTaskC s c (atFrom s.tasks c.no).toNat (tAt s.tasks c.no) := by
  unfold doC
  rw [if_neg (by simpa using h4), h11]
  rfl
section
variable {w0 w : World} {lo ob rb : Nat} {v0 v : Sv} {vs0 vs : List Lv} {s : Sy}
theorem AskR.neT (h : AskR w0 lo v0 vs0 w ob rb v vs s) {tb : Nat} (ha : v.t.a = some ⟨tb, 0, none⟩) : tb ≠ ob := fun e => h.g.var.far 0 (by show v.t.val.ownBlock = some ob; rw [Rw.val, ha, e]; rfl)
theorem AskR.neR (h : AskR w0 lo v0 vs0 w ob rb v vs s) {tb : Nat} (ha : v.t.a = some ⟨tb, 0, none⟩) : tb ≠ rb := fun e => h.far 0 (by show v.t.val.ownBlock = some rb; rw [Rw.val, ha, e]; rfl)
/-- A cell of a task is stored over. -/
theorem AskR.taskCell (h : AskR w0 lo v0 vs0 w ob rb v vs s) {tb : Nat} (ha : v.t.a = some ⟨tb, 0, none⟩) {k : Nat} {x y : Tsk} (hk : s.tasks[k]? = some x) {j : Nat} (hj : j < 14) {u : Value} (e : (tc x).setIfInBounds j u = tc y) :
    AskR w0 lo v0 vs0 (w.setCell ⟨tb, k * 14 + j, none⟩ u) ob rb v vs { s with tasks := s.tasks.set k y } := by
  have ho : ofKind v vs 0 tb := by show v.t.val.ownBlock = some tb; rw [Rw.val, ha]; rfl
  have h1 := h.neT ha
  have h2 := h.neR ha
  have hn := (h.g.var.own.t.row tc_size).1
  have hv : v.t.val = .slice (some ⟨tb, 0, none⟩) s.tasks.length v.t.cap := by rw [Rw.val, ha, hn]
  have O := h.g.var.own.t
  rw [hv] at O
  have O2 : Own 90 14 tc (w.setCell ⟨tb, k * 14 + j, none⟩ u) lo v.t.val (s.tasks.set k y) := by
    rw [hv]
    have := O.setAt tc_size (i := k) (j := j) (x := x) (y := y) (u := u) hk hj (by rw [← e]; simp)
    simpa using this
  have G : w.grownBy (w.setCell ⟨tb, k * 14 + j, none⟩ u) (some tb) := grown_putC [u] w (k * 14 + j) (World.grownBy.refl w (some tb))
  have OS : OwnS (w.setCell ⟨tb, k * 14 + j, none⟩ u) lo v vs { s with tasks := s.tasks.set k y } := h.g.var.own.setT G.size (fun b hb hnn => G.block b hb (fun e => hnn (by cases e; exact ho))) v.t _ O2 (fun b e => .inl e)
  exact ⟨⟨⟨h.g.var.box.far h1 _, OS, h.g.var.lob, h.g.var.far⟩, h.g.goes.step OS ((TurnsB.grown G).mono fun q e => by cases e; exact .inl ⟨0, ho⟩) fun i _ hb => .inl ⟨i, hb⟩, h.g.new⟩, h.r.far h2 _, h.far, h.ne, h.new⟩
/-- It is handed on, and what comes back is told. -/
theorem AskR.pass (h : AskR w0 lo v0 vs0 w ob rb v vs s) {w3 : World} {v3 : Sv} {vs3 : List Lv} {s3 : Sy} (g : Goes w lo v vs w3 v3 vs3 s3) : Blk w3 rb zc ∧ Blk (putC w3 rb 0 (syc s3 v3).toList) rb (syc s3 v3) ∧ Goes w0 lo v0 vs0 (putC w3 rb 0 (syc s3 v3).toList) v3 vs3 s3 := by
  have B := g.blk h.r h.far
  have F := g.far h.r.lt h.far
  refine ⟨B, B.putC (syc s3 v3).toList rfl, ?_⟩
  exact (h.g.goes.trans g).step (OwnS.farC F _ _ g.own) (TurnsB.putC (.inr h.new) _ 0 (TurnsB.refl _ _)) fun i _ hb => .inl ⟨i, hb⟩
end
end Go.Proofs.YtpikopdfkhagmaaGreatDoor
namespace Go.Proofs.YtpikopdfkhagmaaGreatDoor
open Go.RowKit

/-- Numbers are low, and so are the turns. -/
def Low (s : Sy) : Prop := (∀ t ∈ s.tasks, 1 ≤ t.no ∧ t.no ≤ 40) ∧ ∀ t ∈ s.trace, turnIn t
theorem renewOne_no (now : Int) (t : Tsk) : (renewOne now t).no = t.no := by
  unfold renewOne renewT
  split
  · split <;> rfl
  · rfl
theorem fairTo_no (t : Tsk) (x : Int) : (fairTo t x).no = t.no := by
  unfold fairTo; split <;> rfl
theorem wakeOne_no (s : Sy) (t : Tsk) : (wakeOne s t).no = t.no := by
  unfold wakeOne
  show (if ableB s.tasks s.locks t.no && t.idle then fairWakeT (wakeT { t with idle := false } s.now) (s.floors.getD t.cpu.toNat 0) else t).no = t.no
  split
  · have e : (wakeT { t with idle := false } s.now).no = t.no := by unfold wakeT; split <;> rfl
    unfold fairWakeT
    split
    · rw [fairTo_no, e]
    · exact e
  · rfl
theorem nextT_no (s : Sy) (t : Tsk) : (nextT s t).no = t.no := by
  have e1 : (spendT t).no = t.no := by unfold spendT; split <;> rfl
  have e2 : ∀ u : Tsk, (fairSpendT u).no = u.no := fun u => by
    unfold fairSpendT; split
    · exact fairTo_no _ _
    · rfl
  have e3 : ∀ (u : Tsk) (q : Int), (fixSpendT u q).no = u.no := fun u q => by
    unfold fixSpendT
    split
    · split
      · rfl
      · split <;> rfl
    · rfl
  unfold nextT
  rw [e3, e2, e1]
theorem Low.turn {s : Sy} (h : Low s) {c : Nat} (hc : c < 4) : Low (turnS s c) := by
  unfold turnS
  split
  · refine ⟨h.1, fun t ht => ?_⟩
    rcases List.mem_append.1 ht with h1 | h1
    · exact h.2 t h1
    · rw [List.mem_singleton] at h1
      rw [h1]
      exact ⟨⟨by show (0 : Int) ≤ c; omega, by show (c : Int) < 4; omega⟩, by show (0 : Int) ≤ 0; omega, by show (0 : Int) ≤ 40; omega⟩
  · next hp =>
    have hq : ∃ u, s.tasks[(pickI s.tasks s.locks c).toNat]? = some u := by
      rcases topN_spec s.tasks (candP s.tasks s.locks c) s.tasks.length (Nat.le_refl _) with ⟨e, _⟩ | ⟨j, u, e, _, hu, _, _⟩
      · have e' : pickI s.tasks s.locks c = -1 := e
        omega
      · have e' : pickI s.tasks s.locks c = (j : Int) := e
        exact ⟨u, by rw [e', Int.toNat_natCast]; exact hu⟩
    obtain ⟨u, hu⟩ := hq
    rw [getD_of hu]
    have hno := h.1 u (List.mem_of_getElem? hu)
    refine ⟨fun t ht => ?_, fun t ht => ?_⟩
    · rcases List.mem_or_eq_of_mem_set ht with h1 | h1
      · exact h.1 t h1
      · rw [h1, nextT_no]
        exact hno
    · rcases List.mem_append.1 ht with h1 | h1
      · exact h.2 t h1
      · rw [List.mem_singleton] at h1
        rw [h1]
        exact ⟨⟨by show (0 : Int) ≤ c; omega, by show (c : Int) < 4; omega⟩, by show (0 : Int) ≤ u.no; omega, hno.2⟩
theorem Low.turns {s : Sy} (h : Low s) : ∀ k : Nat, k ≤ 4 → Low (turnsS s k)
  | 0, _ => h
  | k + 1, hk => (Low.turns h k (by omega)).turn (by omega)
theorem Low.map {s : Sy} (h : Low s) (f : Tsk → Tsk) (hf : ∀ t, (f t).no = t.no) : ∀ t ∈ s.tasks.map f, 1 ≤ t.no ∧ t.no ≤ 40 := by
  intro t ht
  obtain ⟨u, hu, rfl⟩ := List.mem_map.1 ht
  rw [hf]
  exact h.1 u hu
theorem Low.tick {s : Sy} (h : Low s) (ht : tickB s = true) : Low (tickS s) := by
  have e : tickS s = aheadS (turnsS (flooredS (wakeS (agedS s))) s.cpus.toNat) := by unfold tickS; rw [ht]; rfl
  have hc : s.cpus ≤ 4 := by
    unfold tickB at ht
    rw [Bool.and_eq_true] at ht
    exact (sysB_iff.1 ht.1).cpus.2
  have h1 : Low (agedS s) := ⟨h.map _ (renewOne_no _), h.2⟩
  have h2 : Low (wakeS (agedS s)) := ⟨h1.map _ (wakeOne_no _), h1.2⟩
  have h3 : Low (flooredS (wakeS (agedS s))) := h2
  have h4 := h3.turns s.cpus.toNat (by omega)
  rw [e]
  exact h4
theorem Low.ticks : ∀ (n : Nat) {s : Sy}, Low s → Low (ticksS s n).1
  | 0, _, h => h
  | n + 1, s, h => by
    cases hb : tickB s
    · have e : (ticksS s (n + 1)).1 = s := by simp [ticksS, hb]
      rw [e]; exact h
    · have e : (ticksS s (n + 1)).1 = (ticksS (tickS s) n).1 := by simp [ticksS, hb]
      rw [e]
      exact Low.ticks n (h.tick hb)
theorem mem_ins (t : Tsk) : ∀ (ts : List Tsk) (x : Tsk), x ∈ ins t ts → x = t ∨ x ∈ ts
  | [], x, h => by
    have : x ∈ [t] := h
    exact .inl (List.mem_singleton.1 this)
  | y :: ts, x, h => by
    unfold ins at h
    split at h
    · rcases List.mem_cons.1 h with h1 | h1
      · exact .inl h1
      · exact .inr h1
    · rcases List.mem_cons.1 h with h1 | h1
      · exact .inr (by simp [h1])
      · rcases mem_ins t ts x h1 with h2 | h2
        · exact .inl h2
        · exact .inr (by simp [h2])
theorem mem_putL {ts : List Tsk} {t x : Tsk} (h : x ∈ putL ts t) : x = t ∨ x ∈ ts := by
  unfold putL at h
  split at h
  · split at h
    · exact mem_ins t ts x h
    · exact .inr h
  · cases h
theorem made_no {s : Sy} {c : Cl} (h : madeB s c = true) : (madeT s c).no = c.no := by
  unfold madeB at h
  unfold madeT
  split at h
  · next h1 =>
    rw [if_pos h1]
    unfold dueNewT
    rw [if_pos h]
    rfl
  · next h1 =>
    rw [if_neg h1]
    split at h
    · next h2 =>
      rw [if_pos h2]
      unfold newT
      rw [if_pos h]
      rfl
    · next h2 =>
      rw [if_neg h2]
      unfold newT
      rw [if_pos h]
      rfl
theorem Low.set {s : Sy} (h : Low s) (k : Nat) {t : Tsk} (ht : 1 ≤ t.no ∧ t.no ≤ 40) : ∀ x ∈ s.tasks.set k t, 1 ≤ x.no ∧ x.no ≤ 40 := by
  intro x hx
  rcases List.mem_or_eq_of_mem_set hx with h1 | h1
  · exact h.1 x h1
  · rw [h1]; exact ht
theorem tAt_low {s : Sy} (h : Low s) {no : Int} (ht : thereB s.tasks no = true) : 1 ≤ (tAt s.tasks no).no ∧ (tAt s.tasks no).no ≤ 40 := by
  obtain ⟨k, _, ⟨t, hk⟩, e⟩ := there_at ht
  rw [e t hk]
  exact h.1 t (List.mem_of_getElem? hk)
theorem Low.call {s : Sy} (h : Low s) {c : Cl} (hf : Few c) : Low (callS s c) := by
  unfold callS
  split
  case isFalse => exact ⟨fun t ht => (by cases ht), fun t ht => (by cases ht)⟩
  split
  case isFalse => exact h
  case isTrue hd =>
    rw [beq_iff_eq] at hd
    unfold doN at hd
    unfold doC
    split at hd
    · next hk =>
      rw [if_pos hk]
      have hm : madeB s c = true := by
        unfold newN at hd
        split at hd
        · omega
        · next hx =>
          simp only [Bool.or_eq_true, Bool.not_eq_true', not_or, Bool.not_eq_false] at hx
          exact hx.2
      have hn := hf hk
      refine ⟨fun t ht => ?_, h.2⟩
      rcases mem_putL ht with h1 | h1
      · rw [h1, made_no hm]
        omega
      · exact h.1 t h1
    · next hk =>
      rw [if_neg hk]
      split at hd
      · next h11 =>
        rw [if_pos h11]
        exact Low.ticks _ h
      · next h11 =>
        rw [if_neg h11]
        split at hd
        · omega
        · next hth =>
          simp only [Bool.not_eq_true', Bool.not_eq_false] at hth
          have ht := tAt_low h hth
          unfold ofTaskC
          split
          · exact ⟨h.set _ ht, h.2⟩
          split
          · exact ⟨h.set _ ht, h.2⟩
          split
          · exact ⟨fun t hx => h.1 t (List.mem_of_mem_eraseIdx hx), h.2⟩
          split
          · exact h
          split
          · exact h
          split
          · exact ⟨h.set _ ht, h.2⟩
          split
          · refine ⟨h.set _ ?_, h.2⟩
            have e : (fairMoveT (tAt s.tasks c.no) c.cpu (s.floors.getD (tAt s.tasks c.no).cpu.toNat 0) (s.floors.getD c.cpu.toNat 0)).no = (tAt s.tasks c.no).no := by unfold fairMoveT; split <;> rfl
            rw [e]
            exact ht
          · exact h
theorem Low.run : ∀ (cs : List Cl) {s : Sy}, Low s → (∀ c ∈ cs, Few c) → Low (runS s cs)
  | [], _, h, _ => h
  | c :: r, s, h, hf => by
    have hr : ∀ x ∈ r, Few x := fun x hx => hf x (by simp [hx])
    show Low (if callN s c == 0 then runS (callS s c) r else runS s r)
    split
    · exact Low.run r (h.call (hf c (by simp))) hr
    · exact Low.run r h hr
theorem Low.new (n : Int) : Low (newS n) := by
  unfold newS
  split <;> exact ⟨fun t ht => (by cases ht), fun t ht => (by cases ht)⟩
theorem run_low {n : Int} {cs : List Cl} (h : ∀ c ∈ cs, Few c) : Low (runS (newS n) cs) := Low.run cs (Low.new n) h
end Go.Proofs.YtpikopdfkhagmaaGreatDoor
namespace Go.Proofs.YtpikopdfkhagmaaGreatDoor
open Go.RowKit
attribute [local go_sem] Keeps.refl Keeps.alloc Keeps.drew Keeps.drewN

set_option maxRecDepth 100000 in
set_option linter.unusedSimpArgs false in
set_option maxHeartbeats 8000000 in
theorem l11Do_new {w : World} {lo : Nat} {v : Sv} {vs : List Lv} {s : Sy} (h : OwnS w lo v vs s) (hl : lo ≤ w.heap.size) (R : SysR s) (c : Cl) (h3 : c.kind ≤ 3) :
    Calls Tryz.prog 62 #[.agg (syc s v), ck c] w (Did w lo v vs (doN s c) (doC s c)) := by
  obtain ⟨⟨ta, tn, tcap⟩, ⟨la, ln, lcap⟩, ⟨ga, gn, gcap⟩, ⟨fa, fn, fcap⟩, ⟨ra, rn, rcap⟩⟩ := v
  have HN : Hid (doN s c = newN s c) := by show _ = _; unfold doN; rw [if_pos h3]
  have HC : Hid (doC s c = newC s c) := by show _ = _; unfold doC; rw [if_pos h3]
  have hd3 : decide (c.kind ≤ 3) = true := by simpa using h3
  obtain ⟨A0', C0', kZ⟩ := ask3 h hl c
  have C0 : Hid (Blk _ (w.heap.size + 1) (cc c)) := C0'
  have A0 : Hid (AskR w lo _ vs _ w.heap.size (w.heap.size + 2) _ vs s) := A0'
  have HS : Hid (SysOn _ _ s) := (h.on (by have := R.small; omega)).keeps kZ
  clear A0' C0' h
  go_enter Tryz.func62, Tryz.ntmps62
  go_upto_region 2 with fail
  change Code.wp _ _ _ _ (boxes3 w ⟨⟨ta, tn, tcap⟩, ⟨la, ln, lcap⟩, ⟨ga, gn, gcap⟩, ⟨fa, fn, fcap⟩, ⟨ra, rn, rcap⟩⟩ s c)
  generalize boxes3 w ⟨⟨ta, tn, tcap⟩, ⟨la, ln, lcap⟩, ⟨ga, gn, gcap⟩, ⟨fa, fn, fcap⟩, ⟨ra, rn, rcap⟩⟩ s c = Z at *
  have hb0 : ∀ w', Keeps Z w' → ∀ q, w'.cell? ⟨w.heap.size, q, none⟩ = (syc s ⟨⟨ta, tn, tcap⟩, ⟨la, ln, lcap⟩, ⟨ga, gn, gcap⟩, ⟨fa, fn, fcap⟩, ⟨ra, rn, rcap⟩⟩)[q]? := fun w' k => (A0.out.g.var.box.keeps k).cells
  dsimp only [syc] at hb0
  have hc0 : ∀ w', Keeps Z w' → ∀ q, w'.cell? ⟨w.heap.size + 1, q, none⟩ = (cc c)[q]? := fun w' k => (C0.out.keeps k).cells
  have AP := A0.out
  go_wp2_with (go_at_call 71; refine (l11New_any A0.out.g.var.own (Nat.le_trans hl kZ.size) R c).mono ?_; rintro e w6 ⟨s6, v6, vs6, rfl, hs6, g6⟩; obtain ⟨⟨ta6, tn6, tc6⟩, ⟨la6, ln6, lc6⟩, ⟨ga6, gn6, gc6⟩, ⟨fa6, fn6, fc6⟩, ⟨ra6, rn6, rc6⟩⟩ := v6; obtain ⟨P6, D6, G6⟩ := AP.pass g6; obtain ⟨_, r1, r2⟩ := P6)
  change bodyPost _ _ _ _ _ (putC w6 (w.heap.size + 2) 0 (syc (s6 : Sy) ⟨⟨ta6, tn6, tc6⟩, ⟨la6, ln6, lc6⟩, ⟨ga6, gn6, gc6⟩, ⟨fa6, fn6, fc6⟩, ⟨ra6, rn6, rc6⟩⟩).toList)
  generalize putC w6 (w.heap.size + 2) 0 (syc (s6 : Sy) ⟨⟨ta6, tn6, tc6⟩, ⟨la6, ln6, lc6⟩, ⟨ga6, gn6, gc6⟩, ⟨fa6, fn6, fc6⟩, ⟨ra6, rn6, rc6⟩⟩).toList = Q at D6 G6 ⊢
  exact bodyPost_ret (v := .tuple #[.agg (syc (s6 : Sy) ⟨⟨ta6, tn6, tc6⟩, ⟨la6, ln6, lc6⟩, ⟨ga6, gn6, gc6⟩, ⟨fa6, fn6, fc6⟩, ⟨ra6, rn6, rc6⟩⟩), .int .i64 (newN s c)]) (by simp [results, Tryz.results62, go_sem, D6.cells]) rfl (Did.of HN.out (fun e => by rw [HC.out]; exact hs6 e) G6)
set_option maxRecDepth 100000 in
set_option linter.unusedSimpArgs false in
set_option maxHeartbeats 8000000 in
theorem l11Do_none {w : World} {lo : Nat} {v : Sv} {vs : List Lv} {s : Sy} (h : OwnS w lo v vs s) (hl : lo ≤ w.heap.size) (R : SysR s) (c : Cl) (h4 : decide (c.kind ≤ 3) = false) (h11 : (c.kind == 11) = false) (hth : thereB s.tasks c.no = false) :
    Calls Tryz.prog 62 #[.agg (syc s v), ck c] w (Did w lo v vs (doN s c) (doC s c)) := by
  obtain ⟨⟨ta, tn, tcap⟩, ⟨la, ln, lcap⟩, ⟨ga, gn, gcap⟩, ⟨fa, fn, fcap⟩, ⟨ra, rn, rcap⟩⟩ := v
  have HN : Hid (doN s c = 2) := doN_none h4 h11 hth
  obtain ⟨pa, Hpa⟩ : ∃ z, Hid (atFrom s.tasks c.no = z) := ⟨_, rfl⟩
  have hpa : pa < 0 := by unfold thereB at hth; rw [Hpa.out] at hth; simpa using hth
  obtain ⟨A0', C0', kZ⟩ := ask3 h hl c
  have C0 : Hid (Blk _ (w.heap.size + 1) (cc c)) := C0'
  have A0 : Hid (AskR w lo _ vs _ w.heap.size (w.heap.size + 2) _ vs s) := A0'
  have HS : Hid (SysOn _ _ s) := (h.on (by have := R.small; omega)).keeps kZ
  clear A0' C0' h
  go_enter Tryz.func62, Tryz.ntmps62
  go_wp2_with fail
  change Calls _ _ _ (boxes3 w ⟨⟨ta, tn, tcap⟩, ⟨la, ln, lcap⟩, ⟨ga, gn, gcap⟩, ⟨fa, fn, fcap⟩, ⟨ra, rn, rcap⟩⟩ s c) _
  generalize boxes3 w ⟨⟨ta, tn, tcap⟩, ⟨la, ln, lcap⟩, ⟨ga, gn, gcap⟩, ⟨fa, fn, fcap⟩, ⟨ra, rn, rcap⟩⟩ s c = Z at *
  have hb0 : ∀ w', Keeps Z w' → ∀ q, w'.cell? ⟨w.heap.size, q, none⟩ = (syc s ⟨⟨ta, tn, tcap⟩, ⟨la, ln, lcap⟩, ⟨ga, gn, gcap⟩, ⟨fa, fn, fcap⟩, ⟨ra, rn, rcap⟩⟩)[q]? := fun w' k => (A0.out.g.var.box.keeps k).cells
  dsimp only [syc] at hb0
  have hc0 : ∀ w', Keeps Z w' → ∀ q, w'.cell? ⟨w.heap.size + 1, q, none⟩ = (cc c)[q]? := fun w' k => (C0.out.keeps k).cells
  refine (HS.out.onT.sTaskAt c.no Hpa.out (Keeps.refl _)).mono ?_
  rintro e w1 ⟨rfl, k1⟩
  have AE := A0.out.keeps k1
  obtain ⟨_, o1, o2⟩ := AE.g.var.box
  dsimp only [syc] at o1
  obtain ⟨_, r1, r2⟩ := AE.r
  go_wp2
  exact AE.ret HN.out (fun h => absurd h (by decide)) rfl (fun Q D => by simp [results, Tryz.results62, go_sem, D])
set_option maxRecDepth 100000 in
set_option linter.unusedSimpArgs false in
set_option maxHeartbeats 8000000 in
theorem l11Do_ticks {w : World} {lo : Nat} {v : Sv} {vs : List Lv} {s : Sy} (h : OwnS w lo v vs s) (hl : lo ≤ w.heap.size) (R : SysR s) (cn cp ca cb : Int) :
    Calls Tryz.prog 62 #[.agg (syc s v), ck ⟨11, cn, cp, ca, cb⟩] w (Did w lo v vs (doN s ⟨11, cn, cp, ca, cb⟩) (doC s ⟨11, cn, cp, ca, cb⟩)) := by
  obtain ⟨⟨ta, tn, tcap⟩, ⟨la, ln, lcap⟩, ⟨ga, gn, gcap⟩, ⟨fa, fn, fcap⟩, ⟨ra, rn, rcap⟩⟩ := v
  obtain ⟨tn2, Htn⟩ : ∃ z, Hid (ticksN s ca = z) := ⟨_, rfl⟩
  obtain ⟨ts2, Hts⟩ : ∃ z, Hid (ticksOf s ca = z) := ⟨_, rfl⟩
  have hsb := sysB_iff.2 R
  have HN0 : Hid (doN s ⟨11, cn, cp, ca, cb⟩ = if !inB ca 1 50 then 1 else if tn2 < ca then 4 else 0) := by
    show _ = _
    rw [← Htn.out]
    unfold doN ticksN
    rw [hsb]
    rfl
  have HC0 : Hid (doC s ⟨11, cn, cp, ca, cb⟩ = ts2) := by
    show _ = _
    rw [← Hts.out]
    unfold doC ticksOf
    rw [hsb]
    rfl
  obtain ⟨A0', C0', kZ⟩ := ask3 h hl ⟨11, cn, cp, ca, cb⟩
  have C0 : Hid (Blk _ (w.heap.size + 1) (cc ⟨11, cn, cp, ca, cb⟩)) := C0'
  have A0 : Hid (AskR w lo _ vs _ w.heap.size (w.heap.size + 2) _ vs s) := A0'
  have HS : Hid (SysOn _ _ s) := (h.on (by have := R.small; omega)).keeps kZ
  clear A0' C0' h
  go_enter Tryz.func62, Tryz.ntmps62
  go_wp2_with fail
  change Calls _ _ _ (boxes3 w ⟨⟨ta, tn, tcap⟩, ⟨la, ln, lcap⟩, ⟨ga, gn, gcap⟩, ⟨fa, fn, fcap⟩, ⟨ra, rn, rcap⟩⟩ s ⟨11, cn, cp, ca, cb⟩) _
  generalize boxes3 w ⟨⟨ta, tn, tcap⟩, ⟨la, ln, lcap⟩, ⟨ga, gn, gcap⟩, ⟨fa, fn, fcap⟩, ⟨ra, rn, rcap⟩⟩ s ⟨11, cn, cp, ca, cb⟩ = Z at *
  have hb0 : ∀ w', Keeps Z w' → ∀ q, w'.cell? ⟨w.heap.size, q, none⟩ = (syc s ⟨⟨ta, tn, tcap⟩, ⟨la, ln, lcap⟩, ⟨ga, gn, gcap⟩, ⟨fa, fn, fcap⟩, ⟨ra, rn, rcap⟩⟩)[q]? := fun w' k => (A0.out.g.var.box.keeps k).cells
  dsimp only [syc] at hb0
  have hc0 : ∀ w', Keeps Z w' → ∀ q, w'.cell? ⟨w.heap.size + 1, q, none⟩ = (cc ⟨11, cn, cp, ca, cb⟩)[q]? := fun w' k => (C0.out.keeps k).cells
  refine (l1In_any _ _ _ _).mono ?_
  rintro e w' ⟨rfl, hw'⟩
  have hw2 := hw'.symm
  subst hw2
  cases c1 : inB ca 1 50
  · have HN : Hid (doN s ⟨11, cn, cp, ca, cb⟩ = 1) := by show _ = _; rw [HN0.out, c1]; rfl
    have AE := A0.out
    obtain ⟨_, o1, o2⟩ := AE.g.var.box
    dsimp only [syc] at o1
    obtain ⟨_, r1, r2⟩ := AE.r
    go_wp2
    exact AE.ret HN.out (fun h => absurd h (by decide)) rfl (fun Q D => by simp [results, Tryz.results62, go_sem, D])
  have ST : Hid (Calls Tryz.prog 72 #[.agg (syc s ⟨⟨ta, tn, tcap⟩, ⟨la, ln, lcap⟩, ⟨ga, gn, gcap⟩, ⟨fa, fn, fcap⟩, ⟨ra, rn, rcap⟩⟩), .int .i64 ca] Z fun e w' => ∃ v' vs', e = .returned (.tuple #[.agg (syc ts2 v'), .int .i64 tn2]) ∧ OwnS w' Z.heap.size v' vs' ts2 ∧ Keeps Z w') := by
    have := specSysTicks_any HS.out ca
    rw [Htn.out, Hts.out] at this
    exact this
  go_upto_region 7 with (go_at_call 72; refine ST.out.mono ?_; rintro e w6 ⟨v6, vs6, rfl, o6, k6⟩; obtain ⟨⟨ta6, tn6, tc6⟩, ⟨la6, ln6, lc6⟩, ⟨ga6, gn6, gc6⟩, ⟨fa6, fn6, fc6⟩, ⟨ra6, rn6, rc6⟩⟩ := v6)
  have K7 : Keeps Z (w6.alloc (.cells (syc (ts2 : Sy) ⟨⟨ta6, tn6, tc6⟩, ⟨la6, ln6, lc6⟩, ⟨ga6, gn6, gc6⟩, ⟨fa6, fn6, fc6⟩, ⟨ra6, rn6, rc6⟩⟩) 43)) := k6.alloc _
  have B7 : Hid (Blk (w6.alloc (.cells (syc (ts2 : Sy) ⟨⟨ta6, tn6, tc6⟩, ⟨la6, ln6, lc6⟩, ⟨ga6, gn6, gc6⟩, ⟨fa6, fn6, fc6⟩, ⟨ra6, rn6, rc6⟩⟩) 43)) w6.heap.size (syc (ts2 : Sy) ⟨⟨ta6, tn6, tc6⟩, ⟨la6, ln6, lc6⟩, ⟨ga6, gn6, gc6⟩, ⟨fa6, fn6, fc6⟩, ⟨ra6, rn6, rc6⟩⟩)) := Blk.new _ _ _
  have O7 : Hid (OwnS (w6.alloc (.cells (syc (ts2 : Sy) ⟨⟨ta6, tn6, tc6⟩, ⟨la6, ln6, lc6⟩, ⟨ga6, gn6, gc6⟩, ⟨fa6, fn6, fc6⟩, ⟨ra6, rn6, rc6⟩⟩) 43)) Z.heap.size ⟨⟨ta6, tn6, tc6⟩, ⟨la6, ln6, lc6⟩, ⟨ga6, gn6, gc6⟩, ⟨fa6, fn6, fc6⟩, ⟨ra6, rn6, rc6⟩⟩ vs6 ts2) := o6.keeps ((Keeps.refl _).alloc _)
  change Code.wp _ _ _ _ (w6.alloc (.cells (syc (ts2 : Sy) ⟨⟨ta6, tn6, tc6⟩, ⟨la6, ln6, lc6⟩, ⟨ga6, gn6, gc6⟩, ⟨fa6, fn6, fc6⟩, ⟨ra6, rn6, rc6⟩⟩) 43))
  clear o6 k6
  generalize w6.alloc (.cells (syc (ts2 : Sy) ⟨⟨ta6, tn6, tc6⟩, ⟨la6, ln6, lc6⟩, ⟨ga6, gn6, gc6⟩, ⟨fa6, fn6, fc6⟩, ⟨ra6, rn6, rc6⟩⟩) 43) = X at *
  generalize w6.heap.size = tob at *
  cases c2 : decide (tn2 < ca)
  rotate_left
  · have c2' : tn2 < ca := of_decide_eq_true c2
    have HN : Hid (doN s ⟨11, cn, cp, ca, cb⟩ = 4) := by show _ = _; rw [HN0.out, c1]; simp [c2']
    have AE := A0.out.keeps K7
    obtain ⟨_, o1, o2⟩ := AE.g.var.box
    dsimp only [syc] at o1
    obtain ⟨_, r1, r2⟩ := AE.r
    go_wp2
    exact AE.ret HN.out (fun h => absurd h (by decide)) rfl (fun Q D => by simp [results, Tryz.results62, go_sem, D])
  have c2' : ¬ tn2 < ca := of_decide_eq_false c2
  have HN : Hid (doN s ⟨11, cn, cp, ca, cb⟩ = 0) := by show _ = _; rw [HN0.out, c1]; simp [c2']
  have GF : Goes Z lo ⟨⟨ta, tn, tcap⟩, ⟨la, ln, lcap⟩, ⟨ga, gn, gcap⟩, ⟨fa, fn, fcap⟩, ⟨ra, rn, rcap⟩⟩ vs X ⟨⟨ta6, tn6, tc6⟩, ⟨la6, ln6, lc6⟩, ⟨ga6, gn6, gc6⟩, ⟨fa6, fn6, fc6⟩, ⟨ra6, rn6, rc6⟩⟩ vs6 ts2 := Goes.fresh O7.out K7 (Nat.le_trans hl kZ.size)
  obtain ⟨P6, D6, G6⟩ := A0.out.pass GF
  obtain ⟨_, r1, r2⟩ := P6
  obtain ⟨_, b1, b2⟩ := B7.out
  dsimp only [syc] at b1
  go_wp2
  change bodyPost _ _ _ _ _ (putC X (w.heap.size + 2) 0 (syc (ts2 : Sy) ⟨⟨ta6, tn6, tc6⟩, ⟨la6, ln6, lc6⟩, ⟨ga6, gn6, gc6⟩, ⟨fa6, fn6, fc6⟩, ⟨ra6, rn6, rc6⟩⟩).toList)
  generalize putC X (w.heap.size + 2) 0 (syc (ts2 : Sy) ⟨⟨ta6, tn6, tc6⟩, ⟨la6, ln6, lc6⟩, ⟨ga6, gn6, gc6⟩, ⟨fa6, fn6, fc6⟩, ⟨ra6, rn6, rc6⟩⟩).toList = Q at D6 G6 ⊢
  exact bodyPost_ret (v := .tuple #[.agg (syc (ts2 : Sy) ⟨⟨ta6, tn6, tc6⟩, ⟨la6, ln6, lc6⟩, ⟨ga6, gn6, gc6⟩, ⟨fa6, fn6, fc6⟩, ⟨ra6, rn6, rc6⟩⟩), .int .i64 0]) (by simp [results, Tryz.results62, go_sem, D6.cells]) rfl (Did.of HN.out (fun _ => HC0.out.symm) G6)
end Go.Proofs.YtpikopdfkhagmaaGreatDoor
