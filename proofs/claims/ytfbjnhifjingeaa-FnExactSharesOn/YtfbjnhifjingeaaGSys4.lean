/-
  The system is marked, and looked at again: as a whole.
  The system: a new one.
  The walk of FnExactSysNew, over a contract of the program's SysNew.
  Rows of parts of time, held against each other, marked, and looked at again.
  Ticks: the last turns.
  What a right system is, limb by limb; it is small.
  A system of one's own, in a variable: calls that turn it, stores into it.
-/
import Derived.Test.YtfbjnhifjingeaaGSys3
import Derived.RegionTactic
import Derived.BigRegion
import Derived.Deep.RegionHeld3
import Derived.Test.YtfbjnhifjingeaaGSys2
import Derived.Test.YtfbjnhifjingeaaGPure2
import Derived.Test.YtfbjnhifjingeaaGDff1
import Derived.Test.YtfbjnhifjingeaaGLock2
import Derived.Test.YtfbjnhifjingeaaGTask3
namespace Go.Proofs.Ytfbjnhifjingeaa
open Go.RowKit
attribute [local go_sem] Keeps.refl Keeps.alloc Keeps.drew Keeps.drewN

set_option maxRecDepth 100000 in
set_option maxHeartbeats 4000000 in
theorem markSys_any {w : World} {lo : Nat} {v : Sv} {vs : List Lv} {s : Sy} (h : OwnS w lo v vs s) (hz : sizeS s ≤ 1048576) :
    Calls Try.prog 11 #[.agg (syc s v), .int .i64 1] w fun e w' => e = .returned (.int .i64 (marksEnd 1 s)) ∧ (∃ vs', OwnS w' lo v vs' (marksS 1 s)) ∧ TurnsB (fun q => ∃ i, ofKind v vs i q) w w' := by
  have z := hz
  unfold sizeS at z
  have H0 : Hid (OwnS (w.alloc (.cells (syc s v) 28)) lo v vs s) := h.keeps ((Keeps.refl w).alloc _)
  have LT : Hid (∀ i q, ofKind v vs i q → q < w.heap.size) := fun i q hq => (h.blkLt hq).2
  have B0 : Blk (w.alloc (.cells (syc s v) 28)) w.heap.size (syc s v) := Blk.new _ _ _
  have T0 : Hid (TurnsB (fun q => ∃ i, ofKind v vs i q) w (w.alloc (.cells (syc s v) 28))) := ⟨rfl, rfl, rfl, by simp, fun q hq _ => Below.block ((Keeps.refl w).alloc _) q hq⟩
  obtain ⟨nt, Ht⟩ : ∃ n, Hid (s.tasks.length = n) := ⟨_, rfl⟩
  obtain ⟨nl, Hl⟩ : ∃ n, Hid (sizeN s.locks = n) := ⟨_, rfl⟩
  obtain ⟨ng, Hg⟩ : ∃ n, Hid (s.ghosts.length = n) := ⟨_, rfl⟩
  obtain ⟨nf, Hf⟩ : ∃ n, Hid (s.floors.length = n) := ⟨_, rfl⟩
  obtain ⟨nr, Hr⟩ : ∃ n, Hid (s.trace.length = n) := ⟨_, rfl⟩
  rw [Ht.out, Hl.out, Hg.out, Hf.out, Hr.out] at z
  have HE : Hid (marksEnd 1 s = 1 + 14 * (nt : Int) + (nl : Int) + 4 * (ng : Int) + (nf : Int) + 3 * (nr : Int)) := by show _ = _; unfold marksEnd; rw [Ht.out, Hl.out, Hg.out, Hf.out, Hr.out]
  have HM : Hid (marksS 1 s = { s with tasks := marks 1 nt, locks := marksL (1 + 14 * (nt : Int)) s.locks, ghosts := marksG (1 + 14 * (nt : Int) + (nl : Int)) ng, floors := upFrom (1 + 14 * (nt : Int) + (nl : Int) + 4 * (ng : Int)) nf, trace := marksR (1 + 14 * (nt : Int) + (nl : Int) + 4 * (ng : Int) + (nf : Int)) nr }) := by show _ = _; unfold marksS; rw [Ht.out, Hl.out, Hg.out, Hf.out, Hr.out]
  clear h hz
  go_enter Try.func11, Try.ntmps11
  go_wp2_with fail
  obtain ⟨_, b1, b2⟩ := B0
  have B0 : Hid (Blk (w.alloc (.cells (syc s v) 28)) w.heap.size (syc s v)) := Blk.new _ _ _
  generalize w.alloc (.cells (syc s v) 28) = W0 at *
  have M0 := markTaskS_own (1) (by omega) (by omega) v.t.val s.tasks lo W0 (by have := Ht.out; omega) H0.out.t
  rw [Ht.out] at M0
  refine M0.mono ?_
  rintro e W1 ⟨rfl, O1, g1⟩
  clear M0
  have k1 : ∀ b, b < W0.heap.size → ¬ ofKind v vs 0 b → W1.heap[b]? = W0.heap[b]? := fun b hb hn => g1.block b hb (fun e => hn e.symm)
  have H1 : Hid (OwnS W1 lo v vs { s with tasks := marks 1 nt }) := H0.out.setT g1.size k1 v.t _ O1 (fun b e => .inl e)
  have T1 : Hid (TurnsB (fun q => ∃ i, ofKind v vs i q) w W1) := T0.out.trans ((TurnsB.grown g1).mono fun q hq => ⟨0, hq⟩)
  have X1 : Blk W1 w.heap.size (syc s v) := B0.out.grown g1 (fun q hq e => by have := LT.out 0 q hq; omega)
  have B1 : Hid (Blk W1 w.heap.size (syc s v)) := X1
  clear g1 k1 O1 H0 T0 B0 b1 b2
  obtain ⟨_, b1, b2⟩ := X1
  go_wp2_with fail
  have M1 := markLockS_b (1 + 14 * (nt : Int)) (by omega) (by omega) v.l.val vs s.locks lo W1.heap.size W1 (by have := Hl.out; omega) H1.out.l
  rw [Hl.out] at M1
  refine M1.mono ?_
  rintro e W2 ⟨rfl, ⟨vs2, O2, S2⟩, g2⟩
  clear M1
  have k2 : ∀ b, b < W1.heap.size → ¬ ofKind v vs 1 b → W2.heap[b]? = W1.heap[b]? := fun b hb hn => g2.block b hb hn
  have H2 : Hid (OwnS W2 lo v vs2 { { s with tasks := marks 1 nt } with locks := marksL (1 + 14 * (nt : Int)) s.locks }) := H1.out.setL k2 v.l _ (O2.widen (Nat.le_refl _) g2.size) (fun b e => .inl (S2 b e))
  have V2 : Hid (∀ i q, ofKind v vs2 i q → ofKind v vs i q) := by
    intro i q hq
    match i, hq with
    | 0, hq => exact hq
    | 1, hq => exact S2 q hq
    | 2, hq => exact hq
    | 3, hq => exact hq
    | 4, hq => exact hq
  have T2 : Hid (TurnsB (fun q => ∃ i, ofKind v vs i q) w W2) := T1.out.trans (g2.mono fun q hq => ⟨1, hq⟩)
  have X2 : Blk W2 w.heap.size (syc s v) := by
    have e := k2 w.heap.size B1.out.lt (fun hq => by have := LT.out 1 _ hq; omega)
    exact ⟨Nat.lt_of_lt_of_le B1.out.lt g2.size, fun j => (World.cell?_of_block (w := W1) e).trans (B1.out.cells j), fun j => (World.frozen?_of_block (w := W1) e).trans (B1.out.frozens j)⟩
  have B2 : Hid (Blk W2 w.heap.size (syc s v)) := X2
  clear g2 k2 O2 H1 T1 B1 b1 b2
  obtain ⟨_, b1, b2⟩ := X2
  go_wp2_with fail
  have M2 := markGhostS_own (1 + 14 * (nt : Int) + (nl : Int)) (by omega) (by omega) v.g.val s.ghosts lo W2 (by have := Hg.out; omega) H2.out.g
  rw [Hg.out] at M2
  refine M2.mono ?_
  rintro e W3 ⟨rfl, O3, g3⟩
  clear M2
  have k3 : ∀ b, b < W2.heap.size → ¬ ofKind v vs2 2 b → W3.heap[b]? = W2.heap[b]? := fun b hb hn => g3.block b hb (fun e => hn e.symm)
  have H3 : Hid (OwnS W3 lo v vs2 { { { s with tasks := marks 1 nt } with locks := marksL (1 + 14 * (nt : Int)) s.locks } with ghosts := marksG (1 + 14 * (nt : Int) + (nl : Int)) ng }) := H2.out.setG g3.size k3 v.g _ O3 (fun b e => .inl e)
  have T3 : Hid (TurnsB (fun q => ∃ i, ofKind v vs i q) w W3) := T2.out.trans ((TurnsB.grown g3).mono fun q hq => ⟨2, hq⟩)
  have X3 : Blk W3 w.heap.size (syc s v) := B2.out.grown g3 (fun q hq e => by have := LT.out 2 q hq; omega)
  have B3 : Hid (Blk W3 w.heap.size (syc s v)) := X3
  clear g3 k3 O3 H2 T2 B2 b1 b2
  obtain ⟨_, b1, b2⟩ := X3
  go_wp2_with fail
  have M3 := markIntS_own v.f.val lo s.floors (1 + 14 * (nt : Int) + (nl : Int) + 4 * (ng : Int)) W3 (by have := Hf.out; omega) (by omega) (by omega) H3.out.f
  rw [Hf.out] at M3
  refine M3.mono ?_
  rintro e W4 ⟨rfl, O4, g4⟩
  clear M3
  have k4 : ∀ b, b < W3.heap.size → ¬ ofKind v vs2 3 b → W4.heap[b]? = W3.heap[b]? := fun b hb hn => g4.block b hb (fun e => hn e.symm)
  have H4 : Hid (OwnS W4 lo v vs2 { { { { s with tasks := marks 1 nt } with locks := marksL (1 + 14 * (nt : Int)) s.locks } with ghosts := marksG (1 + 14 * (nt : Int) + (nl : Int)) ng } with floors := upFrom (1 + 14 * (nt : Int) + (nl : Int) + 4 * (ng : Int)) nf }) := H3.out.setF g4.size k4 v.f _ O4 (fun b e => .inl e)
  have T4 : Hid (TurnsB (fun q => ∃ i, ofKind v vs i q) w W4) := T3.out.trans ((TurnsB.grown g4).mono fun q hq => ⟨3, hq⟩)
  have X4 : Blk W4 w.heap.size (syc s v) := B3.out.grown g4 (fun q hq e => by have := LT.out 3 q hq; omega)
  have B4 : Hid (Blk W4 w.heap.size (syc s v)) := X4
  clear g4 k4 O4 H3 T3 B3 b1 b2
  obtain ⟨_, b1, b2⟩ := X4
  go_wp2_with fail
  have M4 := markTurnS_own (1 + 14 * (nt : Int) + (nl : Int) + 4 * (ng : Int) + (nf : Int)) (by omega) (by omega) v.r.val s.trace lo W4 (by have := Hr.out; omega) H4.out.r
  rw [Hr.out] at M4
  refine M4.mono ?_
  rintro e W5 ⟨rfl, O5, g5⟩
  clear M4
  have k5 : ∀ b, b < W4.heap.size → ¬ ofKind v vs2 4 b → W5.heap[b]? = W4.heap[b]? := fun b hb hn => g5.block b hb (fun e => hn e.symm)
  have H5 : Hid (OwnS W5 lo v vs2 { { { { { s with tasks := marks 1 nt } with locks := marksL (1 + 14 * (nt : Int)) s.locks } with ghosts := marksG (1 + 14 * (nt : Int) + (nl : Int)) ng } with floors := upFrom (1 + 14 * (nt : Int) + (nl : Int) + 4 * (ng : Int)) nf } with trace := marksR (1 + 14 * (nt : Int) + (nl : Int) + 4 * (ng : Int) + (nf : Int)) nr }) := H4.out.setR g5.size k5 v.r _ O5 (fun b e => .inl e)
  have T5 : Hid (TurnsB (fun q => ∃ i, ofKind v vs i q) w W5) := T4.out.trans ((TurnsB.grown g5).mono fun q hq => ⟨4, hq⟩)
  have X5 : Blk W5 w.heap.size (syc s v) := B4.out.grown g5 (fun q hq e => by have := LT.out 4 q hq; omega)
  have B5 : Hid (Blk W5 w.heap.size (syc s v)) := X5
  clear g5 k5 O5 H4 T4 B4 b1 b2
  obtain ⟨_, b1, b2⟩ := X5
  go_wp2
  go_ret
  exact ⟨by rw [HE.out]; rfl, ⟨vs2, by rw [HM.out]; exact H5.out⟩, T5.out⟩
set_option maxRecDepth 100000 in
set_option maxHeartbeats 4000000 in
theorem heldSys_any {p : Bool} {w : World} {v : Sv} {s : Sy} (h : SysLay p w v (marksS 1 s)) (hz : sizeS s ≤ 1048576) :
    Calls Try.prog 12 #[.agg (syc s v), .int .i64 1] w fun e w' => e = .returned (.int .i64 (marksEnd 1 s)) ∧ Keeps w w' := by
  have z := hz
  unfold sizeS at z
  have kW : Keeps w (w.alloc (.cells (syc s v) 28)) := (Keeps.refl w).alloc _
  have hb : ∀ w', Keeps (w.alloc (.cells (syc s v) 28)) w' → ∀ j, w'.cell? ⟨w.heap.size, j, none⟩ = (syc s v)[j]? := fun w' k => ((Blk.new w (syc s v) 28).keeps k).cells
  have HS : Hid (SysLay p (w.alloc (.cells (syc s v) 28)) v (marksS 1 s)) := h.keeps kW
  have Lt : Hid (s.tasks.length = v.t.n) := by show _ = _; rw [← h.tl]; simp [marksS, marks]
  have Ll : Hid (s.locks.length = v.l.n) := by show _ = _; rw [← h.ll]; simp [marksS, marksL]
  have Lg : Hid (s.ghosts.length = v.g.n) := by show _ = _; rw [← h.gl]; simp [marksS, marksG]
  have Lf : Hid (s.floors.length = v.f.n) := by show _ = _; rw [← h.fl]; simp [marksS, upFrom]
  have Lr : Hid (s.trace.length = v.r.n) := by show _ = _; rw [← h.rl]; simp [marksS, marksR]
  obtain ⟨nl, Hl⟩ : ∃ n, Hid (sizeN s.locks = n) := ⟨_, rfl⟩
  rw [Lt.out, Hl.out, Lg.out, Lf.out, Lr.out] at z
  have HE : Hid (marksEnd 1 s = 1 + 14 * (v.t.n : Int) + (nl : Int) + 4 * (v.g.n : Int) + (v.f.n : Int) + 3 * (v.r.n : Int)) := by show _ = _; unfold marksEnd; rw [Lt.out, Hl.out, Lg.out, Lf.out, Lr.out]
  have HM : Hid (marksS 1 s = { s with tasks := marks 1 v.t.n, locks := marksL (1 + 14 * (v.t.n : Int)) s.locks, ghosts := marksG (1 + 14 * (v.t.n : Int) + (nl : Int)) v.g.n, floors := upFrom (1 + 14 * (v.t.n : Int) + (nl : Int) + 4 * (v.g.n : Int)) v.f.n, trace := marksR (1 + 14 * (v.t.n : Int) + (nl : Int) + 4 * (v.g.n : Int) + (v.f.n : Int)) v.r.n }) := by show _ = _; unfold marksS; rw [Lt.out, Hl.out, Lg.out, Lf.out, Lr.out]
  rw [HM.out] at HS
  clear h hz HM
  go_enter Try.func12, Try.ntmps12
  go_wp2_with fail
  generalize w.alloc (.cells (syc s v) 28) = W at *
  have Q0 := heldTaskS_any v.t.a v.t.cap v.t.n 1 W (by omega) (by omega) (by omega) (HS.out.keeps (Keeps.refl W)).t
  refine Q0.mono ?_
  rintro e w1 ⟨rfl, k1⟩
  have K1 : Keeps W w1 := (Keeps.refl W).trans k1
  clear Q0 k1
  have d0 : decide (1 + 14 * (v.t.n : Int) < (0 : Int)) = false := by simp; omega
  go_wp2_with fail
  have Q1 := heldLockS_k (1 + 14 * (v.t.n : Int)) (by omega) (by omega) v.l.a v.l.cap s.locks w1 (by have := Hl.out; omega) (HS.out.keeps K1).l
  rw [Ll.out, Hl.out] at Q1
  refine Q1.mono ?_
  rintro e w2 ⟨rfl, k2⟩
  have K2 : Keeps W w2 := K1.trans k2
  clear Q1 k2
  have d1 : decide (1 + 14 * (v.t.n : Int) + (nl : Int) < (0 : Int)) = false := by simp; omega
  go_wp2_with fail
  have Q2 := heldGhostS_k (1 + 14 * (v.t.n : Int) + (nl : Int)) (by omega) (by omega) v.g.a v.g.n v.g.cap w2 (by omega) (HS.out.keeps K2).g
  refine Q2.mono ?_
  rintro e w3 ⟨rfl, k3⟩
  have K3 : Keeps W w3 := K2.trans k3
  clear Q2 k3
  have d2 : decide (1 + 14 * (v.t.n : Int) + (nl : Int) + 4 * (v.g.n : Int) < (0 : Int)) = false := by simp; omega
  go_wp2_with fail
  have Q3 := heldIntS_any v.f.a v.f.cap v.f.n (1 + 14 * (v.t.n : Int) + (nl : Int) + 4 * (v.g.n : Int)) w3 (by omega) (by omega) (by omega) (HS.out.keeps K3).f
  refine Q3.mono ?_
  rintro e w4 ⟨rfl, k4⟩
  have K4 : Keeps W w4 := K3.trans k4
  clear Q3 k4
  have d3 : decide (1 + 14 * (v.t.n : Int) + (nl : Int) + 4 * (v.g.n : Int) + (v.f.n : Int) < (0 : Int)) = false := by simp; omega
  go_wp2_with fail
  have Q4 := heldTurnS_k (1 + 14 * (v.t.n : Int) + (nl : Int) + 4 * (v.g.n : Int) + (v.f.n : Int)) (by omega) (by omega) v.r.a v.r.n v.r.cap w4 (by omega) (HS.out.keeps K4).r
  refine Q4.mono ?_
  rintro e w5 ⟨rfl, k5⟩
  have K5 : Keeps W w5 := K4.trans k5
  clear Q4 k5
  have d4 : decide (1 + 14 * (v.t.n : Int) + (nl : Int) + 4 * (v.g.n : Int) + (v.f.n : Int) + 3 * (v.r.n : Int) < (0 : Int)) = false := by simp; omega
  go_wp2
  go_ret
  exact ⟨by rw [HE.out]; rfl, kW.trans K5⟩
end Go.Proofs.Ytfbjnhifjingeaa
namespace Go.Proofs.Ytfbjnhifjingeaa
open Go.RowKit
attribute [local go_sem] Keeps.refl Keeps.alloc Keeps.drew Keeps.drewN

theorem OwnS.nothing (w : World) (lo : Nat) : OwnS w lo Sv.zero [] Sy.zero := by
  refine ⟨World.ownsRow_nil _ _ _ _, Mine.none _ _ _ _ (World.ownsRow_nil _ _ _ _) (fun b e => by simp [Value.ownBlock] at e), World.ownsRow_nil _ _ _ _, World.ownsRow_nil _ _ _ _, World.ownsRow_nil _ _ _ _, ?_⟩
  intro i j b hi hj
  match i, hi with
  | 0, hi => simp [ofKind, Value.ownBlock] at hi
  | 1, hi => simp [ofKind, Value.ownBlock] at hi
  | 2, hi => simp [ofKind, Value.ownBlock] at hi
  | 3, hi => simp [ofKind, Value.ownBlock] at hi
  | 4, hi => simp [ofKind, Value.ownBlock] at hi
/-- The rows of a new system. -/
abbrev newV (c b1 b3 : Nat) : Sv := ⟨⟨none, 0, 0⟩, ⟨some ⟨b1, 0, none⟩, 5, 5⟩, ⟨none, 0, 0⟩, ⟨some ⟨b3, 0, none⟩, c, c⟩, ⟨none, 0, 0⟩⟩
theorem newS_is {c : Nat} (h : inB (c : Int) 1 4 = true) : newS c = { Sy.zero with cpus := (c : Int), locks := List.replicate 5 ⟨0, []⟩, floors := List.replicate c 0 } := by
  unfold newS
  rw [h, if_pos rfl, Int.toNat_natCast]
theorem new_own {W : World} {lo c b1 b3 : Nat} (h : inB (c : Int) 1 4 = true) (L : Mine W lo W.heap.size (.slice (some ⟨b1, 0, none⟩) 5 5) (List.replicate 5 Lv.zero) (List.replicate 5 ⟨0, []⟩)) (F : OwnN W lo (.slice (some ⟨b3, 0, none⟩) c c) (List.replicate c 0)) (hne : b1 ≠ b3) :
    OwnS W lo (newV c b1 b3) (List.replicate 5 Lv.zero) (newS c) := by
  rw [newS_is h]
  refine ⟨World.ownsRow_nil _ _ _ _, L, World.ownsRow_nil _ _ _ _, F, World.ownsRow_nil _ _ _ _, ?_⟩
  have key : ∀ i b, ofKind (newV c b1 b3) (List.replicate 5 Lv.zero) i b → (i = 1 ∧ b = b1) ∨ (i = 3 ∧ b = b3) := by
    intro i b hi
    match i, hi with
    | 0, hi => simp [ofKind, Value.ownBlock] at hi
    | 1, hi =>
      rcases hi with hi | ⟨x, hx, hi⟩
      · simp [Value.ownBlock] at hi; exact .inl ⟨rfl, hi.symm⟩
      · have := List.eq_of_mem_replicate hx
        subst this
        simp [Value.ownBlock] at hi
    | 2, hi => simp [ofKind, Value.ownBlock] at hi
    | 3, hi => simp [ofKind, Value.ownBlock] at hi; exact .inr ⟨rfl, hi.symm⟩
    | 4, hi => simp [ofKind, Value.ownBlock] at hi
  intro i j b hi hj
  have := key i b hi
  have := key j b hj
  omega
theorem made_ints (c : Nat) : madeCells #[.int .i64 0] c = madeCells (ic 0) (c * 1) := by rw [Nat.mul_one]
set_option maxRecDepth 100000 in
set_option maxHeartbeats 4000000 in
theorem specSysNew_any (cpus : Int) (w : World) :
    Calls Try.prog 8 #[.int .i64 cpus] w fun e w' => ∃ v vs, e = .returned (.tuple #[.agg (syc (newS cpus) v), .bool (inB cpus 1 4)]) ∧ OwnS w' w.heap.size v vs (newS cpus) ∧ Keeps w w' := by
  cases hc : inB cpus 1 4
  · have Hn : Hid (newS cpus = Sy.zero) := by show _ = _; unfold newS; rw [hc]; rfl
    go_enter Try.func8, Try.ntmps8
    go_wp2_with (go_at_call 29; refine (l1In_any _ _ _ _).mono ?_; rintro e w' ⟨rfl, hw'⟩; have hw2 := hw'.symm; subst hw2; rw [hc])
    exact bodyPost_ret (v := .tuple #[.agg (syc Sy.zero Sv.zero), .bool false]) (by simp [results, Try.results8, go_sem, Sy.zero]) rfl ⟨Sv.zero, [], by rw [Hn.out], by rw [Hn.out]; exact OwnS.nothing _ _, (Keeps.refl w).alloc _⟩
  · obtain ⟨c1, c2⟩ := inB_iff.1 hc
    obtain ⟨c, rfl⟩ : ∃ c : Nat, cpus = (c : Int) := ⟨cpus.toNat, by omega⟩
    have hm1 : ∀ w : World, (Instr.makeSlice 23 (.int .i64 5) (.int .i64 5)).run Try.prog w = .ok (.slice (some ⟨w.heap.size, 0, none⟩) 5 5) (w.alloc (.cells (madeCells #[.int .i64 0, .slice none 0 0] 10) 86)) := by
      have := run_make_zero (P := Try.prog) 23 86 (.agg #[.int .i64 0, .slice none 0 0]) 2 32 Try.underlying23 (by kernel_rfl) 5 (by decide) (by decide)
      simpa [Value.cells] using this
    have hm2 : ∀ w : World, (Instr.makeSlice 25 (.int .i64 (c : Int)) (.int .i64 (c : Int))).run Try.prog w = .ok (.slice (some ⟨w.heap.size, 0, none⟩) c c) (w.alloc (.cells (madeCells #[.int .i64 0] c) 3)) := by
      have := run_make_zero (P := Try.prog) 25 3 (.int .i64 0) 1 8 Try.underlying25 (by kernel_rfl) c (by omega) (by omega)
      simpa [Value.cells] using this
    go_enter Try.func8, Try.ntmps8
    go_wp2_with (go_at_call 29; refine (l1In_any _ _ _ _).mono ?_; rintro e w' ⟨rfl, hw'⟩; have hw2 := hw'.symm; subst hw2; rw [hc])
    go_region
    · have L : Mine ((((w.alloc (.cells #[.int .i64 0, .int .i64 (c : Int), .slice none 0 0, .slice (some ⟨w.heap.size + 1, 0, none⟩) 5 5, .slice none 0 0, .slice (some ⟨w.heap.size + 1 + 1, 0, none⟩) c c, .int .i64 0, .int .i64 0, .slice none 0 0] 28)).alloc (.cells (madeCells #[.int .i64 0, .slice none 0 0] 10) 86)).alloc (.cells (madeCells #[.int .i64 0] c) 3)).drew) w.heap.size ((((w.alloc (.cells #[.int .i64 0, .int .i64 (c : Int), .slice none 0 0, .slice (some ⟨w.heap.size + 1, 0, none⟩) 5 5, .slice none 0 0, .slice (some ⟨w.heap.size + 1 + 1, 0, none⟩) c c, .int .i64 0, .int .i64 0, .slice none 0 0] 28)).alloc (.cells (madeCells #[.int .i64 0, .slice none 0 0] 10) 86)).alloc (.cells (madeCells #[.int .i64 0] c) 3)).drew).heap.size (.slice (some ⟨w.heap.size + 1, 0, none⟩) 5 5) (List.replicate 5 Lv.zero) (List.replicate 5 ⟨0, []⟩) := by
        have m := Mine.zero (w.alloc (.cells #[.int .i64 0, .int .i64 (c : Int), .slice none 0 0, .slice (some ⟨w.heap.size + 1, 0, none⟩) 5 5, .slice none 0 0, .slice (some ⟨w.heap.size + 1 + 1, 0, none⟩) c c, .int .i64 0, .int .i64 0, .slice none 0 0] 28)) 5 (by decide)
        simp only [World.size_alloc] at m
        exact (m.keeps ((Keeps.refl _).alloc _).drew).widen (by omega) (by simp)
      have F : OwnN ((((w.alloc (.cells #[.int .i64 0, .int .i64 (c : Int), .slice none 0 0, .slice (some ⟨w.heap.size + 1, 0, none⟩) 5 5, .slice none 0 0, .slice (some ⟨w.heap.size + 1 + 1, 0, none⟩) c c, .int .i64 0, .int .i64 0, .slice none 0 0] 28)).alloc (.cells (madeCells #[.int .i64 0, .slice none 0 0] 10) 86)).alloc (.cells (madeCells #[.int .i64 0] c) 3)).drew) w.heap.size (.slice (some ⟨w.heap.size + 1 + 1, 0, none⟩) c c) (List.replicate c 0) := by
        have f := Own.zeros (e := 3) ic_size (by decide) (0 : Int) ((w.alloc (.cells #[.int .i64 0, .int .i64 (c : Int), .slice none 0 0, .slice (some ⟨w.heap.size + 1, 0, none⟩) 5 5, .slice none 0 0, .slice (some ⟨w.heap.size + 1 + 1, 0, none⟩) c c, .int .i64 0, .int .i64 0, .slice none 0 0] 28)).alloc (.cells (madeCells #[.int .i64 0, .slice none 0 0] 10) 86)) c (by unfold maxLen; omega)
        rw [← made_ints] at f
        simp only [World.size_alloc] at f
        exact (f.keeps (Keeps.refl _).drew).base (by omega)
      have D : Blk ((((w.alloc (.cells #[.int .i64 0, .int .i64 (c : Int), .slice none 0 0, .slice (some ⟨w.heap.size + 1, 0, none⟩) 5 5, .slice none 0 0, .slice (some ⟨w.heap.size + 1 + 1, 0, none⟩) c c, .int .i64 0, .int .i64 0, .slice none 0 0] 28)).alloc (.cells (madeCells #[.int .i64 0, .slice none 0 0] 10) 86)).alloc (.cells (madeCells #[.int .i64 0] c) 3)).drew) w.heap.size #[.int .i64 0, .int .i64 (c : Int), .slice none 0 0, .slice (some ⟨w.heap.size + 1, 0, none⟩) 5 5, .slice none 0 0, .slice (some ⟨w.heap.size + 1 + 1, 0, none⟩) c c, .int .i64 0, .int .i64 0, .slice none 0 0] := (((Blk.new _ _ _).alloc _).alloc _).keeps (Keeps.refl _).drew
      have K : Keeps w ((((w.alloc (.cells #[.int .i64 0, .int .i64 (c : Int), .slice none 0 0, .slice (some ⟨w.heap.size + 1, 0, none⟩) 5 5, .slice none 0 0, .slice (some ⟨w.heap.size + 1 + 1, 0, none⟩) c c, .int .i64 0, .int .i64 0, .slice none 0 0] 28)).alloc (.cells (madeCells #[.int .i64 0, .slice none 0 0] 10) 86)).alloc (.cells (madeCells #[.int .i64 0] c) 3)).drew) := ((((Keeps.refl w).alloc _).alloc _).alloc _).drew
      have S0 := new_own hc L F (by omega)
      have e0 : Hid (newS c = { Sy.zero with cpus := (c : Int), locks := List.replicate 5 ⟨0, []⟩, floors := List.replicate c 0 }) := newS_is hc
      generalize (((w.alloc (.cells #[.int .i64 0, .int .i64 (c : Int), .slice none 0 0, .slice (some ⟨w.heap.size + 1, 0, none⟩) 5 5, .slice none 0 0, .slice (some ⟨w.heap.size + 1 + 1, 0, none⟩) c c, .int .i64 0, .int .i64 0, .slice none 0 0] 28)).alloc (.cells (madeCells #[.int .i64 0, .slice none 0 0] 10) 86)).alloc (.cells (madeCells #[.int .i64 0] c) 3)).drew = Z at *
      go_wp2
      exact bodyPost_ret (v := .tuple #[.agg (syc (newS c) (newV c (w.heap.size + 1) (w.heap.size + 1 + 1))), .bool true]) (by rw [e0.out]; simp [results, Try.results8, go_sem, D.cells, Sy.zero]) rfl ⟨_, rfl, ⟨_, S0⟩, K⟩
    · have L : Mine ((((w.alloc (.cells #[.int .i64 0, .int .i64 (c : Int), .slice none 0 0, .slice (some ⟨w.heap.size + 1 + 1, 0, none⟩) 5 5, .slice none 0 0, .slice (some ⟨w.heap.size + 1, 0, none⟩) c c, .int .i64 0, .int .i64 0, .slice none 0 0] 28)).alloc (.cells (madeCells #[.int .i64 0] c) 3)).alloc (.cells (madeCells #[.int .i64 0, .slice none 0 0] 10) 86)).drew) w.heap.size ((((w.alloc (.cells #[.int .i64 0, .int .i64 (c : Int), .slice none 0 0, .slice (some ⟨w.heap.size + 1 + 1, 0, none⟩) 5 5, .slice none 0 0, .slice (some ⟨w.heap.size + 1, 0, none⟩) c c, .int .i64 0, .int .i64 0, .slice none 0 0] 28)).alloc (.cells (madeCells #[.int .i64 0] c) 3)).alloc (.cells (madeCells #[.int .i64 0, .slice none 0 0] 10) 86)).drew).heap.size (.slice (some ⟨w.heap.size + 1 + 1, 0, none⟩) 5 5) (List.replicate 5 Lv.zero) (List.replicate 5 ⟨0, []⟩) := by
        have m := Mine.zero ((w.alloc (.cells #[.int .i64 0, .int .i64 (c : Int), .slice none 0 0, .slice (some ⟨w.heap.size + 1 + 1, 0, none⟩) 5 5, .slice none 0 0, .slice (some ⟨w.heap.size + 1, 0, none⟩) c c, .int .i64 0, .int .i64 0, .slice none 0 0] 28)).alloc (.cells (madeCells #[.int .i64 0] c) 3)) 5 (by decide)
        simp only [World.size_alloc] at m
        exact (m.keeps (Keeps.refl _).drew).widen (by omega) (by simp)
      have F : OwnN ((((w.alloc (.cells #[.int .i64 0, .int .i64 (c : Int), .slice none 0 0, .slice (some ⟨w.heap.size + 1 + 1, 0, none⟩) 5 5, .slice none 0 0, .slice (some ⟨w.heap.size + 1, 0, none⟩) c c, .int .i64 0, .int .i64 0, .slice none 0 0] 28)).alloc (.cells (madeCells #[.int .i64 0] c) 3)).alloc (.cells (madeCells #[.int .i64 0, .slice none 0 0] 10) 86)).drew) w.heap.size (.slice (some ⟨w.heap.size + 1, 0, none⟩) c c) (List.replicate c 0) := by
        have f := Own.zeros (e := 3) ic_size (by decide) (0 : Int) (w.alloc (.cells #[.int .i64 0, .int .i64 (c : Int), .slice none 0 0, .slice (some ⟨w.heap.size + 1 + 1, 0, none⟩) 5 5, .slice none 0 0, .slice (some ⟨w.heap.size + 1, 0, none⟩) c c, .int .i64 0, .int .i64 0, .slice none 0 0] 28)) c (by unfold maxLen; omega)
        rw [← made_ints] at f
        simp only [World.size_alloc] at f
        exact (f.keeps ((Keeps.refl _).alloc _).drew).base (by omega)
      have D : Blk ((((w.alloc (.cells #[.int .i64 0, .int .i64 (c : Int), .slice none 0 0, .slice (some ⟨w.heap.size + 1 + 1, 0, none⟩) 5 5, .slice none 0 0, .slice (some ⟨w.heap.size + 1, 0, none⟩) c c, .int .i64 0, .int .i64 0, .slice none 0 0] 28)).alloc (.cells (madeCells #[.int .i64 0] c) 3)).alloc (.cells (madeCells #[.int .i64 0, .slice none 0 0] 10) 86)).drew) w.heap.size #[.int .i64 0, .int .i64 (c : Int), .slice none 0 0, .slice (some ⟨w.heap.size + 1 + 1, 0, none⟩) 5 5, .slice none 0 0, .slice (some ⟨w.heap.size + 1, 0, none⟩) c c, .int .i64 0, .int .i64 0, .slice none 0 0] := (((Blk.new _ _ _).alloc _).alloc _).keeps (Keeps.refl _).drew
      have K : Keeps w ((((w.alloc (.cells #[.int .i64 0, .int .i64 (c : Int), .slice none 0 0, .slice (some ⟨w.heap.size + 1 + 1, 0, none⟩) 5 5, .slice none 0 0, .slice (some ⟨w.heap.size + 1, 0, none⟩) c c, .int .i64 0, .int .i64 0, .slice none 0 0] 28)).alloc (.cells (madeCells #[.int .i64 0] c) 3)).alloc (.cells (madeCells #[.int .i64 0, .slice none 0 0] 10) 86)).drew) := ((((Keeps.refl w).alloc _).alloc _).alloc _).drew
      have S0 := new_own hc L F (by omega)
      have e0 : Hid (newS c = { Sy.zero with cpus := (c : Int), locks := List.replicate 5 ⟨0, []⟩, floors := List.replicate c 0 }) := newS_is hc
      generalize (((w.alloc (.cells #[.int .i64 0, .int .i64 (c : Int), .slice none 0 0, .slice (some ⟨w.heap.size + 1 + 1, 0, none⟩) 5 5, .slice none 0 0, .slice (some ⟨w.heap.size + 1, 0, none⟩) c c, .int .i64 0, .int .i64 0, .slice none 0 0] 28)).alloc (.cells (madeCells #[.int .i64 0] c) 3)).alloc (.cells (madeCells #[.int .i64 0, .slice none 0 0] 10) 86)).drew = Z at *
      go_wp2
      exact bodyPost_ret (v := .tuple #[.agg (syc (newS c) (newV c (w.heap.size + 1 + 1) (w.heap.size + 1))), .bool true]) (by rw [e0.out]; simp [results, Try.results8, go_sem, D.cells, Sy.zero]) rfl ⟨_, rfl, ⟨_, S0⟩, K⟩
end Go.Proofs.Ytfbjnhifjingeaa
namespace Go.Proofs.Ytfbjnhifjingeaa
open Go.RowKit
attribute [local go_sem] Keeps.refl Keeps.alloc Keeps.drew Keeps.drewN

def SaysSysNew : Prop := ∀ (cpus : Int) (w : World), Calls Try.prog 9 #[.int .i64 cpus] w fun e w' => ∃ v vs, e = .returned (.tuple #[.agg (syc (newS cpus) v), .bool (inB cpus 1 4)]) ∧ OwnS w' w.heap.size v vs (newS cpus) ∧ Keeps w w'
theorem newS_size (cpus : Int) : sizeS (newS cpus) ≤ 9 := by
  unfold newS
  split
  · rename_i h
    have := inB_iff.1 h
    simp [sizeS, Sy.zero, sizeN, sumW]
    omega
  · simp [sizeS, Sy.zero, sizeN, sumW]
theorem sumW_marks (k : Int) (ls : List Lk) : sumW (marksL k ls) = sumW ls := by
  have h : ∀ (ls : List Lk) (f : Nat → Lk → Lk), (∀ i l, (f i l).waits.length = l.waits.length) → sumW (ls.mapIdx f) = sumW ls := by
    intro ls
    induction ls with
    | nil => intro f _; rfl
    | cons l r ih =>
      intro f hf
      rw [List.mapIdx_cons]
      simp only [sumW, hf]
      rw [ih (fun i => f (i + 1)) fun i l => hf (i + 1) l]
  exact h ls _ fun i l => by simp [markL, upFrom]
theorem marksS_size (k : Int) (s : Sy) : sizeS (marksS k s) = sizeS s := by
  unfold sizeS marksS sizeN
  simp [marks, marksG, marksR, upFrom, sumW_marks, marksL_length]
theorem marksEnd_pos (s : Sy) : 1 ≤ marksEnd 1 s := by unfold marksEnd; omega
/-- What lay when a system of one's own began lies on when it has been marked. -/
theorem TurnsB.past {A w w' : World} {v : Sv} {vs : List Lv} {s : Sy} (t : TurnsB (fun q => ∃ i, ofKind v vs i q) w w') (o : OwnS w A.heap.size v vs s) (k : Keeps A w) : Keeps A w' := t.keeps k fun q hq => by obtain ⟨i, hi⟩ := hq; exact (o.blkLt hi).1
set_option maxRecDepth 100000 in
set_option maxHeartbeats 8000000 in
theorem exactSysNew_walk (H : SaysSysNew) (cpus : Int) (w : World) :
    Calls Try.prog 3 #[.int .i64 cpus] w fun e w' => e = .returned (.bool true) ∧ Keeps w w' := by
  have HH : Hid SaysSysNew := H
  clear H
  obtain ⟨g, Hg⟩ : ∃ g, Hid (inB cpus 1 4 = g) := ⟨_, rfl⟩
  have n0 : (g != g) = false := by simp
  obtain ⟨N, HN⟩ : ∃ N, Hid (newS cpus = N) := ⟨_, rfl⟩
  have hz : Hid (sizeS N ≤ 9) := by show _ ≤ _; rw [← HN.out]; exact newS_size cpus
  obtain ⟨E, HE, hE⟩ : ∃ E : Int, Hid (marksEnd 1 N = E) ∧ 1 ≤ E := ⟨_, rfl, marksEnd_pos N⟩
  have e0 : (E != E) = false := by simp
  have e1 : decide (E < 0) = false := by simp; omega
  have SP : Hid (∀ w, Calls Try.prog 8 #[.int .i64 cpus] w fun e w' => ∃ v vs, e = .returned (.tuple #[.agg (syc N v), .bool g]) ∧ OwnS w' w.heap.size v vs N ∧ Keeps w w') := fun w => by have := specSysNew_any cpus w; rw [HN.out, Hg.out] at this; exact this
  have IM : Hid (∀ w, Calls Try.prog 9 #[.int .i64 cpus] w fun e w' => ∃ v vs, e = .returned (.tuple #[.agg (syc N v), .bool g]) ∧ OwnS w' w.heap.size v vs N ∧ Keeps w w') := fun w => by have := HH.out cpus w; rw [HN.out, Hg.out] at this; exact this
  clear HH
  go_enter Try.func3, Try.ntmps3
  go_wp2_with fail
  refine (SP.out w).mono ?_
  rintro e w1 ⟨v1, vs1, rfl, O1, k1⟩
  have L1 : Hid (SysOn (w1.alloc (.cells (syc N v1) 28)) v1 N) := (O1.on (by have := hz.out; omega)).keeps ((Keeps.refl _).alloc _)
  have KA : Hid (Keeps w (w1.alloc (.cells (syc N v1) 28))) := k1.alloc _
  have ra : ∀ w', Keeps (w1.alloc (.cells (syc N v1) 28)) w' → ∀ j, w'.cell? ⟨w1.heap.size, j, none⟩ = (syc N v1)[j]? := fun w' k => ((Blk.new w1 (syc N v1) 28).keeps k).cells
  clear O1 k1
  go_wp2_with fail
  change Calls _ _ _ (w1.alloc (.cells (syc N v1) 28)) _
  generalize w1.alloc (.cells (syc N v1) 28) = A at *
  generalize w1.heap.size = a1 at *
  refine (IM.out A).mono ?_
  rintro e w2 ⟨v2, vs2, rfl, O2, k2⟩
  have OX : Hid (OwnS (w2.alloc (.cells (syc N v2) 28)) A.heap.size v2 vs2 N) := O2.keeps ((Keeps.refl _).alloc _)
  have FX : Hid (∀ i, ¬ ofKind v2 vs2 i w2.heap.size) := fun i hi => by have := (O2.blkLt hi).2; omega
  have KX : Keeps A (w2.alloc (.cells (syc N v2) 28)) := k2.alloc _
  have BX : Hid (Blk (w2.alloc (.cells (syc N v2) 28)) w2.heap.size (syc N v2)) := Blk.new _ _ _
  have rx : ∀ w', Keeps (w2.alloc (.cells (syc N v2) 28)) w' → ∀ j, w'.cell? ⟨w2.heap.size, j, none⟩ = (syc N v2)[j]? := fun w' k => ((Blk.new w2 (syc N v2) 28).keeps k).cells
  have rax : ∀ w', Keeps (w2.alloc (.cells (syc N v2) 28)) w' → ∀ j, w'.cell? ⟨a1, j, none⟩ = (syc N v1)[j]? := fun w' k => ra w' (KX.trans k)
  clear O2 k2
  go_wp2_with fail
  change Calls _ _ _ (w2.alloc (.cells (syc N v2) 28)) _
  generalize w2.alloc (.cells (syc N v2) 28) = X at *
  generalize w2.heap.size = b2 at *
  refine (eqSys_same (OX.out.on (by have := hz.out; omega)).lay (L1.out.lay.keeps KX)).mono ?_
  rintro e w3 ⟨rfl, k3⟩
  go_wp2_with fail
  refine (markSys_any (OX.out.keeps k3) (by have := hz.out; omega)).mono ?_
  rintro e M ⟨rfl, ⟨vs3, OM⟩, TM⟩
  have OMH : Hid (OwnS M A.heap.size v2 vs3 (marksS 1 N)) := OM
  have KM : Keeps A M := TM.past (OX.out.keeps k3) (KX.trans k3)
  have BM : Hid (Blk M b2 (syc N v2)) := by
    have b3 := BX.out.keeps k3
    have e := TM.block b2 b3.lt (fun ⟨i, hi⟩ => FX.out i hi)
    exact ⟨Nat.lt_of_lt_of_le b3.lt TM.size, fun j => (World.cell?_of_block (w := w3) e).trans (b3.cells j), fun j => (World.frozen?_of_block (w := w3) e).trans (b3.frozens j)⟩
  have rm : ∀ w', Keeps M w' → ∀ j, w'.cell? ⟨b2, j, none⟩ = (syc N v2)[j]? := fun w' k => (BM.out.keeps k).cells
  have ram : ∀ w', Keeps M w' → ∀ j, w'.cell? ⟨a1, j, none⟩ = (syc N v1)[j]? := fun w' k => ra w' (KM.trans k)
  have MS : Hid (sizeS (marksS 1 N) ≤ 2000000) := by
    show _ ≤ _
    rw [marksS_size]
    have := hz.out
    omega
  rw [HE.out]
  clear OM TM BX FX rx rax KX OX ra k3
  go_wp2_with fail
  refine (heldSys_any (OMH.out.on MS.out).lay (by have := hz.out; omega)).mono ?_
  rintro e w4 ⟨rfl, k4⟩
  rw [HE.out]
  go_wp2_with fail
  refine (IM.out w4).mono ?_
  rintro e w5 ⟨v5, vs5, rfl, O5, k5⟩
  have L5 : Hid (SysOn (w5.alloc (.cells (syc N v5) 28)) v5 N) := (O5.on (by have := hz.out; omega)).keeps ((Keeps.refl _).alloc _)
  have K5 : Keeps M (w5.alloc (.cells (syc N v5) 28)) := (k4.trans k5).alloc _
  have r5 : ∀ w', Keeps (w5.alloc (.cells (syc N v5) 28)) w' → ∀ j, w'.cell? ⟨w5.heap.size, j, none⟩ = (syc N v5)[j]? := fun w' k => ((Blk.new w5 (syc N v5) 28).keeps k).cells
  have r6 : ∀ w', Keeps (w5.alloc (.cells (syc N v5) 28)) w' → ∀ j, w'.cell? ⟨b2, j, none⟩ = (syc N v2)[j]? := fun w' k => rm w' (K5.trans k)
  have r7 : ∀ w', Keeps (w5.alloc (.cells (syc N v5) 28)) w' → ∀ j, w'.cell? ⟨a1, j, none⟩ = (syc N v1)[j]? := fun w' k => ram w' (K5.trans k)
  clear O5 k4 k5 rm ram
  go_wp2_with fail
  change Calls _ _ _ (w5.alloc (.cells (syc N v5) 28)) _
  generalize w5.alloc (.cells (syc N v5) 28) = Y at *
  refine (eqSys_same L5.out.lay (L1.out.lay.keeps (KM.trans K5))).mono ?_
  rintro e w6 ⟨rfl, k6⟩
  go_wp2_with fail
  refine (heldSys_any ((OMH.out.on MS.out).lay.keeps (K5.trans k6)) (by have := hz.out; omega)).mono ?_
  rintro e w7 ⟨rfl, k7⟩
  rw [HE.out]
  go_wp2
  go_ret
  exact ⟨rfl, KA.out.trans (KM.trans (K5.trans (k6.trans k7)))⟩
end Go.Proofs.Ytfbjnhifjingeaa
namespace Go.Proofs.Ytfbjnhifjingeaa
open Go.RowKit
attribute [local go_sem] Keeps.refl Keeps.alloc Keeps.drew Keeps.drewN

def mkP (k : Int) : Int × Int := (k, k + 1)
def marksP (k : Int) (n : Nat) : List (Int × Int) := (List.range n).map fun i : Nat => mkP (k + 2 * (i : Int))
theorem marksP_get {k : Int} {n i : Nat} (h : i < n) : (marksP k n)[i]? = some (mkP (k + 2 * (i : Int))) := by simp [marksP, h]
theorem marksP_length (k : Int) (n : Nat) : (marksP k n).length = n := by simp [marksP]

set_option maxRecDepth 100000 in
theorem eqShare_pc (x : Int × Int) (w : World) :
    Calls Try.prog 55 #[.agg (pc x), .agg (pc x)] w fun e w' => e = .returned (.bool true) ∧ Keeps w w' := by
  obtain ⟨q, p⟩ := x
  have e1 : (q != q) = false := by simp
  have e2 : (p != p) = false := by simp
  go_enter Try.func55, Try.ntmps55
  go_wp2
  go_ret
  exact ⟨rfl, ((Keeps.refl _).alloc _).alloc _⟩

set_option maxRecDepth 100000 in
set_option maxHeartbeats 2000000 in
theorem eqShareS_pc (a a' : Option Addr) (cap cap' n : Nat) (xs : List (Int × Int)) (w : World) (hl : n ≤ maxLen) (Hn : Hid (xs.length = n)) (hs : Lies 2 pc w a xs) (hs' : Lies 2 pc w a' xs) :
    Calls Try.prog 17 #[.slice a n cap, .slice a' n cap'] w fun e w' => e = .returned (.bool true) ∧ Keeps w w' := by
  unfold maxLen at hl
  have hne : ((n : Int) != (n : Int)) = false := by simp
  go_enter Try.func17, Try.ntmps17
  go_wp2
  go_loopw [5] (fun i wr => ∃ k : Nat, k ≤ n ∧ i = .int .i64 k ∧ Keeps w wr) (fun i _ => n - (intOf i).toNat)
  case atStart => exact ⟨0, Nat.zero_le _, rfl, Keeps.refl _⟩
  case round =>
    obtain ⟨k, hk, rfl, hK⟩ := hrel
    by_cases hlt : k < n
    · obtain ⟨x, hx⟩ := some_in (xs := xs) (k := k) (by rw [Hn.out]; exact hlt)
      obtain ⟨b, off, rfl, r0, r1⟩ := hs.at hx (by omega)
      obtain ⟨b', off', rfl, r0', r1'⟩ := hs'.at hx (by omega)
      have hlt' : (k : Int) < (n : Int) := by omega
      clear hs hs' hx
      go_wp2
      go_region_held3 (fun w' => Keeps w w') (first | exact Keeps.drew (by assumption) | exact Keeps.trans (by assumption) (by assumption))
        (first
        | (go_at_call 55; refine (eqShare_pc _ _).mono ?_; rintro e w1 ⟨rfl, hb⟩))
      go_wp2
      exact ⟨⟨k + 1, by omega, by go_num, by assumption⟩, by simp only [intOf]; omega⟩
    · have hlt' : decide ((k : Int) < (n : Int)) = false := by simp; omega
      go_wp2
      go_ret
      exact ⟨rfl, hK⟩

set_option maxRecDepth 100000 in
set_option maxHeartbeats 4000000 in
theorem markShareS_own (k0 : Int) (h0 : 0 ≤ k0) (h1 : k0 ≤ 50000000) (v : Value) (xs : List (Int × Int)) (lo : Nat) (w : World) (hl : xs.length ≤ 1048576) (h : Own 76 2 pc w lo v xs) :
    Calls Try.prog 18 #[v, .int .i64 k0] w fun e w' => e = .returned (.int .i64 (k0 + 2 * (xs.length : Int))) ∧ Own 76 2 pc w' lo v (marksP k0 xs.length) ∧ w.grownBy w' v.ownBlock := by
  obtain ⟨a, cap, rfl⟩ := h.form pc_size
  generalize hn : xs.length = n at *
  have Hn : Hid (xs.length = n) := hn
  clear hn
  go_enter Try.func18, Try.ntmps18
  go_wp2
  go_loopw [1, 5] (fun e i wr => ∃ (k : Nat) (ys : List (Int × Int)), k ≤ n ∧ i = .int .i64 k ∧ e = .int .i64 (k0 + 2 * (k : Int)) ∧ Hid (Own 76 2 pc wr lo (.slice a n cap) ys) ∧ Hid (ys.length = n) ∧ Hid (∀ j, j < k → ys[j]? = some (mkP (k0 + 2 * (j : Int)))) ∧ Hid (w.grownBy wr (Value.slice a n cap).ownBlock)) (fun _ i _ => n - (intOf i).toNat)
  case atStart => exact ⟨0, xs, Nat.zero_le _, rfl, by simp, h, Hn, fun j hj => by omega, World.grownBy.refl _ _⟩
  case round =>
    obtain ⟨k, ys, hk, rfl, rfl, O, hy, hf, hg⟩ := hrel
    clear h
    by_cases hlt : k < n
    · have hlt' : (k : Int) < (n : Int) := by omega
      obtain ⟨y, hyk⟩ := some_in (xs := ys) (k := k) (by rw [hy.out]; exact hlt)
      obtain ⟨b, cp, e1, -, -, -⟩ := O.out.some pc_size (by rw [hy.out]; omega)
      simp only [Value.slice.injEq] at e1
      obtain ⟨rfl, -, -⟩ := e1
      have O0 : Own 76 2 pc wr lo (.slice (some ⟨b, 0, none⟩) ys.length cap) ys := by rw [hy.out]; exact O.out
      have s99 : ∀ o, wr.frozen? ⟨b, o, none⟩ = false := fun o => O0.frozenAt o
      have s0 : wr.cell? ⟨b, k * 2, none⟩ = some (.int .i64 y.1) := O0.cellAt pc_size (k := 0) hyk (by omega)
      have s1 : wr.cell? ⟨b, k * 2 + 1, none⟩ = some (.int .i64 y.2) := O0.cellAt pc_size (k := 1) hyk (by omega)
      obtain ⟨c, Hc⟩ : ∃ c : Int, Hid (k0 + 2 * (k : Int) = c) := ⟨_, rfl⟩
      have hc0 : 0 ≤ c := by have := Hc.out; omega
      have hc1 : c ≤ 100000000 := by have := Hc.out; omega
      rw [Hc.out]
      have O1 : Hid (Own 76 2 pc (putC wr b (k * 2) (pc (mkP c)).toList) lo (.slice (some ⟨b, 0, none⟩) n cap) (ys.set k (mkP c))) := by
        show Own _ _ _ _ _ _ _
        have := O0.put pc_size (i := k) (by rw [hy.out]; exact hlt) (mkP c)
        rw [List.length_set, hy.out] at this
        exact this
      have G1 : Hid (w.grownBy (putC wr b (k * 2) (pc (mkP c)).toList) (Value.slice (some ⟨b, 0, none⟩) n cap).ownBlock) := grown_putC _ _ _ hg.out
      clear O0 hyk
      go_wp2
      refine ⟨⟨k + 1, ys.set k (mkP c), by omega, by go_num, ?_, O1, by show _ = _; simpa using hy.out, ?_, G1⟩, by simp only [intOf]; omega⟩
      · have := Hc.out
        rw [show c + 1 + 1 = k0 + 2 * ((k + 1 : Nat) : Int) from by omega]
      · intro j hj
        by_cases hjk : j = k
        · subst hjk
          rw [Hc.out, List.getElem?_set_self (by rw [hy.out]; exact hlt)]
        · rw [List.getElem?_set_ne (Ne.symm hjk)]
          exact hf.out j (by omega)
    · have e : k = n := by omega
      subst e
      have e2 : Hid (ys = marksP k0 k) := by
        show _ = _
        apply List.ext_getElem?
        intro j
        rcases Nat.lt_or_ge j k with hj | hj
        · rw [hf.out j hj, marksP_get hj]
        · rw [List.getElem?_eq_none (by rw [hy.out]; exact hj), List.getElem?_eq_none (by rw [marksP_length]; exact hj)]
      go_wp2
      go_ret
      refine ⟨rfl, ?_, hg.out⟩
      have := O.out
      rw [e2.out] at this
      exact this

/-- Its cells, written out. -/
abbrev mkPC (k : Int) : Array Value := #[.int .i64 (k), .int .i64 (k + 1)]
set_option maxRecDepth 100000 in
set_option maxHeartbeats 4000000 in
theorem heldShareS_k (k0 : Int) (h0 : 0 ≤ k0) (h1 : k0 ≤ 50000000) (a : Option Addr) (n cap : Nat) (w : World) (hl : n ≤ 1048576) (hs : Lies 2 pc w a (marksP k0 n)) :
    Calls Try.prog 19 #[.slice a n cap, .int .i64 k0] w fun e w' => e = .returned (.int .i64 (k0 + 2 * (n : Int))) ∧ Keeps w w' := by
  have e1 : ∀ x : Int, (x != x) = false := by simp
  go_enter Try.func19, Try.ntmps19
  go_wp2
  go_loopw [1, 5] (fun c i wr => ∃ k : Nat, k ≤ n ∧ i = .int .i64 k ∧ c = .int .i64 (k0 + 2 * (k : Int)) ∧ Keeps w wr) (fun _ i _ => n - (intOf i).toNat)
  case atStart => exact ⟨0, Nat.zero_le _, rfl, by simp, Keeps.refl _⟩
  case round =>
    obtain ⟨k, hk, rfl, rfl, hK⟩ := hrel
    by_cases hlt : k < n
    · have hlt' : (k : Int) < (n : Int) := by omega
      obtain ⟨c, Hc⟩ : ∃ c : Int, Hid (k0 + 2 * (k : Int) = c) := ⟨_, rfl⟩
      have hc0 : 0 ≤ c := by have := Hc.out; omega
      have hc1 : c ≤ 100000000 := by have := Hc.out; omega
      obtain ⟨b, off, rfl, r0, r1⟩ := hs.at (i := k) (marksP_get hlt) (by omega)
      rw [Hc.out] at r0 r1
      rw [Hc.out]
      have q0 : ∀ w', Keeps w w' → w'.cell? ⟨b, off + k * 2, none⟩ = (mkPC c)[0]? := r0
      have q1 : ∀ w', Keeps w w' → ∀ j, j < 2 → w'.cell? ⟨b, off + k * 2 + j, none⟩ = (mkPC c)[j]? := r1
      clear hs r0 r1
      go_wp2
      refine ⟨⟨k + 1, by omega, by go_num, ?_, hK⟩, by simp only [intOf]; omega⟩
      have := Hc.out
      rw [show c + 1 + 1 = k0 + 2 * ((k + 1 : Nat) : Int) from by omega]
    · have e : k = n := by omega
      subst e
      go_wp2
      go_ret
      exact ⟨rfl, hK⟩
end Go.Proofs.Ytfbjnhifjingeaa
namespace Go.Proofs.Ytfbjnhifjingeaa
open Go.RowKit
attribute [local go_sem] Keeps.refl Keeps.alloc Keeps.drew Keeps.drewN

theorem Lies.drop {α : Type} {sz : Nat} {c : α → Array Value} {w : World} {b off : Nat} {xs : List α} (h : Lies sz c w (some ⟨b, off, none⟩) xs) (f : Nat) : Lies sz c w (some ⟨b, off + f * sz, none⟩) (xs.drop f) := by
  rcases h with h | ⟨b', off', e, hb, h⟩
  · exact .inl (by rw [h]; simp)
  · simp only [Option.some.injEq, Addr.mk.injEq] at e
    obtain ⟨rfl, rfl, -⟩ := e
    refine .inr ⟨b, _, rfl, hb, fun i x hi k hk => ?_⟩
    rw [List.getElem?_drop] at hi
    have := h (f + i) x hi k hk
    rw [Nat.add_mul] at this
    rw [show off + f * sz + i * sz + k = off + (f * sz + i * sz) + k from by omega]
    exact this
set_option maxRecDepth 100000 in
set_option maxHeartbeats 1000000 in
theorem specLastTurns_any {w : World} {v : Sv} {s : Sy} (h : SysOn w v s) (hc : s.cpus ≤ 9223372036854775807) :
    Calls Try.prog 24 #[.agg (syc s v)] w fun e w' => ∃ u, e = .returned u ∧ Own 91 3 tnc w' w.heap.size u (lastsL s) ∧ Keeps w w' := by
  have hm1 : v.r.n ≤ 2000000 := by have := h.size; have := h.lay.rl; unfold sizeS at *; omega
  have kW : Keeps w (w.alloc (.cells (syc s v) 28)) := (Keeps.refl w).alloc _
  have hb : ∀ w', Keeps (w.alloc (.cells (syc s v) 28)) w' → ∀ j, w'.cell? ⟨w.heap.size, j, none⟩ = (syc s v)[j]? := fun w' k => ((Blk.new w (syc s v) 28).keeps k).cells
  have HS : Hid (SysOn (w.alloc (.cells (syc s v) 28)) v s) := h.keeps kW
  clear h
  obtain ⟨m, Hm⟩ : ∃ m : Int, Hid (max s.cpus 0 = m) := ⟨_, rfl⟩
  have hm0 : 0 ≤ m ∧ m ≤ 9223372036854775807 := by have := Hm.out; omega
  have ew : IntKind.i64.wrap ((v.r.n : Int) - m) = (v.r.n : Int) - m := Go.IntWalk.i64_in _ (by omega)
  obtain ⟨f, Hf⟩ : ∃ f : Nat, Hid (max ((v.r.n : Int) - m) 0 = (f : Int)) := ⟨(max ((v.r.n : Int) - m) 0).toNat, by show _ = _; omega⟩
  have hf : f ≤ v.r.n := by have := Hf.out; omega
  obtain ⟨D, HD⟩ : ∃ D, Hid (s.trace.drop f = D) := ⟨_, rfl⟩
  have HL : Hid (lastsL s = D) := by
    show _ = _
    rw [← HD.out]
    have h1 := HS.out.lay.rl
    have h2 := Hm.out
    have h3 := Hf.out
    unfold lastsL
    rw [h1, show v.r.n - s.cpus.toNat = f from by omega]
  go_enter Try.func24, Try.ntmps24
  go_wp2_with fail
  generalize w.alloc (.cells (syc s v) 28) = W at *
  refine wp_region_held_drew (S := (fun w' => Keeps W w')) (by kernel_rfl) ?_ (fun hHeld => ?_)
  · exact (Keeps.refl W).drew
  refine takeH 0 (v := ?_) (by simp only [opsAt]; rfl) (by kernel_rfl) (by exact fun _ _ _ h => h) (by rfl) (by assumption) ?_ ?_
  rotate_left
  · (intro w _; go_simp; try (with_reducible rfl))
  try simp only [putAtH]
  refine takeH 1 (v := ?_) (by simp only [opsAt]; rfl) (by kernel_rfl) (by exact fun _ _ _ h => h) (by rfl) (by assumption) ?_ ?_
  rotate_left
  · (intro w _; go_simp; try (with_reducible rfl))
  try simp only [putAtH]
  refine takeH 2 (v := ?_) (by simp only [opsAt]; rfl) (by kernel_rfl) (by exact fun _ _ _ h => h) (by rfl) (by assumption) ?_ ?_
  rotate_left
  · (intro w _; go_simp; try (with_reducible rfl))
  try simp only [putAtH]
  refine takeH 3 (v := ?_) (by simp only [opsAt]; rfl) (by kernel_rfl) (by exact fun _ _ _ h => h) (by rfl) (by assumption) ?_ ?_
  rotate_left
  · (intro w _; go_simp; try (with_reducible rfl))
  try simp only [putAtH]
  refine takeH 4 (v := ?_) (by simp only [opsAt]; rfl) (by kernel_rfl) (by exact fun _ _ _ h => h) (by rfl) (by assumption) ?_ ?_
  rotate_left
  · (intro w _; go_simp; try (with_reducible rfl))
  try simp only [putAtH]
  refine callH 5 (by kernel_rfl) (by simp only [opsAt]; rfl) (fun K hK => ?_)
  go_simp
  first
    | (go_at_call 59; refine (l1Max_any _ 0 _).mono ?_; rintro e w1 ⟨rfl, hw1⟩; rw [Hm.out]; have hw2 := hw1.symm; subst hw2; clear Hm)
    | (go_at_call 59; refine (l1Max_any _ 0 _).mono ?_; rintro e w1 ⟨rfl, hw1⟩; rw [Hf.out]; have hw2 := hw1.symm; subst hw2)
  try go_wp2_with fail
  refine hK.out _ _ ?_ (fun hHeld => ?_)
  · assumption
  clear hK K
  try simp only [putAtH]
  refine takeH 6 (v := ?_) (by simp only [opsAt]; rfl) (by kernel_rfl) (by exact fun _ _ _ h => h) (by rfl) (by assumption) ?_ ?_
  rotate_left
  · (intro w _; go_simp; try (with_reducible rfl))
  try simp only [putAtH]
  refine callH 7 (by kernel_rfl) (by simp only [opsAt]; rfl) (fun K hK => ?_)
  go_simp
  first
    | (go_at_call 59; refine (l1Max_any _ 0 _).mono ?_; rintro e w1 ⟨rfl, hw1⟩; rw [Hm.out]; have hw2 := hw1.symm; subst hw2; clear Hm)
    | (go_at_call 59; refine (l1Max_any _ 0 _).mono ?_; rintro e w1 ⟨rfl, hw1⟩; rw [Hf.out]; have hw2 := hw1.symm; subst hw2)
  try go_wp2_with fail
  refine hK.out _ _ ?_ (fun hHeld => ?_)
  · assumption
  clear hK K
  try simp only [putAtH]
  refine takeH 8 (v := ?_) (by simp only [opsAt]; rfl) (by kernel_rfl) (by exact fun _ _ _ h => h) (by rfl) (by assumption) ?_ ?_
  rotate_left
  · (intro w _; go_simp; try (with_reducible rfl))
  try simp only [putAtH]
  refine wpAnyH_done (by kernel_rfl) ?_ _
  have KX : Keeps W W.drew := (Keeps.refl W).drew
  have HX : Hid (SysOn W.drew v s) := HS.out.keeps KX
  generalize W.drew = X at *
  clear HS ew Hf
  have KY : Keeps X (X.alloc (.cells #[] 91)) := (Keeps.refl _).alloc _
  have O0 : Hid (Own 91 3 tnc (X.alloc (.cells #[] 91)) X.heap.size (.slice (some ⟨X.heap.size, 0, none⟩) 0 0) []) := Own.new 91 3 tnc _ (Nat.le_refl _)
  have Hr : Hid (Rs (X.alloc (.cells #[] 91)) v.r.a s.trace) := HX.out.lay.r.keeps KY
  have hpl := HX.out.rc
  have Hn : Hid (s.trace.length = v.r.n) := HX.out.lay.rl
  have WX : Hid (w.heap.size ≤ X.heap.size) := Nat.le_trans kW.size KX.size
  have hd : Hid (D.length = v.r.n - f) := by show _ = _; rw [← HD.out, List.length_drop, Hn.out]
  have hd2 : Hid (D.length ≤ 2097152) := by show _ ≤ _; rw [hd.out]; omega
  clear HX
  rcases hpl with ⟨e1, e2, e3⟩ | ⟨b, off, e1, hb', hle⟩
  · have hf0 : f = 0 := by omega
    have P1 : Hid (Plain (X.alloc (.cells #[] 91)) none 0 0) := .inl ⟨rfl, rfl, rfl⟩
    have L1 : Hid (Lies 3 tnc (X.alloc (.cells #[] 91)) none D) := .inl (List.length_eq_zero_iff.1 (by rw [hd.out]; omega))
    have N1 : Hid (D.length = 0) := by show _ = _; rw [hd.out]; omega
    go_wp2_with (at_builtin; (refine wpList_copy rfl _ _ 26 rfl X.heap.size 91 (.agg (tnc Tn.zero)) 3 24 tnc Try.underlying26 (by kernel_rfl) rfl (by decide) tnc_size tnc_one (.slice (some ⟨X.heap.size, 0, none⟩) 0 0) rfl O0.out (by simp) D ⟨none, 0, 0⟩ P1.out L1.out N1.out rfl hd2.out (by decide) ?_))
    intro v' w5 own5 g5 b5
    have K5 : Keeps X w5 := (TurnsB.grown g5).keeps KY fun q hq => by simp [Value.ownBlock] at hq; omega
    have O5 : Hid (Own 91 3 tnc w5 w.heap.size v' (lastsL s)) := by rw [HL.out]; exact Own.base own5 WX.out
    clear own5 g5 b5
    go_wp2
    go_ret
    exact ⟨_, rfl, O5.out, kW.trans (KX.trans K5)⟩
  · by_cases hfc : f = v.r.cap
    · have N1 : Hid (D = []) := List.length_eq_zero_iff.1 (by rw [hd.out]; omega)
      go_wp2
      go_ret
      exact ⟨_, rfl, by rw [HL.out, N1.out]; exact O0.out.base WX.out, kW.trans (KX.trans KY)⟩
    · have hfl : f < v.r.cap := by omega
      have P1 : Hid (Plain (X.alloc (.cells #[] 91)) (some ⟨b, off + f * 3, none⟩) (v.r.n - f) (v.r.cap - f)) := .inr ⟨b, off + f * 3, rfl, by simp; omega, by omega⟩
      have L1 : Hid (Lies 3 tnc (X.alloc (.cells #[] 91)) (some ⟨b, off + f * 3, none⟩) D) := by
        have := Hr.out
        rw [e1] at this
        rw [← HD.out]
        exact this.drop f
      go_wp2_with (at_builtin; (refine wpList_copy rfl _ _ 26 rfl X.heap.size 91 (.agg (tnc Tn.zero)) 3 24 tnc Try.underlying26 (by kernel_rfl) rfl (by decide) tnc_size tnc_one (.slice (some ⟨X.heap.size, 0, none⟩) 0 0) rfl O0.out (by simp) D ⟨some ⟨b, off + f * 3, none⟩, v.r.n - f, v.r.cap - f⟩ P1.out L1.out hd.out rfl hd2.out (by decide) ?_))
      intro v' w5 own5 g5 b5
      have K5 : Keeps X w5 := (TurnsB.grown g5).keeps KY fun q hq => by simp [Value.ownBlock] at hq; omega
      have O5 : Hid (Own 91 3 tnc w5 w.heap.size v' (lastsL s)) := by rw [HL.out]; exact Own.base own5 WX.out
      clear own5 g5 b5
      go_wp2
      go_ret
      exact ⟨_, rfl, O5.out, kW.trans (KX.trans K5)⟩
end Go.Proofs.Ytfbjnhifjingeaa
namespace Go.Proofs.Ytfbjnhifjingeaa
open Go.RowKit

structure SysR (s : Sy) : Prop where
  now : 0 ≤ s.now ∧ s.now ≤ 100000
  cpus : 1 ≤ s.cpus ∧ s.cpus ≤ 4
  tasks : tasksB s.tasks = true
  locks : sysLocksB s = true
  ghosts : ghostsB s = true
  floors : (s.floors.length : Int) = s.cpus
  seq : 0 ≤ s.seq ∧ s.seq ≤ 1000000
  missed : 0 ≤ s.missed ∧ s.missed ≤ 100000
  trace : s.trace.length ≤ 400
  on : ∀ t ∈ s.tasks, t.cpu < s.cpus
  cpu : ∀ c : Nat, (c : Int) < s.cpus → cpuB s c = true
theorem sysB_iff {s : Sy} : sysB s = true ↔ SysR s := by
  unfold sysB headSB
  simp only [Bool.and_eq_true, inB_iff, List.all_eq_true, decide_eq_true_eq, beq_iff_eq, List.mem_range]
  constructor
  · rintro ⟨⟨h1, h2, h3, h4, h5, h6, h7, h8, h9⟩, h10, h11⟩
    exact ⟨h1, h2, h3, h4, h5, h6, h7, h8, h9, h10, fun c hc => h11 c (by omega)⟩
  · intro h
    exact ⟨⟨h.now, h.cpus, h.tasks, h.locks, h.ghosts, h.floors, h.seq, h.missed, h.trace⟩, h.on, fun c hc => h.cpu c (by omega)⟩
theorem taskB_cpu {t : Tsk} (h : taskB t = true) : 0 ≤ t.cpu ∧ t.cpu ≤ 3 := by
  unfold taskB at h
  simp only [Bool.and_eq_true, inB_iff] at h
  exact h.1.1.1.2
theorem SysR.onCpus {s : Sy} (h : SysR s) : OnCpus s := by
  intro t ht
  obtain ⟨i, hi⟩ := List.mem_iff_getElem?.1 ht
  have := taskB_cpu (tasksB_task h.tasks hi)
  have := h.on t ht
  have := h.floors
  omega
theorem SysR.few {s : Sy} (h : SysR s) : s.tasks.length ≤ 12 ∧ sizeN s.locks ≤ 1005 ∧ s.ghosts.length ≤ 12 ∧ s.floors.length ≤ 4 := by
  have h1 := tasksB_len h.tasks
  have h2 := h.locks
  unfold sysLocksB at h2
  simp only [Bool.and_eq_true, beq_iff_eq] at h2
  have h3 := (right_iff.1 h2.2.1).few
  have h4 := h.ghosts
  unfold ghostsB at h4
  simp only [Bool.and_eq_true, decide_eq_true_eq] at h4
  have h5 := h.floors
  have h6 := h.cpus
  refine ⟨h1, ?_, h4.2, by omega⟩
  unfold sizeN
  omega
theorem SysR.small {s : Sy} (h : SysR s) : sizeS s ≤ 1500 := by
  obtain ⟨h1, h2, h3, h4⟩ := h.few
  have := h.trace
  unfold sizeS
  omega
end Go.Proofs.Ytfbjnhifjingeaa
namespace Go.Proofs.Ytfbjnhifjingeaa
open Go.RowKit

/-- The cells of a system of which nothing is there. -/
abbrev zc : Array Value := #[.int .i64 0, .int .i64 0, .slice none 0 0, .slice none 0 0, .slice none 0 0, .slice none 0 0, .int .i64 0, .int .i64 0, .slice none 0 0]
/-- A system of one's own has become another one: nothing else has turned, and its rows lie where they lay or in new blocks. -/
structure Goes (w : World) (lo : Nat) (v : Sv) (vs : List Lv) (w' : World) (v' : Sv) (vs' : List Lv) (s' : Sy) : Prop where
  own : OwnS w' lo v' vs' s'
  turn : TurnsB (fun b => ∃ i, ofKind v vs i b) w w'
  old : ∀ i b, ofKind v' vs' i b → (∃ j, ofKind v vs j b) ∨ w.heap.size ≤ b
theorem Goes.refl {w : World} {lo : Nat} {v : Sv} {vs : List Lv} {s : Sy} (h : OwnS w lo v vs s) : Goes w lo v vs w v vs s := ⟨h, TurnsB.refl _ _, fun i _ hb => .inl ⟨i, hb⟩⟩
theorem Goes.trans {w w' w'' : World} {lo : Nat} {v v' v'' : Sv} {vs vs' vs'' : List Lv} {s' s'' : Sy} (h : Goes w lo v vs w' v' vs' s') (k : Goes w' lo v' vs' w'' v'' vs'' s'') : Goes w lo v vs w'' v'' vs'' s'' := by
  refine ⟨k.own, ⟨k.turn.os.trans h.turn.os, k.turn.tape.trans h.turn.tape, k.turn.output.trans h.turn.output, Nat.le_trans h.turn.size k.turn.size, fun b hb hn => ?_⟩, fun i b hb => ?_⟩
  · refine (k.turn.block b (Nat.lt_of_lt_of_le hb h.turn.size) ?_).trans (h.turn.block b hb hn)
    rintro ⟨i, hi⟩
    rcases h.old i b hi with h1 | h1
    · exact hn h1
    · omega
  · rcases k.old i b hb with ⟨j, hj⟩ | h1
    · exact h.old j b hj
    · exact .inr (Nat.le_trans h.turn.size h1)
/-- A system of one's own that is new. -/
theorem Goes.fresh {w w' : World} {lo : Nat} {v v' : Sv} {vs vs' : List Lv} {s' : Sy} (h : OwnS w' w.heap.size v' vs' s') (k : Keeps w w') (hl : lo ≤ w.heap.size) : Goes w lo v vs w' v' vs' s' :=
  ⟨h.base hl, ⟨k.os, k.tape, k.output, k.size, fun b hb _ => Below.block k b hb⟩, fun _ _ hb => .inr (h.blkLt hb).1⟩
theorem Goes.ahead {w0 w w' : World} {lo : Nat} {v v' : Sv} {vs vs' : List Lv} {s' : Sy} (k : Keeps w0 w) (h : Goes w lo v vs w' v' vs' s') : Goes w0 lo v vs w' v' vs' s' := by
  refine ⟨h.own, ⟨h.turn.os.trans k.os, h.turn.tape.trans k.tape, h.turn.output.trans k.output, Nat.le_trans k.size h.turn.size, fun b hb hn => (h.turn.block b (Nat.lt_of_lt_of_le hb k.size) hn).trans (Below.block k b hb)⟩, fun i b hb => ?_⟩
  rcases h.old i b hb with h1 | h1
  · exact .inl h1
  · exact .inr (Nat.le_trans k.size h1)
theorem Goes.behind {w w' w'' : World} {lo : Nat} {v v' : Sv} {vs vs' : List Lv} {s' : Sy} (h : Goes w lo v vs w' v' vs' s') (k : Keeps w' w'') : Goes w lo v vs w'' v' vs' s' :=
  ⟨h.own.keeps k, ⟨k.os.trans h.turn.os, k.tape.trans h.turn.tape, k.output.trans h.turn.output, Nat.le_trans h.turn.size k.size, fun b hb hn => (Below.block k b (Nat.lt_of_lt_of_le hb h.turn.size)).trans (h.turn.block b hb hn)⟩, h.old⟩
theorem Goes.keeps {w0 w w' : World} {lo : Nat} {v v' : Sv} {vs vs' : List Lv} {s s' : Sy} (h : Goes w lo v vs w' v' vs' s') (h0 : OwnS w lo v vs s) (k : Keeps w0 w) (hl : w0.heap.size ≤ lo) : Keeps w0 w' :=
  h.turn.keeps k fun _ ⟨_, hi⟩ => Nat.le_trans hl (h0.blkLt hi).1
/-- A block that is none of it abides. -/
theorem Goes.blk {w w' : World} {lo : Nat} {v v' : Sv} {vs vs' : List Lv} {s' : Sy} (h : Goes w lo v vs w' v' vs' s') {b : Nat} {C : Array Value} (hb : Blk w b C) (hn : ∀ i, ¬ ofKind v vs i b) : Blk w' b C := by
  have e := h.turn.block b hb.lt (fun ⟨i, hi⟩ => hn i hi)
  exact ⟨Nat.lt_of_lt_of_le hb.lt h.turn.size, fun k => (World.cell?_of_block (w := w) e).trans (hb.cells k), fun k => (World.frozen?_of_block (w := w) e).trans (hb.frozens k)⟩
theorem Goes.far {w w' : World} {lo : Nat} {v v' : Sv} {vs vs' : List Lv} {s' : Sy} (h : Goes w lo v vs w' v' vs' s') {b : Nat} (hb : b < w.heap.size) (hn : ∀ i, ¬ ofKind v vs i b) : ∀ i, ¬ ofKind v' vs' i b := by
  intro i hi
  rcases h.old i b hi with ⟨j, hj⟩ | h1
  · exact hn j hj
  · omega

/-- The variable in block ob is the system s, whose rows are one's own. -/
structure VarS (w : World) (lo ob : Nat) (v : Sv) (vs : List Lv) (s : Sy) : Prop where
  box : Blk w ob (syc s v)
  own : OwnS w lo v vs s
  lob : lo ≤ ob
  far : ∀ i, ¬ ofKind v vs i ob
theorem VarS.keeps {w w' : World} {lo ob : Nat} {v : Sv} {vs : List Lv} {s : Sy} (h : VarS w lo ob v vs s) (k : Keeps w w') : VarS w' lo ob v vs s := ⟨h.box.keeps k, h.own.keeps k, h.lob, h.far⟩
/-- A new variable. -/
theorem VarS.new {w : World} {lo : Nat} {v : Sv} {vs : List Lv} {s : Sy} (h : OwnS w lo v vs s) (hl : lo ≤ w.heap.size) : VarS (w.alloc (.cells (syc s v) 28)) lo w.heap.size v vs s :=
  ⟨Blk.new _ _ _, h.keeps ((Keeps.refl _).alloc _), hl, fun i hi => by have := (h.blkLt hi).2; omega⟩
/-- It is handed on, and what comes back is stored over it. -/
theorem VarS.put {w w' : World} {lo ob : Nat} {v v' : Sv} {vs vs' : List Lv} {s s' : Sy} (h : VarS w lo ob v vs s) (g : Goes w lo v vs w' v' vs' s') : VarS (putC w' ob 0 (syc s' v').toList) lo ob v' vs' s' := by
  have hf := g.far h.box.lt h.far
  exact ⟨(g.blk h.box h.far).putC (syc s' v').toList rfl, OwnS.farC hf _ _ g.own, h.lob, hf⟩
theorem VarS.putKeeps {w0 w w' : World} {lo ob : Nat} {v v' : Sv} {vs vs' : List Lv} {s s' : Sy} (h : VarS w lo ob v vs s) (g : Goes w lo v vs w' v' vs' s') (k : Keeps w0 w) (hl : w0.heap.size ≤ lo) : Keeps w0 (putC w' ob 0 (syc s' v').toList) :=
  Keeps.putC (b := ob) (Nat.le_trans hl h.lob) _ 0 (g.keeps h.own k hl)
/-- A task of it is stored over. -/
theorem VarS.task {w : World} {lo ob : Nat} {v : Sv} {vs : List Lv} {s : Sy} (h : VarS w lo ob v vs s) {rb : Nat} (ha : v.t.a = some ⟨rb, 0, none⟩) {k : Nat} (hk : k < s.tasks.length) (x : Tsk) : VarS (putC w rb (k * 14) (tc x).toList) lo ob v vs { s with tasks := s.tasks.set k x } := by
  have ho : ofKind v vs 0 rb := by show v.t.val.ownBlock = some rb; rw [Rw.val, ha]; rfl
  have hne : rb ≠ ob := fun e => h.far 0 (by rw [← e]; exact ho)
  exact ⟨Blk.farC hne _ _ h.box, (h.own.storeT ha hk x).1, h.lob, h.far⟩
theorem VarS.taskKeeps {w0 w : World} {lo ob : Nat} {v : Sv} {vs : List Lv} {s : Sy} (h : VarS w lo ob v vs s) {rb : Nat} (ha : v.t.a = some ⟨rb, 0, none⟩) (k : Nat) (L : List Value) (k0 : Keeps w0 w) (hl : w0.heap.size ≤ lo) : Keeps w0 (putC w rb k L) := by
  have ho : ofKind v vs 0 rb := by show v.t.val.ownBlock = some rb; rw [Rw.val, ha]; rfl
  exact Keeps.putC (b := rb) (Nat.le_trans hl (h.own.blkLt ho).1) L k k0
/-- What else is stored elsewhere. -/
theorem VarS.elsewhere {w : World} {lo ob : Nat} {v : Sv} {vs : List Lv} {s : Sy} (h : VarS w lo ob v vs s) {c : Nat} (hc : ∀ i, ¬ ofKind v vs i c) (hne : c ≠ ob) (L : List Value) (k : Nat) : VarS (putC w c k L) lo ob v vs s :=
  ⟨Blk.farC hne L k h.box, OwnS.farC hc L k h.own, h.lob, h.far⟩
/-- The row of tasks has an address where it isn't empty. -/
theorem OwnS.tasksAt {w : World} {lo : Nat} {v : Sv} {vs : List Lv} {s : Sy} (h : OwnS w lo v vs s) {k : Nat} (hk : k < s.tasks.length) : ∃ rb, v.t.a = some ⟨rb, 0, none⟩ := by
  obtain ⟨b, cap, e⟩ := h.t.blk (by omega)
  simp only [Rw.val, Value.slice.injEq] at e
  exact ⟨b, e.1⟩
theorem OwnS.taskCells {w : World} {lo : Nat} {v : Sv} {vs : List Lv} {s : Sy} (h : OwnS w lo v vs s) {rb : Nat} (ha : v.t.a = some ⟨rb, 0, none⟩) {k : Nat} {t : Tsk} (ht : s.tasks[k]? = some t) : (∀ j, j < 14 → w.cell? ⟨rb, k * 14 + j, none⟩ = (tc t)[j]?) ∧ ∀ j, w.frozen? ⟨rb, j, none⟩ = false := by
  have hn := (h.t.row tc_size).1
  have hv : v.t.val = .slice (some ⟨rb, 0, none⟩) s.tasks.length v.t.cap := by rw [Rw.val, ha, hn]
  have O := h.t
  rw [hv] at O
  exact ⟨fun j hj => O.cellAt tc_size ht hj, fun j => O.frozenAt j⟩
end Go.Proofs.Ytfbjnhifjingeaa
