/-
  The system: the laws' own copy of it.
  The system: two that are alike.
  The system: its rows are marked, and looked at again.
  The system is marked, and looked at again.
  A system of one's own: a task is stored over another one; and what else turns leaves it as it is.
-/
import Derived.Test.YthpdlbcdbncnhaaGreatDoorGSys2
import Derived.Test.YthpdlbcdbncnhaaGreatDoorGLock3
import Derived.Test.YthpdlbcdbncnhaaGreatDoorGTask3
namespace Go.Proofs.YthpdlbcdbncnhaaGreatDoor
open Go.RowKit
attribute [local go_sem] Keeps.refl Keeps.alloc Keeps.drew Keeps.drewN

/-- Behind a call a value is stored over the cell k of the block b. -/
theorem stored {X w' : World} {b k : Nat} {C : Array Value} (h : Keeps X w') (B : Blk X b C) (hk : k < C.size) (u : Value) : Blk w' b C ∧ KeepsBut b X (w'.setCell ⟨b, k, none⟩ u) ∧ Blk (w'.setCell ⟨b, k, none⟩ u) b (C.setIfInBounds k u) :=
  ⟨B.keeps h, (KeepsBut.of h).setCell k u, (B.keeps h).set k hk u⟩
set_option maxRecDepth 100000 in
theorem toLockS_n {p : Bool} (a : Option Addr) (n cap : Nat) (ls : List Lk) (w : World) (hn : ls.length = n) (hl : sizeN ls ≤ 1048576) (hs : Lks p w a ls) :
    Calls Tryz.prog 38 #[.slice a n cap] w fun e w' => ∃ b vs, e = .returned (.slice (some ⟨b, 0, none⟩) n n) ∧ Mine w' w.heap.size w'.heap.size (.slice (some ⟨b, 0, none⟩) n n) vs ls ∧ Keeps w w' := by
  subst hn
  exact toLockS_any a cap ls w hl hs
set_option maxRecDepth 100000 in
theorem toGhostS_n (a : Option Addr) (n cap : Nat) (xs : List Gh) (w : World) (hn : xs.length = n) (hl : xs.length ≤ 1048576) (hs : Gs w a xs) :
    Calls Tryz.prog 39 #[.slice a n cap] w fun e w' => ∃ b, e = .returned (.slice (some ⟨b, 0, none⟩) n n) ∧ Own 107 4 ghc w' w.heap.size (.slice (some ⟨b, 0, none⟩) n n) xs ∧ Keeps w w' := by
  subst hn
  exact toGhostS_any a cap xs w hl hs
set_option maxRecDepth 100000 in
theorem toTurnS_n (a : Option Addr) (n cap : Nat) (xs : List Tn) (w : World) (hn : xs.length = n) (hl : xs.length ≤ 1048576) (hs : Rs w a xs) :
    Calls Tryz.prog 41 #[.slice a n cap] w fun e w' => ∃ b, e = .returned (.slice (some ⟨b, 0, none⟩) n n) ∧ Own 85 3 tnc w' w.heap.size (.slice (some ⟨b, 0, none⟩) n n) xs ∧ Keeps w w' := by
  subst hn
  exact toTurnS_any a cap xs w hl hs
set_option maxRecDepth 100000 in
theorem toIntS_n (a : Option Addr) (n cap : Nat) (xs : List Int) (w : World) (hn : xs.length = n) (hl : xs.length ≤ 1048576) (hs : Ns w a xs) :
    Calls Tryz.prog 40 #[.slice a n cap] w fun e w' => ∃ b, e = .returned (.slice (some ⟨b, 0, none⟩) n n) ∧ OwnN w' w.heap.size (.slice (some ⟨b, 0, none⟩) n n) xs ∧ Keeps w w' := by
  subst hn
  refine (toIntS_any a cap xs w hl hs).mono ?_
  rintro e w' ⟨rfl, O, k⟩
  exact ⟨_, rfl, O, k⟩
set_option maxRecDepth 100000 in
set_option maxHeartbeats 8000000 in
theorem toSys_any {p : Bool} {w : World} {v : Sv} {s : Sy} (h : SysLay p w v s) (hz : sizeS s ≤ 1048576) :
    Calls Tryz.prog 9 #[.agg (syc s v)] w fun e w' => ∃ v' vs, e = .returned (.agg (syc s v')) ∧ OwnS w' w.heap.size v' vs s ∧ Keeps w w' := by
  have q0 : Hid (sizeN s.locks ≤ 1048576) := by show _ ≤ _; unfold sizeS at hz; omega
  have q1 : Hid (s.tasks.length ≤ 1048576) := by show _ ≤ _; unfold sizeS at hz; omega
  have q2 : Hid (s.ghosts.length ≤ 1048576) := by show _ ≤ _; unfold sizeS at hz; omega
  have q3 : Hid (s.floors.length ≤ 1048576) := by show _ ≤ _; unfold sizeS at hz; omega
  have q4 : Hid (s.trace.length ≤ 1048576) := by show _ ≤ _; unfold sizeS at hz; omega
  clear hz
  have kW : Keeps w (((w.alloc (.cells (syc s v) 28)).alloc (.cells (syc Sy.zero Sv.zero) 37)).alloc (.cells #[.int .i64 s.now, .int .i64 s.cpus, .slice none 0 0, .slice none 0 0, .slice none 0 0, .slice none 0 0, .int .i64 0, .int .i64 0, .slice none 0 0] 37)) := (((Keeps.refl w).alloc _).alloc _).alloc _
  have I0 : Blk (((w.alloc (.cells (syc s v) 28)).alloc (.cells (syc Sy.zero Sv.zero) 37)).alloc (.cells #[.int .i64 s.now, .int .i64 s.cpus, .slice none 0 0, .slice none 0 0, .slice none 0 0, .slice none 0 0, .int .i64 0, .int .i64 0, .slice none 0 0] 37)) w.heap.size (syc s v) := ((Blk.new _ _ _).alloc _).alloc _
  have R0 : Hid (Blk (((w.alloc (.cells (syc s v) 28)).alloc (.cells (syc Sy.zero Sv.zero) 37)).alloc (.cells #[.int .i64 s.now, .int .i64 s.cpus, .slice none 0 0, .slice none 0 0, .slice none 0 0, .slice none 0 0, .int .i64 0, .int .i64 0, .slice none 0 0] 37)) (w.heap.size + 1) (syc Sy.zero Sv.zero)) := by
    show Blk _ _ _
    have := (Blk.new (w.alloc (.cells (syc s v) 28)) (syc Sy.zero Sv.zero) 37).alloc (.cells #[.int .i64 s.now, .int .i64 s.cpus, .slice none 0 0, .slice none 0 0, .slice none 0 0, .slice none 0 0, .int .i64 0, .int .i64 0, .slice none 0 0] 37)
    simpa using this
  have U0 : Hid (Blk (((w.alloc (.cells (syc s v) 28)).alloc (.cells (syc Sy.zero Sv.zero) 37)).alloc (.cells #[.int .i64 s.now, .int .i64 s.cpus, .slice none 0 0, .slice none 0 0, .slice none 0 0, .slice none 0 0, .int .i64 0, .int .i64 0, .slice none 0 0] 37)) (w.heap.size + 2) #[.int .i64 s.now, .int .i64 s.cpus, .slice none 0 0, .slice none 0 0, .slice none 0 0, .slice none 0 0, .int .i64 0, .int .i64 0, .slice none 0 0]) := by
    show Blk _ _ _
    have := Blk.new ((w.alloc (.cells (syc s v) 28)).alloc (.cells (syc Sy.zero Sv.zero) 37)) #[.int .i64 s.now, .int .i64 s.cpus, .slice none 0 0, .slice none 0 0, .slice none 0 0, .slice none 0 0, .int .i64 0, .int .i64 0, .slice none 0 0] 37
    simpa using this
  have hsz : Hid ((((w.alloc (.cells (syc s v) 28)).alloc (.cells (syc Sy.zero Sv.zero) 37)).alloc (.cells #[.int .i64 s.now, .int .i64 s.cpus, .slice none 0 0, .slice none 0 0, .slice none 0 0, .slice none 0 0, .int .i64 0, .int .i64 0, .slice none 0 0] 37)).heap.size = w.heap.size + 3) := by show _ = _; simp
  go_enter Tryz.func9, Tryz.ntmps9
  go_wp2_with fail
  change Calls _ _ _ (((w.alloc (.cells (syc s v) 28)).alloc (.cells (syc Sy.zero Sv.zero) 37)).alloc (.cells #[.int .i64 s.now, .int .i64 s.cpus, .slice none 0 0, .slice none 0 0, .slice none 0 0, .slice none 0 0, .int .i64 0, .int .i64 0, .slice none 0 0] 37)) _
  generalize (((w.alloc (.cells (syc s v) 28)).alloc (.cells (syc Sy.zero Sv.zero) 37)).alloc (.cells #[.int .i64 s.now, .int .i64 s.cpus, .slice none 0 0, .slice none 0 0, .slice none 0 0, .slice none 0 0, .int .i64 0, .int .i64 0, .slice none 0 0] 37)) = Y0 at *
  refine (toTaskS_own v.t.a v.t.n v.t.cap s.tasks Y0 h.tl q1.out (h.keeps kW).t).mono ?_
  rintro e w1 ⟨b1, rfl, P1, k1⟩
  have XU1 := U0.out.keeps k1
  have XI1 := I0.keeps k1
  have XR1 := R0.out.keeps k1
  obtain ⟨Y1, HY1⟩ : ∃ Y, Y = w1.setCell ⟨w.heap.size + 2, 2, none⟩ (.slice (some ⟨b1, 0, none⟩) v.t.n v.t.n) := ⟨_, rfl⟩
  have KB1 : KeepsBut (w.heap.size + 2) Y0 Y1 := by rw [HY1]; exact ((KeepsBut.of k1).setCell 2 (.slice (some ⟨b1, 0, none⟩) v.t.n v.t.n))
  have LB1 : KeepsBut (w.heap.size + 2) w1 Y1 := by rw [HY1]; exact ((KeepsBut.refl (w.heap.size + 2) w1).setCell 2 (.slice (some ⟨b1, 0, none⟩) v.t.n v.t.n))
  have U1 : Hid (Blk Y1 (w.heap.size + 2) #[.int .i64 s.now, .int .i64 s.cpus, .slice (some ⟨b1, 0, none⟩) v.t.n v.t.n, .slice none 0 0, .slice none 0 0, .slice none 0 0, .int .i64 0, .int .i64 0, .slice none 0 0]) := by show Blk _ _ _; rw [HY1]; exact (XU1.set 2 (by simp) (.slice (some ⟨b1, 0, none⟩) v.t.n v.t.n))
  have e1 : Hid (Y0.heap.size ≤ w1.heap.size) := k1.size
  have s1 : Hid (Y1.heap.size = w1.heap.size) := by show _ = _; rw [HY1]; simp
  have I1 : Blk Y1 w.heap.size (syc s v) := I0.aside KB1 (by omega)
  have R1 : Hid (Blk Y1 (w.heap.size + 1) (syc Sy.zero Sv.zero)) := R0.out.aside KB1 (by omega)
  have kY1 : Keeps w Y1 := KB1.keeps kW (by omega)
  have Ct1 : Hid (Own 47 14 tc Y1 Y0.heap.size (.slice (some ⟨b1, 0, none⟩) v.t.n v.t.n) s.tasks) := P1.butG LB1 (by have := hsz.out; omega)
  have Ft : Hid (∀ q, (Value.slice (some ⟨b1, 0, none⟩) v.t.n v.t.n).ownBlock = some q → Y0.heap.size ≤ q ∧ q < w1.heap.size) := fun q hq => P1.ltb q hq
  obtain ⟨_, xu1, xu2⟩ := XU1
  obtain ⟨_, xi1, xi2⟩ := XI1
  obtain ⟨_, xr1, xr2⟩ := XR1
  clear P1 k1 KB1 LB1 U0 R0 I0
  go_wp2_with fail
  rw [← HY1]
  clear xu1 xu2 xi1 xi2 xr1 xr2 HY1
  refine (toLockS_n v.l.a v.l.n v.l.cap s.locks Y1 h.ll q0.out (h.keeps kY1).l).mono ?_
  rintro e w2 ⟨b2, vs, rfl, P2, k2⟩
  have XU2 := U1.out.keeps k2
  have XI2 := I1.keeps k2
  have XR2 := R1.out.keeps k2
  obtain ⟨Y2, HY2⟩ : ∃ Y, Y = w2.setCell ⟨w.heap.size + 2, 3, none⟩ (.slice (some ⟨b2, 0, none⟩) v.l.n v.l.n) := ⟨_, rfl⟩
  have KB2 : KeepsBut (w.heap.size + 2) Y1 Y2 := by rw [HY2]; exact ((KeepsBut.of k2).setCell 3 (.slice (some ⟨b2, 0, none⟩) v.l.n v.l.n))
  have LB2 : KeepsBut (w.heap.size + 2) w2 Y2 := by rw [HY2]; exact ((KeepsBut.refl (w.heap.size + 2) w2).setCell 3 (.slice (some ⟨b2, 0, none⟩) v.l.n v.l.n))
  have U2 : Hid (Blk Y2 (w.heap.size + 2) #[.int .i64 s.now, .int .i64 s.cpus, .slice (some ⟨b1, 0, none⟩) v.t.n v.t.n, .slice (some ⟨b2, 0, none⟩) v.l.n v.l.n, .slice none 0 0, .slice none 0 0, .int .i64 0, .int .i64 0, .slice none 0 0]) := by show Blk _ _ _; rw [HY2]; exact (XU2.set 3 (by simp) (.slice (some ⟨b2, 0, none⟩) v.l.n v.l.n))
  have e2 : Hid (Y1.heap.size ≤ w2.heap.size) := k2.size
  have s2 : Hid (Y2.heap.size = w2.heap.size) := by show _ = _; rw [HY2]; simp
  have I2 : Blk Y2 w.heap.size (syc s v) := I1.aside KB2 (by omega)
  have R2 : Hid (Blk Y2 (w.heap.size + 1) (syc Sy.zero Sv.zero)) := R1.out.aside KB2 (by omega)
  have kY2 : Keeps w Y2 := KB2.keeps kY1 (by omega)
  have Ct2 : Hid (Own 47 14 tc Y2 Y0.heap.size (.slice (some ⟨b1, 0, none⟩) v.t.n v.t.n) s.tasks) := Ct1.out.butG KB2 (by have := hsz.out; have := e1.out; have := s1.out; omega)
  have Cl2 : Hid (Mine Y2 Y1.heap.size w2.heap.size (.slice (some ⟨b2, 0, none⟩) v.l.n v.l.n) vs s.locks) := by
    show Mine _ _ _ _ _ _
    refine P2.same fun q hq hq1 hq2 => LB2.block q hq2 (by have := hsz.out; have := e1.out; have := s1.out; omega)
  obtain ⟨_, xu1, xu2⟩ := XU2
  obtain ⟨_, xi1, xi2⟩ := XI2
  obtain ⟨_, xr1, xr2⟩ := XR2
  clear P2 k2 KB2 LB2 U1 R1 I1
  go_wp2_with fail
  rw [← HY2]
  clear xu1 xu2 xi1 xi2 xr1 xr2 HY2
  refine (toGhostS_n v.g.a v.g.n v.g.cap s.ghosts Y2 h.gl q2.out (h.keeps kY2).g).mono ?_
  rintro e w3 ⟨b3, rfl, P3, k3⟩
  have XU3 := U2.out.keeps k3
  have XI3 := I2.keeps k3
  have XR3 := R2.out.keeps k3
  obtain ⟨Y3, HY3⟩ : ∃ Y, Y = w3.setCell ⟨w.heap.size + 2, 4, none⟩ (.slice (some ⟨b3, 0, none⟩) v.g.n v.g.n) := ⟨_, rfl⟩
  have KB3 : KeepsBut (w.heap.size + 2) Y2 Y3 := by rw [HY3]; exact ((KeepsBut.of k3).setCell 4 (.slice (some ⟨b3, 0, none⟩) v.g.n v.g.n))
  have LB3 : KeepsBut (w.heap.size + 2) w3 Y3 := by rw [HY3]; exact ((KeepsBut.refl (w.heap.size + 2) w3).setCell 4 (.slice (some ⟨b3, 0, none⟩) v.g.n v.g.n))
  have U3 : Hid (Blk Y3 (w.heap.size + 2) #[.int .i64 s.now, .int .i64 s.cpus, .slice (some ⟨b1, 0, none⟩) v.t.n v.t.n, .slice (some ⟨b2, 0, none⟩) v.l.n v.l.n, .slice (some ⟨b3, 0, none⟩) v.g.n v.g.n, .slice none 0 0, .int .i64 0, .int .i64 0, .slice none 0 0]) := by show Blk _ _ _; rw [HY3]; exact (XU3.set 4 (by simp) (.slice (some ⟨b3, 0, none⟩) v.g.n v.g.n))
  have e3 : Hid (Y2.heap.size ≤ w3.heap.size) := k3.size
  have s3 : Hid (Y3.heap.size = w3.heap.size) := by show _ = _; rw [HY3]; simp
  have I3 : Blk Y3 w.heap.size (syc s v) := I2.aside KB3 (by omega)
  have R3 : Hid (Blk Y3 (w.heap.size + 1) (syc Sy.zero Sv.zero)) := R2.out.aside KB3 (by omega)
  have kY3 : Keeps w Y3 := KB3.keeps kY2 (by omega)
  have Ct3 : Hid (Own 47 14 tc Y3 Y0.heap.size (.slice (some ⟨b1, 0, none⟩) v.t.n v.t.n) s.tasks) := Ct2.out.butG KB3 (by have := hsz.out; have := e1.out; have := s1.out; have := e2.out; have := s2.out; omega)
  have Cl3 : Hid (Mine Y3 Y1.heap.size w2.heap.size (.slice (some ⟨b2, 0, none⟩) v.l.n v.l.n) vs s.locks) := by
    show Mine _ _ _ _ _ _
    refine Cl2.out.same fun q hq hq1 hq2 => KB3.block q hq2 (by have := hsz.out; have := e1.out; have := s1.out; have := e2.out; have := s2.out; omega)
  have Cg3 : Hid (Own 107 4 ghc Y3 Y2.heap.size (.slice (some ⟨b3, 0, none⟩) v.g.n v.g.n) s.ghosts) := P3.butG LB3 (by have := hsz.out; have := e1.out; have := s1.out; have := e2.out; have := s2.out; omega)
  have Fg : Hid (∀ q, (Value.slice (some ⟨b3, 0, none⟩) v.g.n v.g.n).ownBlock = some q → Y2.heap.size ≤ q ∧ q < w3.heap.size) := fun q hq => P3.ltb q hq
  obtain ⟨_, xu1, xu2⟩ := XU3
  obtain ⟨_, xi1, xi2⟩ := XI3
  obtain ⟨_, xr1, xr2⟩ := XR3
  clear P3 k3 KB3 LB3 U2 R2 I2
  go_wp2_with fail
  rw [← HY3]
  clear xu1 xu2 xi1 xi2 xr1 xr2 HY3
  refine (toIntS_n v.f.a v.f.n v.f.cap s.floors Y3 h.fl q3.out (h.keeps kY3).f).mono ?_
  rintro e w4 ⟨b4, rfl, P4, k4⟩
  have XU4 := U3.out.keeps k4
  have XI4 := I3.keeps k4
  have XR4 := R3.out.keeps k4
  obtain ⟨Y4, HY4⟩ : ∃ Y, Y = ((w4.setCell ⟨w.heap.size + 2, 5, none⟩ (.slice (some ⟨b4, 0, none⟩) v.f.n v.f.n)).setCell ⟨w.heap.size + 2, 6, none⟩ (.int .i64 s.seq)).setCell ⟨w.heap.size + 2, 7, none⟩ (.int .i64 s.missed) := ⟨_, rfl⟩
  have KB4 : KeepsBut (w.heap.size + 2) Y3 Y4 := by rw [HY4]; exact ((((KeepsBut.of k4).setCell 5 (.slice (some ⟨b4, 0, none⟩) v.f.n v.f.n)).setCell 6 (.int .i64 s.seq)).setCell 7 (.int .i64 s.missed))
  have LB4 : KeepsBut (w.heap.size + 2) w4 Y4 := by rw [HY4]; exact ((((KeepsBut.refl (w.heap.size + 2) w4).setCell 5 (.slice (some ⟨b4, 0, none⟩) v.f.n v.f.n)).setCell 6 (.int .i64 s.seq)).setCell 7 (.int .i64 s.missed))
  have U4 : Hid (Blk Y4 (w.heap.size + 2) #[.int .i64 s.now, .int .i64 s.cpus, .slice (some ⟨b1, 0, none⟩) v.t.n v.t.n, .slice (some ⟨b2, 0, none⟩) v.l.n v.l.n, .slice (some ⟨b3, 0, none⟩) v.g.n v.g.n, .slice (some ⟨b4, 0, none⟩) v.f.n v.f.n, .int .i64 s.seq, .int .i64 s.missed, .slice none 0 0]) := by show Blk _ _ _; rw [HY4]; exact (((XU4.set 5 (by simp) (.slice (some ⟨b4, 0, none⟩) v.f.n v.f.n)).set 6 (by simp) (.int .i64 s.seq)).set 7 (by simp) (.int .i64 s.missed))
  have e4 : Hid (Y3.heap.size ≤ w4.heap.size) := k4.size
  have s4 : Hid (Y4.heap.size = w4.heap.size) := by show _ = _; rw [HY4]; simp
  have I4 : Blk Y4 w.heap.size (syc s v) := I3.aside KB4 (by omega)
  have R4 : Hid (Blk Y4 (w.heap.size + 1) (syc Sy.zero Sv.zero)) := R3.out.aside KB4 (by omega)
  have kY4 : Keeps w Y4 := KB4.keeps kY3 (by omega)
  have Ct4 : Hid (Own 47 14 tc Y4 Y0.heap.size (.slice (some ⟨b1, 0, none⟩) v.t.n v.t.n) s.tasks) := Ct3.out.butG KB4 (by have := hsz.out; have := e1.out; have := s1.out; have := e2.out; have := s2.out; have := e3.out; have := s3.out; omega)
  have Cl4 : Hid (Mine Y4 Y1.heap.size w2.heap.size (.slice (some ⟨b2, 0, none⟩) v.l.n v.l.n) vs s.locks) := by
    show Mine _ _ _ _ _ _
    refine Cl3.out.same fun q hq hq1 hq2 => KB4.block q hq2 (by have := hsz.out; have := e1.out; have := s1.out; have := e2.out; have := s2.out; have := e3.out; have := s3.out; omega)
  have Cg4 : Hid (Own 107 4 ghc Y4 Y2.heap.size (.slice (some ⟨b3, 0, none⟩) v.g.n v.g.n) s.ghosts) := Cg3.out.butG KB4 (by have := hsz.out; have := e1.out; have := s1.out; have := e2.out; have := s2.out; have := e3.out; have := s3.out; omega)
  have Cf4 : Hid (OwnN Y4 Y3.heap.size (.slice (some ⟨b4, 0, none⟩) v.f.n v.f.n) s.floors) := P4.butG LB4 (by have := hsz.out; have := e1.out; have := s1.out; have := e2.out; have := s2.out; have := e3.out; have := s3.out; omega)
  have Ff : Hid (∀ q, (Value.slice (some ⟨b4, 0, none⟩) v.f.n v.f.n).ownBlock = some q → Y3.heap.size ≤ q ∧ q < w4.heap.size) := fun q hq => P4.ltb q hq
  obtain ⟨_, xu1, xu2⟩ := XU4
  obtain ⟨_, xi1, xi2⟩ := XI4
  obtain ⟨_, xr1, xr2⟩ := XR4
  clear P4 k4 KB4 LB4 U3 R3 I3
  go_wp2_with fail
  rw [← HY4]
  clear xu1 xu2 xi1 xi2 xr1 xr2 HY4
  refine (toTurnS_n v.r.a v.r.n v.r.cap s.trace Y4 h.rl q4.out (h.keeps kY4).r).mono ?_
  rintro e w5 ⟨b5, rfl, P5, k5⟩
  have XU5 := U4.out.keeps k5
  have XI5 := I4.keeps k5
  have XR5 := R4.out.keeps k5
  obtain ⟨Y5, HY5⟩ : ∃ Y, Y = w5.setCell ⟨w.heap.size + 2, 8, none⟩ (.slice (some ⟨b5, 0, none⟩) v.r.n v.r.n) := ⟨_, rfl⟩
  have KB5 : KeepsBut (w.heap.size + 2) Y4 Y5 := by rw [HY5]; exact ((KeepsBut.of k5).setCell 8 (.slice (some ⟨b5, 0, none⟩) v.r.n v.r.n))
  have LB5 : KeepsBut (w.heap.size + 2) w5 Y5 := by rw [HY5]; exact ((KeepsBut.refl (w.heap.size + 2) w5).setCell 8 (.slice (some ⟨b5, 0, none⟩) v.r.n v.r.n))
  have U5 : Hid (Blk Y5 (w.heap.size + 2) #[.int .i64 s.now, .int .i64 s.cpus, .slice (some ⟨b1, 0, none⟩) v.t.n v.t.n, .slice (some ⟨b2, 0, none⟩) v.l.n v.l.n, .slice (some ⟨b3, 0, none⟩) v.g.n v.g.n, .slice (some ⟨b4, 0, none⟩) v.f.n v.f.n, .int .i64 s.seq, .int .i64 s.missed, .slice (some ⟨b5, 0, none⟩) v.r.n v.r.n]) := by show Blk _ _ _; rw [HY5]; exact (XU5.set 8 (by simp) (.slice (some ⟨b5, 0, none⟩) v.r.n v.r.n))
  have e5 : Hid (Y4.heap.size ≤ w5.heap.size) := k5.size
  have s5 : Hid (Y5.heap.size = w5.heap.size) := by show _ = _; rw [HY5]; simp
  have I5 : Blk Y5 w.heap.size (syc s v) := I4.aside KB5 (by omega)
  have R5 : Hid (Blk Y5 (w.heap.size + 1) (syc Sy.zero Sv.zero)) := R4.out.aside KB5 (by omega)
  have kY5 : Keeps w Y5 := KB5.keeps kY4 (by omega)
  have Ct5 : Hid (Own 47 14 tc Y5 Y0.heap.size (.slice (some ⟨b1, 0, none⟩) v.t.n v.t.n) s.tasks) := Ct4.out.butG KB5 (by have := hsz.out; have := e1.out; have := s1.out; have := e2.out; have := s2.out; have := e3.out; have := s3.out; have := e4.out; have := s4.out; omega)
  have Cl5 : Hid (Mine Y5 Y1.heap.size w2.heap.size (.slice (some ⟨b2, 0, none⟩) v.l.n v.l.n) vs s.locks) := by
    show Mine _ _ _ _ _ _
    refine Cl4.out.same fun q hq hq1 hq2 => KB5.block q hq2 (by have := hsz.out; have := e1.out; have := s1.out; have := e2.out; have := s2.out; have := e3.out; have := s3.out; have := e4.out; have := s4.out; omega)
  have Cg5 : Hid (Own 107 4 ghc Y5 Y2.heap.size (.slice (some ⟨b3, 0, none⟩) v.g.n v.g.n) s.ghosts) := Cg4.out.butG KB5 (by have := hsz.out; have := e1.out; have := s1.out; have := e2.out; have := s2.out; have := e3.out; have := s3.out; have := e4.out; have := s4.out; omega)
  have Cf5 : Hid (OwnN Y5 Y3.heap.size (.slice (some ⟨b4, 0, none⟩) v.f.n v.f.n) s.floors) := Cf4.out.butG KB5 (by have := hsz.out; have := e1.out; have := s1.out; have := e2.out; have := s2.out; have := e3.out; have := s3.out; have := e4.out; have := s4.out; omega)
  have Cr5 : Hid (Own 85 3 tnc Y5 Y4.heap.size (.slice (some ⟨b5, 0, none⟩) v.r.n v.r.n) s.trace) := P5.butG LB5 (by have := hsz.out; have := e1.out; have := s1.out; have := e2.out; have := s2.out; have := e3.out; have := s3.out; have := e4.out; have := s4.out; omega)
  have Fr : Hid (∀ q, (Value.slice (some ⟨b5, 0, none⟩) v.r.n v.r.n).ownBlock = some q → Y4.heap.size ≤ q ∧ q < w5.heap.size) := fun q hq => P5.ltb q hq
  obtain ⟨_, xu1, xu2⟩ := XU5
  obtain ⟨_, xi1, xi2⟩ := XI5
  obtain ⟨_, xr1, xr2⟩ := XR5
  clear P5 k5 KB5 LB5 U4 R4 I4
  have RZ := R5.out
  rw [HY5] at RZ
  obtain ⟨_, y1, y2⟩ := RZ
  go_wp2
  have D := R5.out.putC (syc s ⟨⟨some ⟨b1, 0, none⟩, v.t.n, v.t.n⟩, ⟨some ⟨b2, 0, none⟩, v.l.n, v.l.n⟩, ⟨some ⟨b3, 0, none⟩, v.g.n, v.g.n⟩, ⟨some ⟨b4, 0, none⟩, v.f.n, v.f.n⟩, ⟨some ⟨b5, 0, none⟩, v.r.n, v.r.n⟩⟩).toList rfl
  have KZ := Keeps.putC (b := w.heap.size + 1) (by omega) (syc s ⟨⟨some ⟨b1, 0, none⟩, v.t.n, v.t.n⟩, ⟨some ⟨b2, 0, none⟩, v.l.n, v.l.n⟩, ⟨some ⟨b3, 0, none⟩, v.g.n, v.g.n⟩, ⟨some ⟨b4, 0, none⟩, v.f.n, v.f.n⟩, ⟨some ⟨b5, 0, none⟩, v.r.n, v.r.n⟩⟩).toList 0 kY5
  have KBZ : KeepsBut (w.heap.size + 1) Y5 (putC Y5 (w.heap.size + 1) 0 (syc s ⟨⟨some ⟨b1, 0, none⟩, v.t.n, v.t.n⟩, ⟨some ⟨b2, 0, none⟩, v.l.n, v.l.n⟩, ⟨some ⟨b3, 0, none⟩, v.g.n, v.g.n⟩, ⟨some ⟨b4, 0, none⟩, v.f.n, v.f.n⟩, ⟨some ⟨b5, 0, none⟩, v.r.n, v.r.n⟩⟩).toList) := KeepsBut.putOwn _ _ _ (KeepsBut.refl _ _)
  change bodyPost _ _ _ _ _ (putC (w5.setCell ⟨w.heap.size + 2, 8, none⟩ (.slice (some ⟨b5, 0, none⟩) v.r.n v.r.n)) (w.heap.size + 1) 0 (syc s ⟨⟨some ⟨b1, 0, none⟩, v.t.n, v.t.n⟩, ⟨some ⟨b2, 0, none⟩, v.l.n, v.l.n⟩, ⟨some ⟨b3, 0, none⟩, v.g.n, v.g.n⟩, ⟨some ⟨b4, 0, none⟩, v.f.n, v.f.n⟩, ⟨some ⟨b5, 0, none⟩, v.r.n, v.r.n⟩⟩).toList)
  rw [← HY5]
  have z0 := hsz.out
  have z1 := e1.out
  have z2 := e2.out
  have z3 := e3.out
  have z4 := e4.out
  have z5 := e5.out
  have u1 := s1.out
  have u2 := s2.out
  have u3 := s3.out
  have u4 := s4.out
  have u5 := s5.out
  have z6 := KBZ.size
  have S0 : OwnS (putC Y5 (w.heap.size + 1) 0 (syc s ⟨⟨some ⟨b1, 0, none⟩, v.t.n, v.t.n⟩, ⟨some ⟨b2, 0, none⟩, v.l.n, v.l.n⟩, ⟨some ⟨b3, 0, none⟩, v.g.n, v.g.n⟩, ⟨some ⟨b4, 0, none⟩, v.f.n, v.f.n⟩, ⟨some ⟨b5, 0, none⟩, v.r.n, v.r.n⟩⟩).toList) w.heap.size ⟨⟨some ⟨b1, 0, none⟩, v.t.n, v.t.n⟩, ⟨some ⟨b2, 0, none⟩, v.l.n, v.l.n⟩, ⟨some ⟨b3, 0, none⟩, v.g.n, v.g.n⟩, ⟨some ⟨b4, 0, none⟩, v.f.n, v.f.n⟩, ⟨some ⟨b5, 0, none⟩, v.r.n, v.r.n⟩⟩ vs s := by
    refine ⟨(Ct5.out.butG KBZ (by omega)).base (by omega), (Cl5.out.same fun q hq _ hq2 => KBZ.block q hq2 (by omega)).widen (by omega) (by omega), (Cg5.out.butG KBZ (by omega)).base (by omega), (Cf5.out.butG KBZ (by omega)).base (by omega), (Cr5.out.butG KBZ (by omega)).base (by omega), ?_⟩
    refine apart_of Y0.heap.size Y1.heap.size Y2.heap.size Y3.heap.size Y4.heap.size Y5.heap.size (fun q hq => ?_) ?_ (fun q hq => ?_) (fun q hq => ?_) (fun q hq => ?_) (by omega) (by omega) (by omega)
    · have := Ft.out q hq; omega
    · rintro q (hq | ⟨x, hx, hq⟩)
      · have h1 := (Cl5.out.own.ltb q hq).1
        have h2 := Cl5.out.out q hq
        omega
      · obtain ⟨j, hj⟩ := List.mem_iff_getElem?.1 hx
        have h1 := (Cl5.out.blkLt (.inr ⟨x, hx, hq⟩)).1
        have h2 := (Cl5.out.inn j x q hj hq).1
        omega
    · have := Fg.out q hq; omega
    · have := Ff.out q hq; omega
    · have := Fr.out q hq; omega
  generalize putC Y5 (w.heap.size + 1) 0 (syc s ⟨⟨some ⟨b1, 0, none⟩, v.t.n, v.t.n⟩, ⟨some ⟨b2, 0, none⟩, v.l.n, v.l.n⟩, ⟨some ⟨b3, 0, none⟩, v.g.n, v.g.n⟩, ⟨some ⟨b4, 0, none⟩, v.f.n, v.f.n⟩, ⟨some ⟨b5, 0, none⟩, v.r.n, v.r.n⟩⟩).toList = Z at D KZ S0 ⊢
  exact bodyPost_ret (v := .agg (syc s ⟨⟨some ⟨b1, 0, none⟩, v.t.n, v.t.n⟩, ⟨some ⟨b2, 0, none⟩, v.l.n, v.l.n⟩, ⟨some ⟨b3, 0, none⟩, v.g.n, v.g.n⟩, ⟨some ⟨b4, 0, none⟩, v.f.n, v.f.n⟩, ⟨some ⟨b5, 0, none⟩, v.r.n, v.r.n⟩⟩)) (by simp [results, Tryz.results9, go_sem, D.cells]) rfl ⟨⟨⟨some ⟨b1, 0, none⟩, v.t.n, v.t.n⟩, ⟨some ⟨b2, 0, none⟩, v.l.n, v.l.n⟩, ⟨some ⟨b3, 0, none⟩, v.g.n, v.g.n⟩, ⟨some ⟨b4, 0, none⟩, v.f.n, v.f.n⟩, ⟨some ⟨b5, 0, none⟩, v.r.n, v.r.n⟩⟩, vs, rfl, S0, KZ⟩
end Go.Proofs.YthpdlbcdbncnhaaGreatDoor
namespace Go.Proofs.YthpdlbcdbncnhaaGreatDoor
open Go.RowKit
attribute [local go_sem] Keeps.refl Keeps.alloc Keeps.drew Keeps.drewN

set_option maxRecDepth 100000 in
set_option maxHeartbeats 4000000 in
theorem eqSys_same {p p' : Bool} {w : World} {v v' : Sv} {s : Sy} (h : SysLay p w v s) (h' : SysLay p' w v' s) :
    Calls Tryz.prog 11 #[.agg (syc s v), .agg (syc s v')] w fun e w' => e = .returned (.bool true) ∧ Keeps w w' := by
  have e0 : ∀ y : Int, (y != y) = false := by simp
  have kW : Keeps w ((w.alloc (.cells (syc s v) 37)).alloc (.cells (syc s v') 37)) := ((Keeps.refl w).alloc _).alloc _
  have r1 : ∀ w', Keeps ((w.alloc (.cells (syc s v) 37)).alloc (.cells (syc s v') 37)) w' → ∀ k, w'.cell? ⟨w.heap.size, k, none⟩ = (syc s v)[k]? := fun w' h => (((Blk.new w (syc s v) 37).alloc _).keeps h).cells
  have r2 : ∀ w', Keeps ((w.alloc (.cells (syc s v) 37)).alloc (.cells (syc s v') 37)) w' → ∀ k, w'.cell? ⟨w.heap.size + 1, k, none⟩ = (syc s v')[k]? := fun w' h => by
    have := (Blk.new (w.alloc (.cells (syc s v) 37)) (syc s v') 37).keeps h
    simp only [World.size_alloc] at this
    exact this.cells
  have HS : Hid (SysLay p ((w.alloc (.cells (syc s v) 37)).alloc (.cells (syc s v') 37)) v s) := h.keeps kW
  have HS' : Hid (SysLay p' ((w.alloc (.cells (syc s v) 37)).alloc (.cells (syc s v') 37)) v' s) := h'.keeps kW
  have Et : Hid (v'.t.n = v.t.n) := h'.tl.symm.trans h.tl
  have El : Hid (v'.l.n = v.l.n) := h'.ll.symm.trans h.ll
  have Eg : Hid (v'.g.n = v.g.n) := h'.gl.symm.trans h.gl
  have Ef : Hid (v'.f.n = v.f.n) := h'.fl.symm.trans h.fl
  have Er : Hid (v'.r.n = v.r.n) := h'.rl.symm.trans h.rl
  clear h h'
  go_enter Tryz.func11, Tryz.ntmps11
  go_wp2_with fail
  generalize ((w.alloc (.cells (syc s v) 37)).alloc (.cells (syc s v') 37)) = W at *
  have Q0 := eqTaskS_same v.t.a v'.t.a v.t.cap v'.t.cap s.tasks W (by rw [HS.out.tl]; exact HS.out.tm) (HS.out.keeps (Keeps.refl W)).t (HS'.out.keeps (Keeps.refl W)).t
  rw [HS.out.tl] at Q0
  rw [Et.out]
  refine Q0.mono ?_
  rintro e w1 ⟨rfl, k1⟩
  have K1 : Keeps W w1 := (Keeps.refl W).trans k1
  clear Q0 k1
  go_wp2_with fail
  have Q1 := eqLockS_same v.l.a v'.l.a v.l.cap v'.l.cap s.locks w1 (by rw [HS.out.ll]; exact HS.out.lm) (HS.out.keeps (K1)).l (HS'.out.keeps (K1)).l
  rw [HS.out.ll] at Q1
  rw [El.out]
  refine Q1.mono ?_
  rintro e w2 ⟨rfl, k2⟩
  have K2 : Keeps W w2 := (K1).trans k2
  clear Q1 k2
  go_wp2_with fail
  have Q2 := eqGhostS_same v.g.a v'.g.a v.g.cap v'.g.cap s.ghosts w2 (by rw [HS.out.gl]; exact HS.out.gm) (HS.out.keeps (K2)).g (HS'.out.keeps (K2)).g
  rw [HS.out.gl] at Q2
  rw [Eg.out]
  refine Q2.mono ?_
  rintro e w3 ⟨rfl, k3⟩
  have K3 : Keeps W w3 := (K2).trans k3
  clear Q2 k3
  go_wp2_with fail
  have Q3 := eqIntS_same v.f.a v'.f.a v.f.cap v'.f.cap s.floors w3 (by rw [HS.out.fl]; exact HS.out.fm) (HS.out.keeps (K3)).f (HS'.out.keeps (K3)).f
  rw [HS.out.fl] at Q3
  rw [Ef.out]
  refine Q3.mono ?_
  rintro e w4 ⟨rfl, k4⟩
  have K4 : Keeps W w4 := (K3).trans k4
  clear Q3 k4
  go_wp2_with fail
  have Q4 := eqTurnS_same v.r.a v'.r.a v.r.cap v'.r.cap s.trace w4 (by rw [HS.out.rl]; exact HS.out.rm) (HS.out.keeps (K4)).r (HS'.out.keeps (K4)).r
  rw [HS.out.rl] at Q4
  rw [Er.out]
  refine Q4.mono ?_
  rintro e w5 ⟨rfl, k5⟩
  have K5 : Keeps W w5 := (K4).trans k5
  clear Q4 k5
  go_wp2
  go_ret
  exact ⟨rfl, kW.trans K5⟩
end Go.Proofs.YthpdlbcdbncnhaaGreatDoor
namespace Go.Proofs.YthpdlbcdbncnhaaGreatDoor
open Go.RowKit
attribute [local go_sem] Keeps.refl Keeps.alloc Keeps.drew Keeps.drewN

theorem grown_putC {w : World} {b : Nat} : ∀ (L : List Value) (x : World) (k : Nat), w.grownBy x (some b) → w.grownBy (putC x b k L) (some b)
  | [], _, _, h => h
  | v :: r, x, k, h => grown_putC r _ (k + 1) ⟨h.os, h.tape, h.output, Nat.le_trans h.size (by simp), fun q hq hne => (heap_setCell (by intro e; subst e; exact hne rfl)).trans (h.block q hq hne)⟩
def mkG (k : Int) : Gh := ⟨k, k + 1, k + 1 + 1, k + 1 + 1 + 1⟩
def marksG (k : Int) (n : Nat) : List Gh := (List.range n).map fun i : Nat => mkG (k + 4 * (i : Int))
theorem marksG_get {k : Int} {n i : Nat} (h : i < n) : (marksG k n)[i]? = some (mkG (k + 4 * (i : Int))) := by simp [marksG, h]
theorem marksG_length (k : Int) (n : Nat) : (marksG k n).length = n := by simp [marksG]
def mkR (k : Int) : Tn := ⟨k, k + 1, k + 1 + 1⟩
def marksR (k : Int) (n : Nat) : List Tn := (List.range n).map fun i : Nat => mkR (k + 3 * (i : Int))
theorem marksR_get {k : Int} {n i : Nat} (h : i < n) : (marksR k n)[i]? = some (mkR (k + 3 * (i : Int))) := by simp [marksR, h]
theorem marksR_length (k : Int) (n : Nat) : (marksR k n).length = n := by simp [marksR]
theorem marks_get {k : Int} {n i : Nat} (h : i < n) : (marks k n)[i]? = some (mkT (k + 14 * (i : Int))) := by simp [marks, h]

/-- Its cells, written out. -/
abbrev mkGC (k : Int) : Array Value := #[.int .i64 (k), .int .i64 (k + 1), .int .i64 (k + 1 + 1), .int .i64 (k + 1 + 1 + 1)]
/-- Its cells, written out. -/
abbrev mkRC (k : Int) : Array Value := #[.int .i64 (k), .int .i64 (k + 1), .int .i64 (k + 1 + 1)]
end Go.Proofs.YthpdlbcdbncnhaaGreatDoor
namespace Go.Proofs.YthpdlbcdbncnhaaGreatDoor
open Go.RowKit
attribute [local go_sem] Keeps.refl Keeps.alloc Keeps.drew Keeps.drewN

/-- Only blocks of this kind have turned. -/
structure TurnsB (P : Nat → Prop) (w w' : World) : Prop where
  os : w'.os = w.os
  tape : w'.tape = w.tape
  output : w'.output = w.output
  size : w.heap.size ≤ w'.heap.size
  block : ∀ b, b < w.heap.size → ¬ P b → w'.heap[b]? = w.heap[b]?
theorem TurnsB.refl (P : Nat → Prop) (w : World) : TurnsB P w w := ⟨rfl, rfl, rfl, Nat.le_refl _, fun _ _ _ => rfl⟩
theorem TurnsB.trans {P : Nat → Prop} {a b c : World} (h : TurnsB P a b) (k : TurnsB P b c) : TurnsB P a c :=
  ⟨k.os.trans h.os, k.tape.trans h.tape, k.output.trans h.output, Nat.le_trans h.size k.size, fun q hq hn => (k.block q (Nat.lt_of_lt_of_le hq h.size) hn).trans (h.block q hq hn)⟩
theorem TurnsB.mono {P Q : Nat → Prop} {a b : World} (h : TurnsB P a b) (k : ∀ q, P q → Q q) : TurnsB Q a b := ⟨h.os, h.tape, h.output, h.size, fun q hq hn => h.block q hq fun hp => hn (k q hp)⟩
theorem TurnsB.grown {a b : World} {row : Option Nat} (h : a.grownBy b row) : TurnsB (fun q => row = some q) a b := ⟨h.os, h.tape, h.output, h.size, fun q hq hn => h.block q hq fun e => hn e.symm⟩
theorem TurnsB.keeps {P : Nat → Prop} {w a b : World} (h : TurnsB P a b) (k : Keeps w a) (hp : ∀ q, P q → w.heap.size ≤ q) : Keeps w b :=
  Below.trans k ⟨h.os, h.tape, h.output, h.size, fun i hi => h.block i (Nat.lt_of_lt_of_le hi k.size) fun hq => by have := hp i hq; omega⟩
/-- What a system is when it has been marked from k on. -/
def marksS (k : Int) (s : Sy) : Sy :=
  { s with tasks := marks k s.tasks.length, locks := marksL (k + 14 * (s.tasks.length : Int)) s.locks, ghosts := marksG (k + 14 * (s.tasks.length : Int) + (sizeN s.locks : Int)) s.ghosts.length, floors := upFrom (k + 14 * (s.tasks.length : Int) + (sizeN s.locks : Int) + 4 * (s.ghosts.length : Int)) s.floors.length, trace := marksR (k + 14 * (s.tasks.length : Int) + (sizeN s.locks : Int) + 4 * (s.ghosts.length : Int) + (s.floors.length : Int)) s.trace.length }
def marksEnd (k : Int) (s : Sy) : Int := k + 14 * (s.tasks.length : Int) + (sizeN s.locks : Int) + 4 * (s.ghosts.length : Int) + (s.floors.length : Int) + 3 * (s.trace.length : Int)
end Go.Proofs.YthpdlbcdbncnhaaGreatDoor
namespace Go.Proofs.YthpdlbcdbncnhaaGreatDoor
open Go.RowKit

/-- Every task is of a processor that has a floor. -/
def OnCpus (s : Sy) : Prop := ∀ t ∈ s.tasks, 0 ≤ t.cpu ∧ t.cpu < (s.floors.length : Int)
/-- Where none of its blocks has turned. -/
theorem OwnS.aside {w w' : World} {lo : Nat} {v : Sv} {vs : List Lv} {s : Sy} (h : OwnS w lo v vs s) (hz : w.heap.size ≤ w'.heap.size) (k : ∀ i b, ofKind v vs i b → w'.heap[b]? = w.heap[b]?) : OwnS w' lo v vs s :=
  ⟨h.t.same fun b e => k 0 b e, (h.l.sameB fun b e => k 1 b e).widen (Nat.le_refl _) hz, h.g.same fun b e => k 2 b e, h.f.same fun b e => k 3 b e, h.r.same fun b e => k 4 b e, h.ap⟩
/-- A cell of another block is stored. -/
theorem OwnS.far {w : World} {lo : Nat} {v : Sv} {vs : List Lv} {s : Sy} (h : OwnS w lo v vs s) {c o : Nat} (hc : ∀ i, ¬ ofKind v vs i c) (x : Value) : OwnS (w.setCell ⟨c, o, none⟩ x) lo v vs s :=
  h.aside (by simp) fun i b hb => heap_setCell (by intro e; subst e; exact hc i hb)
/-- A struct is written over another block. -/
theorem OwnS.farC {lo : Nat} {v : Sv} {vs : List Lv} {s : Sy} {c : Nat} (hc : ∀ i, ¬ ofKind v vs i c) : ∀ (L : List Value) {w : World} (k : Nat), OwnS w lo v vs s → OwnS (putC w c k L) lo v vs s
  | [], _, _, h => h
  | x :: r, _, k, h => OwnS.farC hc r (k + 1) (h.far hc x)
/-- A task is stored over another one. -/
theorem OwnS.storeT {w : World} {lo : Nat} {v : Sv} {vs : List Lv} {s : Sy} (h : OwnS w lo v vs s) {rb : Nat} (ha : v.t.a = some ⟨rb, 0, none⟩) {k : Nat} (hk : k < s.tasks.length) (x : Tsk) :
    OwnS (putC w rb (k * 14) (tc x).toList) lo v vs { s with tasks := s.tasks.set k x } ∧ TurnsB (ofKind v vs 0) w (putC w rb (k * 14) (tc x).toList) := by
  have hn := (h.t.row tc_size).1
  have hv : v.t.val = .slice (some ⟨rb, 0, none⟩) s.tasks.length v.t.cap := by rw [Rw.val, ha, hn]
  have O := h.t
  rw [hv] at O
  have G : w.grownBy (putC w rb (k * 14) (tc x).toList) (some rb) := grown_putC _ _ _ (World.grownBy.refl _ _)
  have ho : v.t.val.ownBlock = some rb := by rw [hv]; rfl
  refine ⟨h.setT G.size (fun b hb hn => G.block b hb (fun e => hn (by show v.t.val.ownBlock = some b; rw [ho, e]))) v.t _ ?_ (fun b e => .inl e), ?_⟩
  · have := O.put tc_size hk x
    rw [List.length_set] at this
    rw [hv]
    exact this
  · exact (TurnsB.grown G).mono fun q hq => by show v.t.val.ownBlock = some q; rw [ho]; exact hq
end Go.Proofs.YthpdlbcdbncnhaaGreatDoor
