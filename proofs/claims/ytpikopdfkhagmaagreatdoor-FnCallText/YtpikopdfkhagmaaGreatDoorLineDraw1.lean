/-
  A drawn call that is turned in one place now and then.
  Drawn lines: the line of a drawn call, mostly as it is; a call for its line.
-/
import Derived.Test.YtpikopdfkhagmaaGreatDoorCallDraw1
import Derived.Test.YtpikopdfkhagmaaGreatDoorDeskNum
import Derived.Test.YtpikopdfkhagmaaGreatDoorImplCall
import Derived.Test.YtpikopdfkhagmaaGreatDoorCallDraw2
namespace Go.Proofs.YtpikopdfkhagmaaGreatDoor
open Go.RowKit

/-- Some call. -/
def DrewK (g : Nat) (w : World) (e : Ending) (w' : World) : Prop := ∃ c : Cl, e = .returned (ck c) ∧ Cur w' g ∧ KeepsBut g w w'
/-- The end: a call is stored as what is told. -/
theorem spoil_end {g rb : Nat} {w wn : World} (c : Cl) (R : Blk wn rb cc0) (hg : g < w.heap.size) (hr : w.heap.size ≤ rb) (hc : Cur wn g) (k : KeepsBut g w wn) :
    Blk (putC wn rb 0 (cc c).toList) rb (cc c) ∧ Cur (putC wn rb 0 (cc c).toList) g ∧ KeepsBut g w (putC wn rb 0 (cc c).toList) :=
  drewC_end R hg hr k hc (KeepsBut.refl g wn) c
set_option maxRecDepth 100000 in
set_option maxHeartbeats 8000000 in
theorem l11Spoil_any {w : World} {g : Nat} (hc : Cur w g) (c : Cl) :
    Calls Tryz.prog 19 #[.pointer (some ⟨g, 0, none⟩), ck c] w (DrewK g w) := by
  have hgl := hc.lt
  have kZ : Keeps w ((w.alloc (.cells (cc c) 25)).alloc (.cells cc0 25)) := ((Keeps.refl w).alloc _).alloc _
  have B0 : Hid (Blk ((w.alloc (.cells (cc c) 25)).alloc (.cells cc0 25)) w.heap.size (cc c)) := (Blk.new _ _ _).alloc _
  have R0 : Hid (Blk ((w.alloc (.cells (cc c) 25)).alloc (.cells cc0 25)) (w.heap.size + 1) cc0) := by
    have := Blk.new (w.alloc (.cells (cc c) 25)) cc0 25
    show Blk _ _ _
    simpa using this
  have HC := hc.keeps kZ
  have KZ : Hid (KeepsBut g w ((w.alloc (.cells (cc c) 25)).alloc (.cells cc0 25))) := .of kZ
  clear hc kZ
  go_enter Tryz.func19, Tryz.ntmps19
  go_upto_region 1 with fail
  change Code.wp _ _ _ _ ((w.alloc (.cells (cc c) 25)).alloc (.cells cc0 25))
  generalize (w.alloc (.cells (cc c) 25)).alloc (.cells cc0 25) = Z at *
  go_upto_region 2 with (go_at_call 40; refine (l1Below_any g _ _ HC (by omega) (by omega)).mono ?_; rintro e w1 ⟨m, rfl, m0, m1, hc1, k1⟩)
  have hob : w.heap.size ≠ g := by omega
  have hrb : w.heap.size + 1 ≠ g := by omega
  have B1 : Hid (Blk w1 w.heap.size (cc c)) := B0.out.but k1 hob
  have R1 : Hid (Blk w1 (w.heap.size + 1) cc0) := R0.out.but k1 hrb
  have K1 : Hid (KeepsBut g w w1) := KZ.out.trans k1
  clear B0 R0 KZ k1 HC
  by_cases h0 : m = 0
  · subst h0
    go_upto_region 12 with (go_at_call 40; refine (l1Below_any g _ _ hc1 (by omega) (by omega)).mono ?_; rintro e w2 ⟨x, rfl, x0, x1, hc2, k2⟩; obtain ⟨_, z1, z2⟩ := B1.out.but k2 hob)
    change Code.wp _ _ _ _ (w2.setCell ⟨w.heap.size, 0, none⟩ (.int .i64 x))
    have BY : Hid (Blk (w2.setCell ⟨w.heap.size, 0, none⟩ (.int .i64 x)) w.heap.size (cc ⟨x, c.no, c.cpu, c.a, c.b⟩)) := (B1.out.but k2 hob).set 0 (by show 0 < 5; omega) _
    have RY : Hid (Blk (w2.setCell ⟨w.heap.size, 0, none⟩ (.int .i64 x)) (w.heap.size + 1) cc0) := (R1.out.but k2 hrb).far (by omega) _
    have CY := hc2.setNew (b := w.heap.size) (by omega) 0 (.int .i64 x)
    have KY : Hid (KeepsBut g w (w2.setCell ⟨w.heap.size, 0, none⟩ (.int .i64 x))) := (K1.out.trans k2).setNew (p := ⟨w.heap.size, 0, none⟩) (Nat.le_refl _) _
    clear z1 z2 B1 R1 K1 k2 hc2
    generalize (w2.setCell ⟨w.heap.size, 0, none⟩ (.int .i64 x)) = Y at *
    obtain ⟨_, y1, y2⟩ := BY.out
    obtain ⟨_, y3, y4⟩ := RY.out
    dsimp only [cc] at y1
    dsimp only [cc0] at y3
    obtain ⟨D, CQ, KQ⟩ := spoil_end ⟨x, c.no, c.cpu, c.a, c.b⟩ RY.out hgl (by omega) CY KY.out
    go_wp2
    change bodyPost _ _ _ _ _ (putC Y (w.heap.size + 1) 0 (cc ⟨x, c.no, c.cpu, c.a, c.b⟩).toList)
    generalize putC Y (w.heap.size + 1) 0 (cc ⟨x, c.no, c.cpu, c.a, c.b⟩).toList = Q at D CQ KQ ⊢
    exact bodyPost_ret (v := ck ⟨x, c.no, c.cpu, c.a, c.b⟩) (by simp [results, Tryz.results19, go_sem, D.cells]) rfl ⟨⟨x, c.no, c.cpu, c.a, c.b⟩, rfl, CQ, KQ⟩
  by_cases h1 : m = 1
  · subst h1
    go_upto_region 12 with (go_at_call 22; refine (l1PickInt_new (fun _ => True) g [0, -1, 1000, 1001] _ _ _ _ _ w1 rfl hc1 rfl (by decide) (by decide) rfl (fun _ _ => trivial)).mono ?_; rintro e w2 ⟨x, rfl, -, hc2, k2⟩; obtain ⟨_, z1, z2⟩ := B1.out.but k2 hob)
    change Code.wp _ _ _ _ (w2.setCell ⟨w.heap.size, 1, none⟩ (.int .i64 x))
    have BY : Hid (Blk (w2.setCell ⟨w.heap.size, 1, none⟩ (.int .i64 x)) w.heap.size (cc ⟨c.kind, x, c.cpu, c.a, c.b⟩)) := (B1.out.but k2 hob).set 1 (by show 1 < 5; omega) _
    have RY : Hid (Blk (w2.setCell ⟨w.heap.size, 1, none⟩ (.int .i64 x)) (w.heap.size + 1) cc0) := (R1.out.but k2 hrb).far (by omega) _
    have CY := hc2.setNew (b := w.heap.size) (by omega) 1 (.int .i64 x)
    have KY : Hid (KeepsBut g w (w2.setCell ⟨w.heap.size, 1, none⟩ (.int .i64 x))) := (K1.out.trans k2).setNew (p := ⟨w.heap.size, 1, none⟩) (Nat.le_refl _) _
    clear z1 z2 B1 R1 K1 k2 hc2
    generalize (w2.setCell ⟨w.heap.size, 1, none⟩ (.int .i64 x)) = Y at *
    obtain ⟨_, y1, y2⟩ := BY.out
    obtain ⟨_, y3, y4⟩ := RY.out
    dsimp only [cc] at y1
    dsimp only [cc0] at y3
    obtain ⟨D, CQ, KQ⟩ := spoil_end ⟨c.kind, x, c.cpu, c.a, c.b⟩ RY.out hgl (by omega) CY KY.out
    go_wp2
    change bodyPost _ _ _ _ _ (putC Y (w.heap.size + 1) 0 (cc ⟨c.kind, x, c.cpu, c.a, c.b⟩).toList)
    generalize putC Y (w.heap.size + 1) 0 (cc ⟨c.kind, x, c.cpu, c.a, c.b⟩).toList = Q at D CQ KQ ⊢
    exact bodyPost_ret (v := ck ⟨c.kind, x, c.cpu, c.a, c.b⟩) (by simp [results, Tryz.results19, go_sem, D.cells]) rfl ⟨⟨c.kind, x, c.cpu, c.a, c.b⟩, rfl, CQ, KQ⟩
  by_cases h2 : m = 2
  · subst h2
    go_upto_region 12 with (go_at_call 22; refine (l1PickInt_new (fun _ => True) g [-1, 3, 4, 9223372036854775807] _ _ _ _ _ w1 rfl hc1 rfl (by decide) (by decide) rfl (fun _ _ => trivial)).mono ?_; rintro e w2 ⟨x, rfl, -, hc2, k2⟩; obtain ⟨_, z1, z2⟩ := B1.out.but k2 hob)
    change Code.wp _ _ _ _ (w2.setCell ⟨w.heap.size, 2, none⟩ (.int .i64 x))
    have BY : Hid (Blk (w2.setCell ⟨w.heap.size, 2, none⟩ (.int .i64 x)) w.heap.size (cc ⟨c.kind, c.no, x, c.a, c.b⟩)) := (B1.out.but k2 hob).set 2 (by show 2 < 5; omega) _
    have RY : Hid (Blk (w2.setCell ⟨w.heap.size, 2, none⟩ (.int .i64 x)) (w.heap.size + 1) cc0) := (R1.out.but k2 hrb).far (by omega) _
    have CY := hc2.setNew (b := w.heap.size) (by omega) 2 (.int .i64 x)
    have KY : Hid (KeepsBut g w (w2.setCell ⟨w.heap.size, 2, none⟩ (.int .i64 x))) := (K1.out.trans k2).setNew (p := ⟨w.heap.size, 2, none⟩) (Nat.le_refl _) _
    clear z1 z2 B1 R1 K1 k2 hc2
    generalize (w2.setCell ⟨w.heap.size, 2, none⟩ (.int .i64 x)) = Y at *
    obtain ⟨_, y1, y2⟩ := BY.out
    obtain ⟨_, y3, y4⟩ := RY.out
    dsimp only [cc] at y1
    dsimp only [cc0] at y3
    obtain ⟨D, CQ, KQ⟩ := spoil_end ⟨c.kind, c.no, x, c.a, c.b⟩ RY.out hgl (by omega) CY KY.out
    go_wp2
    change bodyPost _ _ _ _ _ (putC Y (w.heap.size + 1) 0 (cc ⟨c.kind, c.no, x, c.a, c.b⟩).toList)
    generalize putC Y (w.heap.size + 1) 0 (cc ⟨c.kind, c.no, x, c.a, c.b⟩).toList = Q at D CQ KQ ⊢
    exact bodyPost_ret (v := ck ⟨c.kind, c.no, x, c.a, c.b⟩) (by simp [results, Tryz.results19, go_sem, D.cells]) rfl ⟨⟨c.kind, c.no, x, c.a, c.b⟩, rfl, CQ, KQ⟩
  by_cases h3 : m = 3
  · subst h3
    go_upto_region 12 with (go_at_call 22; refine (l1PickInt_new (fun _ => True) g [-5, 0, 5, 41, 51, 9223372036854775807] _ _ _ _ _ w1 rfl hc1 rfl (by decide) (by decide) rfl (fun _ _ => trivial)).mono ?_; rintro e w2 ⟨x, rfl, -, hc2, k2⟩; obtain ⟨_, z1, z2⟩ := B1.out.but k2 hob)
    change Code.wp _ _ _ _ (w2.setCell ⟨w.heap.size, 3, none⟩ (.int .i64 x))
    have BY : Hid (Blk (w2.setCell ⟨w.heap.size, 3, none⟩ (.int .i64 x)) w.heap.size (cc ⟨c.kind, c.no, c.cpu, x, c.b⟩)) := (B1.out.but k2 hob).set 3 (by show 3 < 5; omega) _
    have RY : Hid (Blk (w2.setCell ⟨w.heap.size, 3, none⟩ (.int .i64 x)) (w.heap.size + 1) cc0) := (R1.out.but k2 hrb).far (by omega) _
    have CY := hc2.setNew (b := w.heap.size) (by omega) 3 (.int .i64 x)
    have KY : Hid (KeepsBut g w (w2.setCell ⟨w.heap.size, 3, none⟩ (.int .i64 x))) := (K1.out.trans k2).setNew (p := ⟨w.heap.size, 3, none⟩) (Nat.le_refl _) _
    clear z1 z2 B1 R1 K1 k2 hc2
    generalize (w2.setCell ⟨w.heap.size, 3, none⟩ (.int .i64 x)) = Y at *
    obtain ⟨_, y1, y2⟩ := BY.out
    obtain ⟨_, y3, y4⟩ := RY.out
    dsimp only [cc] at y1
    dsimp only [cc0] at y3
    obtain ⟨D, CQ, KQ⟩ := spoil_end ⟨c.kind, c.no, c.cpu, x, c.b⟩ RY.out hgl (by omega) CY KY.out
    go_wp2
    change bodyPost _ _ _ _ _ (putC Y (w.heap.size + 1) 0 (cc ⟨c.kind, c.no, c.cpu, x, c.b⟩).toList)
    generalize putC Y (w.heap.size + 1) 0 (cc ⟨c.kind, c.no, c.cpu, x, c.b⟩).toList = Q at D CQ KQ ⊢
    exact bodyPost_ret (v := ck ⟨c.kind, c.no, c.cpu, x, c.b⟩) (by simp [results, Tryz.results19, go_sem, D.cells]) rfl ⟨⟨c.kind, c.no, c.cpu, x, c.b⟩, rfl, CQ, KQ⟩
  by_cases h4 : m = 4
  · subst h4
    go_upto_region 12 with (go_at_call 22; refine (l1PickInt_new (fun _ => True) g [-1, 0, 11, 41] _ _ _ _ _ w1 rfl hc1 rfl (by decide) (by decide) rfl (fun _ _ => trivial)).mono ?_; rintro e w2 ⟨x, rfl, -, hc2, k2⟩; obtain ⟨_, z1, z2⟩ := B1.out.but k2 hob)
    change Code.wp _ _ _ _ (w2.setCell ⟨w.heap.size, 4, none⟩ (.int .i64 x))
    have BY : Hid (Blk (w2.setCell ⟨w.heap.size, 4, none⟩ (.int .i64 x)) w.heap.size (cc ⟨c.kind, c.no, c.cpu, c.a, x⟩)) := (B1.out.but k2 hob).set 4 (by show 4 < 5; omega) _
    have RY : Hid (Blk (w2.setCell ⟨w.heap.size, 4, none⟩ (.int .i64 x)) (w.heap.size + 1) cc0) := (R1.out.but k2 hrb).far (by omega) _
    have CY := hc2.setNew (b := w.heap.size) (by omega) 4 (.int .i64 x)
    have KY : Hid (KeepsBut g w (w2.setCell ⟨w.heap.size, 4, none⟩ (.int .i64 x))) := (K1.out.trans k2).setNew (p := ⟨w.heap.size, 4, none⟩) (Nat.le_refl _) _
    clear z1 z2 B1 R1 K1 k2 hc2
    generalize (w2.setCell ⟨w.heap.size, 4, none⟩ (.int .i64 x)) = Y at *
    obtain ⟨_, y1, y2⟩ := BY.out
    obtain ⟨_, y3, y4⟩ := RY.out
    dsimp only [cc] at y1
    dsimp only [cc0] at y3
    obtain ⟨D, CQ, KQ⟩ := spoil_end ⟨c.kind, c.no, c.cpu, c.a, x⟩ RY.out hgl (by omega) CY KY.out
    go_wp2
    change bodyPost _ _ _ _ _ (putC Y (w.heap.size + 1) 0 (cc ⟨c.kind, c.no, c.cpu, c.a, x⟩).toList)
    generalize putC Y (w.heap.size + 1) 0 (cc ⟨c.kind, c.no, c.cpu, c.a, x⟩).toList = Q at D CQ KQ ⊢
    exact bodyPost_ret (v := ck ⟨c.kind, c.no, c.cpu, c.a, x⟩) (by simp [results, Tryz.results19, go_sem, D.cells]) rfl ⟨⟨c.kind, c.no, c.cpu, c.a, x⟩, rfl, CQ, KQ⟩
  have e0 : (m == 0) = false := by simp; omega
  have e1 : (m == 1) = false := by simp; omega
  have e2 : (m == 2) = false := by simp; omega
  have e3 : (m == 3) = false := by simp; omega
  have e4 : (m == 4) = false := by simp; omega
  go_upto_region 12 with fail
  have BY := B1
  have RY := R1
  have CY := hc1
  have KY := K1
  generalize w1 = Y at *
  clear B1 R1 K1 hc1
  obtain ⟨_, y1, y2⟩ := BY.out
  obtain ⟨_, y3, y4⟩ := RY.out
  dsimp only [cc] at y1
  dsimp only [cc0] at y3
  obtain ⟨D, CQ, KQ⟩ := spoil_end c RY.out hgl (by omega) CY KY.out
  go_wp2
  change bodyPost _ _ _ _ _ (putC Y (w.heap.size + 1) 0 (cc c).toList)
  generalize putC Y (w.heap.size + 1) 0 (cc c).toList = Q at D CQ KQ ⊢
  exact bodyPost_ret (v := ck c) (by simp [results, Tryz.results19, go_sem, D.cells]) rfl ⟨c, rfl, CQ, KQ⟩
end Go.Proofs.YtpikopdfkhagmaaGreatDoor
namespace Go.Proofs.YtpikopdfkhagmaaGreatDoor
open Go.RowKit

/-- Some call, and nothing old has turned. -/
def DrewKK (w : World) (e : Ending) (w' : World) : Prop := ∃ c : Cl, e = .returned (ck c) ∧ Keeps w w'
theorem lineK_length {c : Cl} : ∀ k, firstsB c k = true → (lineK c k).length ≤ 6 + 10 * k
  | 0, _ => wordL_length c.kind
  | k + 1, h => by
    have h' : firstsB c k = true ∧ numOkB c k ((numsL c).getD k 0) = true := by simpa [firstsB, Bool.and_eq_true] using h
    have h1 := lineK_length k h'.1
    have h2 := h'.2
    unfold numOkB at h2
    rw [inB_iff] at h2
    have h3 : (-9 : Int) ≤ leastI c k := by unfold leastI; split <;> omega
    have h4 := numL_length (n := (numsL c).getD k 0) (by omega) (by omega)
    show (lineK c k ++ [32] ++ numL ((numsL c).getD k 0)).length ≤ _
    rw [List.length_append, List.length_append]
    simp only [List.length_cons, List.length_nil]
    omega
theorem lineL_length (c : Cl) : (lineL c).length ≤ 46 := by
  unfold lineL
  split
  · next h =>
    unfold lineB at h
    rw [Bool.and_eq_true] at h
    have := lineK_length _ h.2
    have := (numsL_length c).2
    omega
  · simp
set_option maxRecDepth 100000 in
/-- One of the texts of a list that is written out just there. -/
theorem l1Pick_new (M g : Nat) (zs : List (List UInt8)) (C : Array Value) (t : TypeId) (n cap B : Nat) (w : World) (hB : w.heap.size = B) (hc : Cur w g) (hn : zs.length = n) (h1 : 1 ≤ n) (h2 : n ≤ 256) (hC : C = (zs.map strV).toArray) (hp : ∀ z ∈ zs, z.length ≤ M) :
    Calls Tryz.prog 56 #[.pointer (some ⟨g, 0, none⟩), .slice (some ⟨B, 0, none⟩) n cap] (w.alloc (.cells C t)) fun e w' => ∃ x : List UInt8, e = .returned (strV x) ∧ x.length ≤ M ∧ Cur w' g ∧ KeepsBut g w w' := by
  have hl := hc.lt
  subst hC
  subst hB
  refine (l1Pick_any M g w.heap.size 0 cap n zs _ (hc.keeps ((Keeps.refl _).alloc _)) (by omega) hn h1 h2 ?_ hp).mono ?_
  · intro j hj
    subst hn
    simp [go_sem, hj]
  · rintro e w' ⟨x, rfl, hx, hc', k⟩
    exact ⟨x, rfl, hx, hc', ((KeepsBut.refl g w).alloc _).trans k⟩
set_option maxRecDepth 100000 in
theorem l14Dent_new (g : Nat) (l : List UInt8) (zs : List (List UInt8)) (C : Array Value) (t : TypeId) (n cap B : Nat) (w : World) (hB : w.heap.size = B) (hc : Cur w g) (hn : zs.length = n) (h1 : 1 ≤ n) (h2 : n ≤ 256) (hC : C = (zs.map strV).toArray) (hp : ∀ z ∈ zs, z.length ≤ 3) (hl : l.length ≤ 200) :
    Calls Tryz.prog 57 #[.pointer (some ⟨g, 0, none⟩), strV l, .slice (some ⟨B, 0, none⟩) n cap] (w.alloc (.cells C t)) fun e w' => ∃ x : List UInt8, e = .returned (strV x) ∧ x.length ≤ 403 ∧ Cur w' g ∧ KeepsBut g w w' := by
  have hgl := hc.lt
  subst hC
  subst hB
  refine (l14Dent_any g w.heap.size cap n l zs _ (hc.keeps ((Keeps.refl _).alloc _)) (by omega) (by simp) hn h1 h2 ?_ hp hl).mono ?_
  · intro j hj
    subst hn
    simp [go_sem, hj]
  · rintro e w' ⟨x, rfl, hx, hc', k⟩
    exact ⟨x, rfl, hx, hc', ((KeepsBut.refl g w).alloc _).trans k⟩
set_option maxRecDepth 100000 in
set_option linter.unusedSimpArgs false in
set_option maxHeartbeats 8000000 in
theorem l14DrawLine_any {w : World} {g lo : Nat} {v : Sv} {vs : List Lv} {s : Sy} (hc : Cur w g) (h : OwnS w lo v vs s) (hg : g < lo) (ht : s.tasks.length ≤ 256) (hcp : s.cpus ≤ 256) :
    Calls Tryz.prog 34 #[.pointer (some ⟨g, 0, none⟩), .agg (syc s v)] w fun e w' => ∃ x : List UInt8, e = .returned (strV x) ∧ x.length ≤ 403 ∧ Cur w' g ∧ KeepsBut g w w' := by
  obtain ⟨⟨ta, tn, tcap⟩, ⟨la, ln, lcap⟩, ⟨ga, gn, gcap⟩, ⟨fa, fn, fcap⟩, ⟨ra, rn, rcap⟩⟩ := v
  have hgl := hc.lt
  have kZ := blkK w (.cells (syc s ⟨⟨ta, tn, tcap⟩, ⟨la, ln, lcap⟩, ⟨ga, gn, gcap⟩, ⟨fa, fn, fcap⟩, ⟨ra, rn, rcap⟩⟩) 43)
  have B0 : Hid (Blk (w.alloc (.cells (syc s ⟨⟨ta, tn, tcap⟩, ⟨la, ln, lcap⟩, ⟨ga, gn, gcap⟩, ⟨fa, fn, fcap⟩, ⟨ra, rn, rcap⟩⟩) 43)) w.heap.size (syc s ⟨⟨ta, tn, tcap⟩, ⟨la, ln, lcap⟩, ⟨ga, gn, gcap⟩, ⟨fa, fn, fcap⟩, ⟨ra, rn, rcap⟩⟩)) := Blk.new _ _ _
  have HC : Cur (w.alloc (.cells (syc s ⟨⟨ta, tn, tcap⟩, ⟨la, ln, lcap⟩, ⟨ga, gn, gcap⟩, ⟨fa, fn, fcap⟩, ⟨ra, rn, rcap⟩⟩) 43)) g := hc.keeps kZ
  have HO : Hid (OwnS (w.alloc (.cells (syc s ⟨⟨ta, tn, tcap⟩, ⟨la, ln, lcap⟩, ⟨ga, gn, gcap⟩, ⟨fa, fn, fcap⟩, ⟨ra, rn, rcap⟩⟩) 43)) lo ⟨⟨ta, tn, tcap⟩, ⟨la, ln, lcap⟩, ⟨ga, gn, gcap⟩, ⟨fa, fn, fcap⟩, ⟨ra, rn, rcap⟩⟩ vs s) := h.keeps kZ
  have KZ : Hid (KeepsBut g w (w.alloc (.cells (syc s ⟨⟨ta, tn, tcap⟩, ⟨la, ln, lcap⟩, ⟨ga, gn, gcap⟩, ⟨fa, fn, fcap⟩, ⟨ra, rn, rcap⟩⟩) 43))) := .of kZ
  clear hc h kZ
  go_enter Tryz.func34, Tryz.ntmps34
  go_upto_region 1 with fail
  change Code.wp _ _ _ _ (w.alloc (.cells (syc s ⟨⟨ta, tn, tcap⟩, ⟨la, ln, lcap⟩, ⟨ga, gn, gcap⟩, ⟨fa, fn, fcap⟩, ⟨ra, rn, rcap⟩⟩) 43))
  generalize (w.alloc (.cells (syc s ⟨⟨ta, tn, tcap⟩, ⟨la, ln, lcap⟩, ⟨ga, gn, gcap⟩, ⟨fa, fn, fcap⟩, ⟨ra, rn, rcap⟩⟩) 43)) = Z at *
  have hob : w.heap.size ≠ g := by omega
  go_upto_if 13 with first
    | (go_at_call 56; refine (l1Pick_new 8 g [[106, 117, 100, 103, 101], [116, 117, 114, 110, 115], [], [35], [104, 101, 108, 112], [116, 105, 99, 107, 115], [116, 105, 99, 107, 115, 32, 51], [116, 105, 99, 107, 115, 32, 48, 51]] _ _ _ _ _ Z rfl HC rfl (by decide) (by decide) rfl (by simp)).mono ?_; rintro e w1 ⟨l0, rfl, hl0, hc1, k1⟩)
    | (go_at_call 21; refine (l1Once_any g _ _ hc1 (by omega) (by omega)).mono ?_; rintro e w2 ⟨b2, rfl, hc2, k2⟩)
  have K2 : KeepsBut g Z w2 := k1.trans k2
  clear k1 k2 hc1 HC
  go_cut [5] (fun t wx => ∃ l : List UInt8, t = strV l ∧ l.length ≤ 200 ∧ Cur wx g ∧ KeepsBut g Z wx)
  case first =>
    cases b2
    · have hb0 : ∀ w', KeepsBut g Z w' → ∀ q, w'.cell? ⟨w.heap.size, q, none⟩ = (syc s ⟨⟨ta, tn, tcap⟩, ⟨la, ln, lcap⟩, ⟨ga, gn, gcap⟩, ⟨fa, fn, fcap⟩, ⟨ra, rn, rcap⟩⟩)[q]? := fun w' k => (B0.out.but k hob).cells
      dsimp only [syc] at hb0
      go_upto_if 21 with first
        | (go_at_call 20; refine (l11DrawNext_any (v := ⟨⟨ta, tn, tcap⟩, ⟨la, ln, lcap⟩, ⟨ga, gn, gcap⟩, ⟨fa, fn, fcap⟩, ⟨ra, rn, rcap⟩⟩) hc2 (HO.out.butG K2 hg) hg ht hcp).mono ?_; rintro e w3 ⟨c, rfl, -, hc3, k3⟩)
        | (go_at_call 8; refine (specCallLine_any c _).mono ?_; rintro e w4 ⟨rfl, k4⟩)
      have hc4 := hc3.keeps k4
      have K4 : KeepsBut g Z w4 := (K2.trans k3).trans (.of k4)
      have hll := lineL_length c
      generalize lineL c = l1 at *
      generalize lineB c = b4 at *
      cases b4
      · go_wp2
        go_meet
        exact ⟨l0, rfl, by omega, hc4, K4⟩
      · go_wp2
        go_meet
        exact ⟨l1, rfl, by omega, hc4, K4⟩
    · go_wp2
      go_meet
      exact ⟨l0, rfl, by omega, hc2, K2⟩
  case rest =>
  obtain ⟨l, rfl, hl, hc5, K5⟩ := hcut
  generalize wc = w5 at *
  clear hc2 K2 HO B0
  go_upto_if 24 with (go_at_call 21; refine (l1Once_any g _ _ hc5 (by omega) (by omega)).mono ?_; rintro e w6 ⟨b6, rfl, hc6, k6⟩)
  have K6 : KeepsBut g w w6 := KZ.out.trans (K5.trans k6)
  cases b6
  · go_wp2
    go_ret
    exact ⟨l, rfl, by omega, hc6, K6⟩
  · go_wp2_with (go_at_call 57; refine (l14Dent_new g l [[32], [48], [45], [120], [57], [35], [100, 117, 101]] _ _ _ _ _ w6 rfl hc6 rfl (by decide) (by decide) rfl (by simp) hl).mono ?_; rintro e w7 ⟨x, rfl, hx, hc7, k7⟩)
    go_ret
    exact ⟨x, rfl, hx, hc7, K6.trans k7⟩
set_option maxRecDepth 100000 in
set_option linter.unusedSimpArgs false in
set_option maxHeartbeats 8000000 in
theorem drawCallParse_any (a : Option Addr) (n cap : Nat) (w : World) (hn : n ≤ 1048576) (hb : ∀ g, w.heap.size ≤ g → Bytes g w a n) :
    Calls Tryz.prog 12 #[.slice a n cap] w fun e w' => ∃ x : List UInt8, e = .returned (strV x) ∧ x.length ≤ 403 ∧ Keeps w w' := by
  go_enter Tryz.func12, Tryz.ntmps12
  go_wp2_with fail
  refine (l1New_any a n cap _ hn hb).mono ?_
  rintro e w1 ⟨g, rfl, hg, hc1, k1⟩
  clear hb
  have hg1 := hc1.lt
  go_upto_region 3 with (go_at_call 18; refine (l11DrawRun_any hc1 12 (by omega) (by omega)).mono ?_; rintro e w2 ⟨nn, cs, v0, vs0, v, vs, ra, rcap, lb, rfl, hn1, hfew, hlen, o0, o1, sm, orow, hlb, hlb2, hc2, k2⟩; obtain ⟨⟨ta3, tn3, tc3⟩, ⟨la3, ln3, lc3⟩, ⟨ga3, gn3, gc3⟩, ⟨fa3, fn3, fc3⟩, ⟨ra3, rn3, rc3⟩⟩ := v0; obtain ⟨⟨ta5, tn5, tc5⟩, ⟨la5, ln5, lc5⟩, ⟨ga5, gn5, gc5⟩, ⟨fa5, fn5, fc5⟩, ⟨ra5, rn5, rc5⟩⟩ := v)
  obtain ⟨s, Hs⟩ : ∃ s, Hid (runS (newS nn) cs = s) := ⟨_, rfl⟩
  rw [Hs.out] at o1 sm ⊢
  have kA : Keeps w2 ((w2.alloc (.cells (syc (newS nn) ⟨⟨ta3, tn3, tc3⟩, ⟨la3, ln3, lc3⟩, ⟨ga3, gn3, gc3⟩, ⟨fa3, fn3, fc3⟩, ⟨ra3, rn3, rc3⟩⟩) 43)).alloc (.cells (syc s ⟨⟨ta5, tn5, tc5⟩, ⟨la5, ln5, lc5⟩, ⟨ga5, gn5, gc5⟩, ⟨fa5, fn5, fc5⟩, ⟨ra5, rn5, rc5⟩⟩) 43)) := ((Keeps.refl w2).alloc _).alloc _
  have HX : Hid (Blk ((w2.alloc (.cells (syc (newS nn) ⟨⟨ta3, tn3, tc3⟩, ⟨la3, ln3, lc3⟩, ⟨ga3, gn3, gc3⟩, ⟨fa3, fn3, fc3⟩, ⟨ra3, rn3, rc3⟩⟩) 43)).alloc (.cells (syc s ⟨⟨ta5, tn5, tc5⟩, ⟨la5, ln5, lc5⟩, ⟨ga5, gn5, gc5⟩, ⟨fa5, fn5, fc5⟩, ⟨ra5, rn5, rc5⟩⟩) 43)) (w2.heap.size + 1) (syc s ⟨⟨ta5, tn5, tc5⟩, ⟨la5, ln5, lc5⟩, ⟨ga5, gn5, gc5⟩, ⟨fa5, fn5, fc5⟩, ⟨ra5, rn5, rc5⟩⟩)) := by
    have := Blk.new (w2.alloc (.cells (syc (newS nn) ⟨⟨ta3, tn3, tc3⟩, ⟨la3, ln3, lc3⟩, ⟨ga3, gn3, gc3⟩, ⟨fa3, fn3, fc3⟩, ⟨ra3, rn3, rc3⟩⟩) 43)) (syc s ⟨⟨ta5, tn5, tc5⟩, ⟨la5, ln5, lc5⟩, ⟨ga5, gn5, gc5⟩, ⟨fa5, fn5, fc5⟩, ⟨ra5, rn5, rc5⟩⟩) 43
    show Blk _ _ _
    simpa using this
  have C2 := hc2.keeps kA
  have K2 : Hid (KeepsBut g w1 ((w2.alloc (.cells (syc (newS nn) ⟨⟨ta3, tn3, tc3⟩, ⟨la3, ln3, lc3⟩, ⟨ga3, gn3, gc3⟩, ⟨fa3, fn3, fc3⟩, ⟨ra3, rn3, rc3⟩⟩) 43)).alloc (.cells (syc s ⟨⟨ta5, tn5, tc5⟩, ⟨la5, ln5, lc5⟩, ⟨ga5, gn5, gc5⟩, ⟨fa5, fn5, fc5⟩, ⟨ra5, rn5, rc5⟩⟩) 43))) := k2.trans (.of kA)
  have O2 : Hid (OwnS ((w2.alloc (.cells (syc (newS nn) ⟨⟨ta3, tn3, tc3⟩, ⟨la3, ln3, lc3⟩, ⟨ga3, gn3, gc3⟩, ⟨fa3, fn3, fc3⟩, ⟨ra3, rn3, rc3⟩⟩) 43)).alloc (.cells (syc s ⟨⟨ta5, tn5, tc5⟩, ⟨la5, ln5, lc5⟩, ⟨ga5, gn5, gc5⟩, ⟨fa5, fn5, fc5⟩, ⟨ra5, rn5, rc5⟩⟩) 43)) w1.heap.size ⟨⟨ta5, tn5, tc5⟩, ⟨la5, ln5, lc5⟩, ⟨ga5, gn5, gc5⟩, ⟨fa5, fn5, fc5⟩, ⟨ra5, rn5, rc5⟩⟩ vs s) := o1.keeps kA
  obtain ⟨t1, t2⟩ : s.tasks.length ≤ 256 ∧ s.cpus ≤ 256 := by
    obtain ⟨z1, z2, z3⟩ := sm
    exact ⟨by omega, by omega⟩
  change Code.wp _ _ _ _ ((w2.alloc (.cells (syc (newS nn) ⟨⟨ta3, tn3, tc3⟩, ⟨la3, ln3, lc3⟩, ⟨ga3, gn3, gc3⟩, ⟨fa3, fn3, fc3⟩, ⟨ra3, rn3, rc3⟩⟩) 43)).alloc (.cells (syc s ⟨⟨ta5, tn5, tc5⟩, ⟨la5, ln5, lc5⟩, ⟨ga5, gn5, gc5⟩, ⟨fa5, fn5, fc5⟩, ⟨ra5, rn5, rc5⟩⟩) 43))
  clear kA k2 o0 o1 orow hlb hlb2 hfew hlen hc1 hc2 sm
  generalize ((w2.alloc (.cells (syc (newS nn) ⟨⟨ta3, tn3, tc3⟩, ⟨la3, ln3, lc3⟩, ⟨ga3, gn3, gc3⟩, ⟨fa3, fn3, fc3⟩, ⟨ra3, rn3, rc3⟩⟩) 43)).alloc (.cells (syc s ⟨⟨ta5, tn5, tc5⟩, ⟨la5, ln5, lc5⟩, ⟨ga5, gn5, gc5⟩, ⟨fa5, fn5, fc5⟩, ⟨ra5, rn5, rc5⟩⟩) 43)) = Y at *
  generalize w2.heap.size + 1 = ob at *
  obtain ⟨_, r1, r2⟩ := HX.out
  dsimp only [syc] at r1
  go_wp2_with (go_at_call 34; refine (l14DrawLine_any (v := ⟨⟨ta5, tn5, tc5⟩, ⟨la5, ln5, lc5⟩, ⟨ga5, gn5, gc5⟩, ⟨fa5, fn5, fc5⟩, ⟨ra5, rn5, rc5⟩⟩) C2 O2.out hg1 t1 t2).mono ?_; rintro e w3 ⟨x, rfl, hx, hc3, k3⟩)
  go_ret
  exact ⟨x, rfl, hx, (K2.out.trans k3).keeps k1 hg⟩
set_option maxRecDepth 100000 in
set_option linter.unusedSimpArgs false in
set_option maxHeartbeats 8000000 in
theorem drawCallLine_any (a : Option Addr) (n cap : Nat) (w : World) (hn : n ≤ 1048576) (hb : ∀ g, w.heap.size ≤ g → Bytes g w a n) :
    Calls Tryz.prog 6 #[.slice a n cap] w (DrewKK w) := by
  go_enter Tryz.func6, Tryz.ntmps6
  go_wp2_with fail
  have kW := blkK w (.cells cc0 25)
  have B0 : Blk (w.alloc (.cells cc0 25)) w.heap.size cc0 := Blk.new w cc0 25
  refine (l1New_any a n cap _ hn (fun g hg => (hb g (by have := kW.size; omega)).but (.of kW))).mono ?_
  rintro e w1 ⟨g, rfl, hg, hc1, k1⟩
  clear hb
  have K1 : Keeps w w1 := kW.trans k1
  have R1 : Hid (Blk w1 w.heap.size cc0) := B0.keeps k1
  have hg1 := hc1.lt
  have hwg : w.heap.size < g := by simp at hg; omega
  clear kW k1 B0 hg
  go_upto_region 3 with (go_at_call 18; refine (l11DrawRun_any hc1 12 (by omega) (by omega)).mono ?_; rintro e w2 ⟨nn, cs, v0, vs0, v, vs, ra, rcap, lb, rfl, hn1, hfew, hlen, o0, o1, sm, orow, hlb, hlb2, hc2, k2⟩; obtain ⟨⟨ta3, tn3, tc3⟩, ⟨la3, ln3, lc3⟩, ⟨ga3, gn3, gc3⟩, ⟨fa3, fn3, fc3⟩, ⟨ra3, rn3, rc3⟩⟩ := v0; obtain ⟨⟨ta5, tn5, tc5⟩, ⟨la5, ln5, lc5⟩, ⟨ga5, gn5, gc5⟩, ⟨fa5, fn5, fc5⟩, ⟨ra5, rn5, rc5⟩⟩ := v)
  obtain ⟨s, Hs⟩ : ∃ s, Hid (runS (newS nn) cs = s) := ⟨_, rfl⟩
  rw [Hs.out] at o1 sm ⊢
  have kA : Keeps w2 ((w2.alloc (.cells (syc (newS nn) ⟨⟨ta3, tn3, tc3⟩, ⟨la3, ln3, lc3⟩, ⟨ga3, gn3, gc3⟩, ⟨fa3, fn3, fc3⟩, ⟨ra3, rn3, rc3⟩⟩) 43)).alloc (.cells (syc s ⟨⟨ta5, tn5, tc5⟩, ⟨la5, ln5, lc5⟩, ⟨ga5, gn5, gc5⟩, ⟨fa5, fn5, fc5⟩, ⟨ra5, rn5, rc5⟩⟩) 43)) := ((Keeps.refl w2).alloc _).alloc _
  have HX : Hid (Blk ((w2.alloc (.cells (syc (newS nn) ⟨⟨ta3, tn3, tc3⟩, ⟨la3, ln3, lc3⟩, ⟨ga3, gn3, gc3⟩, ⟨fa3, fn3, fc3⟩, ⟨ra3, rn3, rc3⟩⟩) 43)).alloc (.cells (syc s ⟨⟨ta5, tn5, tc5⟩, ⟨la5, ln5, lc5⟩, ⟨ga5, gn5, gc5⟩, ⟨fa5, fn5, fc5⟩, ⟨ra5, rn5, rc5⟩⟩) 43)) (w2.heap.size + 1) (syc s ⟨⟨ta5, tn5, tc5⟩, ⟨la5, ln5, lc5⟩, ⟨ga5, gn5, gc5⟩, ⟨fa5, fn5, fc5⟩, ⟨ra5, rn5, rc5⟩⟩)) := by
    have := Blk.new (w2.alloc (.cells (syc (newS nn) ⟨⟨ta3, tn3, tc3⟩, ⟨la3, ln3, lc3⟩, ⟨ga3, gn3, gc3⟩, ⟨fa3, fn3, fc3⟩, ⟨ra3, rn3, rc3⟩⟩) 43)) (syc s ⟨⟨ta5, tn5, tc5⟩, ⟨la5, ln5, lc5⟩, ⟨ga5, gn5, gc5⟩, ⟨fa5, fn5, fc5⟩, ⟨ra5, rn5, rc5⟩⟩) 43
    show Blk _ _ _
    simpa using this
  have C2 := hc2.keeps kA
  have K2 : Hid (KeepsBut g w1 ((w2.alloc (.cells (syc (newS nn) ⟨⟨ta3, tn3, tc3⟩, ⟨la3, ln3, lc3⟩, ⟨ga3, gn3, gc3⟩, ⟨fa3, fn3, fc3⟩, ⟨ra3, rn3, rc3⟩⟩) 43)).alloc (.cells (syc s ⟨⟨ta5, tn5, tc5⟩, ⟨la5, ln5, lc5⟩, ⟨ga5, gn5, gc5⟩, ⟨fa5, fn5, fc5⟩, ⟨ra5, rn5, rc5⟩⟩) 43))) := k2.trans (.of kA)
  have O2 : Hid (OwnS ((w2.alloc (.cells (syc (newS nn) ⟨⟨ta3, tn3, tc3⟩, ⟨la3, ln3, lc3⟩, ⟨ga3, gn3, gc3⟩, ⟨fa3, fn3, fc3⟩, ⟨ra3, rn3, rc3⟩⟩) 43)).alloc (.cells (syc s ⟨⟨ta5, tn5, tc5⟩, ⟨la5, ln5, lc5⟩, ⟨ga5, gn5, gc5⟩, ⟨fa5, fn5, fc5⟩, ⟨ra5, rn5, rc5⟩⟩) 43)) w1.heap.size ⟨⟨ta5, tn5, tc5⟩, ⟨la5, ln5, lc5⟩, ⟨ga5, gn5, gc5⟩, ⟨fa5, fn5, fc5⟩, ⟨ra5, rn5, rc5⟩⟩ vs s) := o1.keeps kA
  obtain ⟨t1, t2⟩ : s.tasks.length ≤ 256 ∧ s.cpus ≤ 256 := by
    obtain ⟨z1, z2, z3⟩ := sm
    exact ⟨by omega, by omega⟩
  change Code.wp _ _ _ _ ((w2.alloc (.cells (syc (newS nn) ⟨⟨ta3, tn3, tc3⟩, ⟨la3, ln3, lc3⟩, ⟨ga3, gn3, gc3⟩, ⟨fa3, fn3, fc3⟩, ⟨ra3, rn3, rc3⟩⟩) 43)).alloc (.cells (syc s ⟨⟨ta5, tn5, tc5⟩, ⟨la5, ln5, lc5⟩, ⟨ga5, gn5, gc5⟩, ⟨fa5, fn5, fc5⟩, ⟨ra5, rn5, rc5⟩⟩) 43))
  clear kA k2 o0 o1 orow hlb hlb2 hfew hlen hc1 hc2 sm
  generalize ((w2.alloc (.cells (syc (newS nn) ⟨⟨ta3, tn3, tc3⟩, ⟨la3, ln3, lc3⟩, ⟨ga3, gn3, gc3⟩, ⟨fa3, fn3, fc3⟩, ⟨ra3, rn3, rc3⟩⟩) 43)).alloc (.cells (syc s ⟨⟨ta5, tn5, tc5⟩, ⟨la5, ln5, lc5⟩, ⟨ga5, gn5, gc5⟩, ⟨fa5, fn5, fc5⟩, ⟨ra5, rn5, rc5⟩⟩) 43)) = Y at *
  generalize w2.heap.size + 1 = ob at *
  obtain ⟨_, r1, r2⟩ := HX.out
  dsimp only [syc] at r1
  go_upto_region 4 with first
    | (go_at_call 20; refine (l11DrawNext_any (v := ⟨⟨ta5, tn5, tc5⟩, ⟨la5, ln5, lc5⟩, ⟨ga5, gn5, gc5⟩, ⟨fa5, fn5, fc5⟩, ⟨ra5, rn5, rc5⟩⟩) C2 O2.out hg1 t1 t2).mono ?_; rintro e w3 ⟨c, rfl, -, hc3, k3⟩)
    | (go_at_call 19; refine (l11Spoil_any hc3 c).mono ?_; rintro e w4 ⟨x, rfl, hc4, k4⟩)
  have K4 : KeepsBut g w1 w4 := (K2.out.trans k3).trans k4
  have R5 : Hid (Blk (w4.alloc (.cells (cc x) 25)) w.heap.size cc0) := (R1.out.but K4 (by omega)).alloc _
  have X5 : Hid (Blk (w4.alloc (.cells (cc x) 25)) w4.heap.size (cc x)) := Blk.new _ _ _
  have C5 := hc4.keeps ((Keeps.refl w4).alloc (.cells (cc x) 25))
  have K5 : Hid (KeepsBut g w1 (w4.alloc (.cells (cc x) 25))) := K4.trans (.of ((Keeps.refl w4).alloc _))
  have hsz := K4.size
  have hk1 := K1.size
  have hxg : w4.heap.size ≠ g := by omega
  have hxw : w4.heap.size ≠ w.heap.size := by omega
  have hxl : w1.heap.size ≤ w4.heap.size := hsz
  change Code.wp _ _ _ _ (w4.alloc (.cells (cc x) 25))
  clear k3 k4 K4 hc3 hc4 r1 r2 HX R1 K2 O2 C2
  generalize w4.alloc (.cells (cc x) 25) = U at *
  generalize w4.heap.size = xb at *
  go_upto_if 22 with (go_at_call 21; refine (l1Once_any g _ _ C5 (by omega) (by omega)).mono ?_; rintro e w6 ⟨b6, rfl, hc6, k6⟩)
  have R6 : Hid (Blk w6 w.heap.size cc0) := R5.out.but k6 (by omega)
  have X6 : Hid (Blk w6 xb (cc x)) := X5.out.but k6 hxg
  have K6 : Hid (KeepsBut g w1 w6) := K5.out.trans k6
  clear R5 X5 K5 C5 k6
  cases b6
  · obtain ⟨_, y1, y2⟩ := X6.out
    obtain ⟨_, y3, y4⟩ := R6.out
    dsimp only [cc] at y1
    dsimp only [cc0] at y3
    have D := R6.out.putC (cc x).toList rfl
    have KQ := Keeps.putC (b := w.heap.size) (Nat.le_refl _) (cc x).toList 0 (K6.out.keeps K1 (by omega))
    go_wp2
    change bodyPost _ _ _ _ _ (putC w6 w.heap.size 0 (cc x).toList)
    generalize putC w6 w.heap.size 0 (cc x).toList = Q at D KQ ⊢
    exact bodyPost_ret (v := ck x) (by simp [results, Tryz.results6, go_sem, D.cells]) rfl ⟨x, rfl, KQ⟩
  · go_upto_region 6 with (go_at_call 22; refine (l1PickInt_new (fun _ => True) g [-9, -10, 9999999, 10000000] _ _ _ _ _ w6 rfl hc6 rfl (by decide) (by decide) rfl (fun _ _ => trivial)).mono ?_; rintro e w7 ⟨z, rfl, -, hc7, k7⟩; obtain ⟨_, z1, z2⟩ := X6.out.but k7 hxg)
    have X8 : Hid (Blk (w7.setCell ⟨xb, 3, none⟩ (.int .i64 z)) xb (cc ⟨x.kind, x.no, x.cpu, z, x.b⟩)) := (X6.out.but k7 hxg).set 3 (by show 3 < 5; omega) _
    have R8 : Hid (Blk (w7.setCell ⟨xb, 3, none⟩ (.int .i64 z)) w.heap.size cc0) := (R6.out.but k7 (by omega)).far hxw _
    have K8 : Hid (KeepsBut g w1 (w7.setCell ⟨xb, 3, none⟩ (.int .i64 z))) := (K6.out.trans k7).setNew (p := ⟨xb, 3, none⟩) hxl _
    change Code.wp _ _ _ _ (w7.setCell ⟨xb, 3, none⟩ (.int .i64 z))
    clear z1 z2 k7 R6 X6 K6 hc6 hc7
    generalize w7.setCell ⟨xb, 3, none⟩ (.int .i64 z) = V at *
    obtain ⟨_, y1, y2⟩ := X8.out
    obtain ⟨_, y3, y4⟩ := R8.out
    dsimp only [cc] at y1
    dsimp only [cc0] at y3
    have D := R8.out.putC (cc ⟨x.kind, x.no, x.cpu, z, x.b⟩).toList rfl
    have KQ := Keeps.putC (b := w.heap.size) (Nat.le_refl _) (cc ⟨x.kind, x.no, x.cpu, z, x.b⟩).toList 0 (K8.out.keeps K1 (by omega))
    go_wp2
    change bodyPost _ _ _ _ _ (putC V w.heap.size 0 (cc ⟨x.kind, x.no, x.cpu, z, x.b⟩).toList)
    generalize putC V w.heap.size 0 (cc ⟨x.kind, x.no, x.cpu, z, x.b⟩).toList = Q at D KQ ⊢
    exact bodyPost_ret (v := ck ⟨x.kind, x.no, x.cpu, z, x.b⟩) (by simp [results, Tryz.results6, go_sem, D.cells]) rfl ⟨⟨x.kind, x.no, x.cpu, z, x.b⟩, rfl, KQ⟩
end Go.Proofs.YtpikopdfkhagmaaGreatDoor
