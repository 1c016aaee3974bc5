/-
  The program's CallParse: a panic on the way is recovered.
-/
import Derived.Test.YtpikopdfkhagmaaDoorImplCallOn
import Derived.Defers
import Derived.Recover
namespace Go.Proofs.YtpikopdfkhagmaaDoor
open Go.RowKit
attribute [local go_sem] Keeps.refl Keeps.alloc Keeps.drew Keeps.drewN

set_option maxRecDepth 100000 in
set_option linter.unusedSimpArgs false in
set_option maxHeartbeats 2000000 in
theorem catch_panicking (b bo : Nat) (hne : b ≠ bo) (u : TypeId) (pv : Value) (older : List PanicEntry) (w : World) (hb : Blk w b zcc) (ho : Blk w bo #[.bool false]) :
    CallsD Tryd.prog 29 #[.pointer (some ⟨b, 0, none⟩), .pointer (some ⟨bo, 0, none⟩)] (.panicking ({ v := .iface u pv, recovered := false } :: older)) w fun e u' w' =>
      e = .returned (.tuple #[]) ∧ u' = .panicking ({ v := .iface u pv, recovered := true } :: older) ∧ w' = (putC w b 0 zcc.toList).setCell ⟨bo, 0, none⟩ (.bool false) := by
  obtain ⟨_, z1, z2⟩ := hb
  obtain ⟨_, z3, z4⟩ := ho
  refine callsD_of_wpS Tryd.func29 rfl fun c₀ cs hu => ?_
  apply wpS_seq
  apply wpS_region
  simp [wpOpsS, go_sem, recoverD, hu, Tryd.ntmps29, Exit.thenS]
  refine wpS_cond (t := true) (by simp [Act.eval, Array.replicate]) ?_
  simp only [if_true]
  apply wpS_region
  simp [wpOpsS, go_sem, z1, z2, z3, z4, hne, Ne.symm hne, bodyPostS, results, Tryd.results29]
  rfl
set_option maxRecDepth 100000 in
theorem catch_idle (p q : Addr) (w : World) :
    CallsD Tryd.prog 29 #[.pointer (some p), .pointer (some q)] .returning w fun e u' w' => e = .returned (.tuple #[]) ∧ u' = .returning ∧ w' = w := by
  refine callsD_of_wpS Tryd.func29 rfl fun c₀ cs hu => ?_
  apply wpS_seq
  apply wpS_region
  simp [wpOpsS, go_sem, recoverD, hu, Tryd.ntmps29, Exit.thenS]
  refine wpS_cond (t := false) (by simp [Act.eval, Array.replicate]) ?_
  simp only [Bool.false_eq_true, if_false]
  refine wpS_of_wp (wp_skip ?_)
  cases c₀
  simp_all [bodyPostS, results, Tryd.results29]
set_option maxRecDepth 100000 in
set_option maxHeartbeats 4000000 in
theorem implCallParse_any (l : List UInt8) (w : World) (hg : GlobT w) (hgl : GlobL w) (hl : l.length ≤ 1048576) :
    Calls Tryd.prog 10 #[strV l] w fun e w' => e = .returned (.tuple #[ck (parseC l), .bool (parseB l)]) ∧ Keeps w w' := by
  have hmf : ∀ (fn : Fn) (first cap : Array Value) (w : World), (Instr.makeFunc fn first cap).run Tryd.prog w = .ok (.func fn first cap) w := fun _ _ _ _ => rfl
  have kW : Keeps w ((w.alloc (.cells zcc 26)).alloc (.cells #[.bool false] 4)) := ((Keeps.refl w).alloc _).alloc _
  have cO := implCallOn_any l ((w.alloc (.cells zcc 26)).alloc (.cells #[.bool false] 4)) (hg.keeps kW) (hgl.keeps kW) hl
  have B0 : Hid (Blk ((w.alloc (.cells zcc 26)).alloc (.cells #[.bool false] 4)) w.heap.size zcc) := (Blk.new _ _ _).alloc _
  have B1 : Hid (Blk ((w.alloc (.cells zcc 26)).alloc (.cells #[.bool false] 4)) (w.heap.size + 1) #[.bool false]) := by
    have := Blk.new (w.alloc (.cells zcc 26)) #[.bool false] 4
    show Blk _ _ _
    simpa using this
  cases hp : parseO l with
  | some c =>
    have HR : Hid (parseB l = true ∧ parseC l = c) := parse_yes hp
    go_enter_defers Tryd.func10, Tryd.ntmps10
    go_wp2_with fail
    change Calls _ _ _ ((w.alloc (.cells zcc 26)).alloc (.cells #[.bool false] 4)) _
    generalize (w.alloc (.cells zcc 26)).alloc (.cells #[.bool false] 4) = W at *
    refine cO.mono ?_
    rintro e w2 ⟨h2, k2⟩
    obtain rfl : e = .returned (ck c) := by
      rcases h2 with ⟨c', e1, h⟩ | ⟨e1, h⟩
      · rw [hp] at e1
        cases e1
        exact h
      · rw [hp] at e1
        cases e1
    have C0 := B0.out.keeps k2
    have C1 := B1.out.keeps k2
    have D0 : Hid (Blk ((putC w2 w.heap.size 0 (cc c).toList).setCell ⟨w.heap.size + 1, 0, none⟩ (.bool true)) w.heap.size (cc c)) := ((C0.putC (cc c).toList rfl).far (by simp) _)
    have D1 : Hid (Blk ((putC w2 w.heap.size 0 (cc c).toList).setCell ⟨w.heap.size + 1, 0, none⟩ (.bool true)) (w.heap.size + 1) #[.bool true]) := (Blk.farC (by omega) (cc c).toList 0 C1).set 0 (by simp) (.bool true)
    have D2 : Hid (Keeps w ((putC w2 w.heap.size 0 (cc c).toList).setCell ⟨w.heap.size + 1, 0, none⟩ (.bool true))) := (Keeps.putC (Nat.le_refl _) _ 0 (kW.trans k2)).setCell (by simp) _
    obtain ⟨_, z1, z2⟩ := C0
    obtain ⟨_, z3, z4⟩ := C1
    clear cO h2 B0 B1
    go_wp2
    change bodyPostD _ _ _ _ _ ((putC w2 w.heap.size 0 (cc c).toList).setCell ⟨w.heap.size + 1, 0, none⟩ (.bool true))
    generalize (putC w2 w.heap.size 0 (cc c).toList).setCell ⟨w.heap.size + 1, 0, none⟩ (.bool true) = Q at D0 D1 D2 ⊢
    refine leaves_cons (f := 29) (args := #[.pointer (some ⟨w.heap.size, 0, none⟩), .pointer (some ⟨w.heap.size + 1, 0, none⟩)]) (by simp) (by simp [go_sem]) ?_
    refine (catch_idle _ _ _).mono ?_
    rintro e u' w'' ⟨rfl, rfl, rfl⟩
    have y0 := D0.out.cells
    have y1 := D1.out.cells
    simp [Leaves, settle, results, Tryd.results10, go_sem, y0, y1, HR.out.1, HR.out.2, D2.out]
  | none =>
    have HR : Hid (parseB l = false ∧ parseC l = Cl.zero) := parse_no hp
    go_enter_defers Tryd.func10, Tryd.ntmps10
    go_wp2_with fail
    change Calls _ _ _ ((w.alloc (.cells zcc 26)).alloc (.cells #[.bool false] 4)) _
    generalize (w.alloc (.cells zcc 26)).alloc (.cells #[.bool false] 4) = W at *
    refine cO.mono ?_
    rintro e w2 ⟨h2, k2⟩
    obtain ⟨tp, pa, rfl⟩ : Fell e := by
      rcases h2 with ⟨c', e1, h⟩ | ⟨e1, h⟩
      · rw [hp] at e1
        cases e1
      · exact h
    have C0 := B0.out.keeps k2
    have C1 := B1.out.keeps k2
    have D0 : Hid (Blk ((putC w2 w.heap.size 0 zcc.toList).setCell ⟨w.heap.size + 1, 0, none⟩ (.bool false)) w.heap.size zcc) := ((C0.putC zcc.toList rfl).far (by simp) _)
    have D1 : Hid (Blk ((putC w2 w.heap.size 0 zcc.toList).setCell ⟨w.heap.size + 1, 0, none⟩ (.bool false)) (w.heap.size + 1) #[.bool false]) := (Blk.farC (by omega) zcc.toList 0 C1).set 0 (by simp) (.bool false)
    have D2 : Hid (Keeps w ((putC w2 w.heap.size 0 zcc.toList).setCell ⟨w.heap.size + 1, 0, none⟩ (.bool false))) := (Keeps.putC (Nat.le_refl _) _ 0 (kW.trans k2)).setCell (by simp) _
    clear cO h2 B0 B1
    go_wp2
    refine leaves_cons (f := 29) (args := #[.pointer (some ⟨w.heap.size, 0, none⟩), .pointer (some ⟨w.heap.size + 1, 0, none⟩)]) (by simp) (by simp [go_sem]) ?_
    refine (catch_panicking w.heap.size (w.heap.size + 1) (by omega) tp (.pointer (some pa)) [] w2 C0 C1).mono ?_
    rintro e u' w'' ⟨rfl, rfl, rfl⟩
    generalize (putC w2 w.heap.size 0 zcc.toList).setCell ⟨w.heap.size + 1, 0, none⟩ (.bool false) = Q at D0 D1 D2 ⊢
    have y0 := D0.out.cells
    have y1 := D1.out.cells
    simp [Leaves, settle, results, Tryd.results10, go_sem, y0, y1, HR.out.1, HR.out.2, D2.out, Cl.zero]
end Go.Proofs.YtpikopdfkhagmaaDoor
