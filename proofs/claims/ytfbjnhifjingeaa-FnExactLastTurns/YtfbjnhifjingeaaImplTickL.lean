/-
  The program's last turns.
-/
import Derived.Test.YtfbjnhifjingeaaGSys5
import Derived.Test.YtfbjnhifjingeaaGBase1
namespace Go.Proofs.Ytfbjnhifjingeaa
open Go.RowKit
attribute [local go_sem] Keeps.refl Keeps.alloc Keeps.drew Keeps.drewN

set_option maxRecDepth 100000 in
set_option maxHeartbeats 1000000 in
theorem copyTurns_any (a : Option Addr) (cap n : Nat) (rs : List Tn) (w : World) (hn : rs.length = n) (hl : n ≤ 2097152) (hs : Rs w a rs) :
    Calls Try.prog 60 #[.slice a n cap] w fun e w' => e = .returned (.slice (some ⟨w.heap.size, 0, none⟩) n n) ∧ Own 91 3 tnc w' w.heap.size (.slice (some ⟨w.heap.size, 0, none⟩) n n) rs ∧ Keeps w w' := by
  have Hn : Hid (rs.length = n) := hn
  clear hn
  obtain ⟨C, hC, hmk⟩ := run_make_any (P := Try.prog) 26 91 (.agg (tnc Tn.zero)) 3 24 Try.underlying26 (by kernel_rfl) n (by omega) (by omega)
  have hr0 := Row.new w C 91
  have hs0 := hs.keeps ((Keeps.refl w).alloc (.cells C 91))
  have HC : Hid (C.size = n * 3) := hC
  clear hC
  go_enter Try.func60, Try.ntmps60
  go_upto_region 2 with fail
  have kW : Keeps w (w.alloc (.cells C 91)) := (Keeps.refl w).alloc _
  clear hmk hs
  generalize w.alloc (.cells C 91) = W at *
  have hrun : ∀ ty, (Builtin.copy_ #[26, 26] ty #[.slice (some ⟨w.heap.size, 0, none⟩) n n, .slice a n cap]).run Try.prog W = .ok (goInt n) (W.setRow w.heap.size (setL C 0 (flatC tnc rs))) := fun ty => by
    have := run_copy_lies (P := Try.prog) tnc 3 tnc_size (by decide) tnc_one W 26 26 ty 91 (some ⟨w.heap.size, 0, none⟩) a n n n cap C 91 w.heap.size 0 rs Try.underlying26 (by kernel_rfl) hr0 (by rw [Hn.out]; simp) (fun _ => rfl) hs0 (by rw [Hn.out, HC.out]; omega)
    rwa [Hn.out] at this
  have R1 : Hid (Row (W.setRow w.heap.size (setL C 0 (flatC tnc rs))) w.heap.size 91 (flatC tnc rs).toArray) := by
    have e := setL_all (L := flatC tnc rs) (C := C) (by rw [flatC_length tnc_size, Hn.out, HC.out])
    have := hr0.setRow (setL C 0 (flatC tnc rs))
    show Row _ _ _ _
    rw [← e]; exact this
  have K1 : Hid (Keeps w (W.setRow w.heap.size (setL C 0 (flatC tnc rs)))) := kW.setRow (Nat.le_refl _) _
  clear hr0 hs0 kW
  generalize W.setRow w.heap.size (setL C 0 (flatC tnc rs)) = X at *
  go_wp2
  go_ret
  refine ⟨rfl, ?_, K1.out⟩
  have := R1.out.own (sz := 3) tnc_size (base := w.heap.size) (Nat.le_refl _) (by rw [Hn.out]; unfold maxLen; omega)
  rwa [Hn.out] at this

set_option maxRecDepth 100000 in
set_option maxHeartbeats 1000000 in
theorem implLastTurns_says : SaysLastTurns := by
  intro w v s h hr
  have hm1 : v.r.n ≤ 2000000 := by have := h.size; have := h.lay.rl; unfold sizeS at *; omega
  have kW : Keeps w (w.alloc (.cells (syc s v) 28)) := (Keeps.refl w).alloc _
  have hb : ∀ w', Keeps (w.alloc (.cells (syc s v) 28)) w' → ∀ j, w'.cell? ⟨w.heap.size, j, none⟩ = (syc s v)[j]? := fun w' k => ((Blk.new w (syc s v) 28).keeps k).cells
  have HS : Hid (SysOn (w.alloc (.cells (syc s v) 28)) v s) := h.keeps kW
  clear h
  obtain ⟨hr1, hr2⟩ := hr
  by_cases hc : s.cpus < 1
  · have HL : Hid (lastsL s = []) := by
      show _ = _
      unfold lastsL
      rw [show s.cpus.toNat = 0 from by omega]
      simp
    go_enter Try.func25, Try.ntmps25
    go_wp2
    go_ret
    exact ⟨_, rfl, by rw [HL.out]; exact World.ownsRow_nil _ _ _ _, kW⟩
  have hcd : decide (s.cpus < 1) = false := by simpa using hc
  have ew : IntKind.i64.wrap ((v.r.n : Int) - s.cpus) = (v.r.n : Int) - s.cpus := Go.IntWalk.i64_in _ (by omega)
  obtain ⟨f, Hf⟩ : ∃ f : Nat, Hid (((v.r.n : Int) - s.cpus).toNat = f) := ⟨_, rfl⟩
  have hf : f ≤ v.r.n := by have := Hf.out; omega
  obtain ⟨D, HD⟩ : ∃ D, Hid (s.trace.drop f = D) := ⟨_, rfl⟩
  have HL : Hid (lastsL s = D) := by
    show _ = _
    rw [← HD.out]
    have h1 := HS.out.lay.rl
    have h3 := Hf.out
    unfold lastsL
    rw [h1, show v.r.n - s.cpus.toNat = f from by omega]
  have hd : Hid (D.length = v.r.n - f) := by show _ = _; rw [← HD.out, List.length_drop, HS.out.lay.rl]
  have Hr : Hid (Rs (w.alloc (.cells (syc s v) 28)) v.r.a s.trace) := HS.out.lay.r
  have hpl := HS.out.rc
  clear HS
  have CT : Hid (∀ (a : Option Addr) (cap n : Nat), D.length = n → n ≤ 2097152 → Rs (w.alloc (.cells (syc s v) 28)) a D → Calls Try.prog 60 #[.slice a n cap] (w.alloc (.cells (syc s v) 28)) fun e w' => ∃ u, e = .returned u ∧ Own 91 3 tnc w' w.heap.size u D ∧ Keeps (w.alloc (.cells (syc s v) 28)) w') := fun a cap n h1 h2 h3 => (copyTurns_any a cap n D _ h1 h2 h3).mono fun e w' ⟨h4, h5, h6⟩ => ⟨_, h4, h5.base kW.size, h6⟩
  by_cases hlt : s.cpus < (v.r.n : Int)
  · rcases hpl with ⟨e1, e2, e3⟩ | ⟨b, off, e1, hb', hle⟩
    · omega
    have HC : Hid (Calls Try.prog 60 #[.slice (some ⟨b, off + f * 3, none⟩) (v.r.n - f) (v.r.cap - f)] (w.alloc (.cells (syc s v) 28)) fun e w' => ∃ u, e = .returned u ∧ Own 91 3 tnc w' w.heap.size u D ∧ Keeps (w.alloc (.cells (syc s v) 28)) w') := CT.out _ _ _ hd.out (by omega) (by
        have := Hr.out
        rw [e1] at this
        rw [← HD.out]
        exact this.drop f)
    have hfl : f < v.r.cap := by have := Hf.out; omega
    have ef : ((v.r.n : Int) - s.cpus).toNat = f := Hf.out
    clear CT
    go_enter Try.func25, Try.ntmps25
    go_wp2_with fail
    generalize w.alloc (.cells (syc s v) 28) = W at *
    go_wp2_with (go_at_call 60; refine HC.out.mono ?_; rintro e w5 ⟨u, rfl, o5, k5⟩; have O5 : Hid (Own 91 3 tnc w5 w.heap.size u (lastsL s)) := (by rw [HL.out]; exact o5); clear o5)
    go_ret
    exact ⟨_, rfl, O5.out, kW.trans k5⟩
  · have hlt' : decide (s.cpus < (v.r.n : Int)) = false := by simpa using hlt
    have hf0 : f = 0 := by have := Hf.out; omega
    have HD0 : Hid (D = s.trace) := by show _ = _; rw [← HD.out, hf0]; rfl
    rcases hpl with ⟨e1, e2, e3⟩ | ⟨b, off, e1, hb', hle⟩
    · have HC : Hid (Calls Try.prog 60 #[.slice none 0 0] (w.alloc (.cells (syc s v) 28)) fun e w' => ∃ u, e = .returned u ∧ Own 91 3 tnc w' w.heap.size u D ∧ Keeps (w.alloc (.cells (syc s v) 28)) w') := CT.out none 0 0 (by rw [hd.out]; omega) (by omega) (.inl (List.length_eq_zero_iff.1 (by rw [hd.out]; omega)))
      clear CT
      go_enter Try.func25, Try.ntmps25
      go_wp2_with fail
      generalize w.alloc (.cells (syc s v) 28) = W at *
      go_wp2_with (go_at_call 60; refine HC.out.mono ?_; rintro e w5 ⟨u, rfl, o5, k5⟩; have O5 : Hid (Own 91 3 tnc w5 w.heap.size u (lastsL s)) := (by rw [HL.out]; exact o5); clear o5)
      go_ret
      exact ⟨_, rfl, O5.out, kW.trans k5⟩
    · have HC : Hid (Calls Try.prog 60 #[.slice (some ⟨b, off, none⟩) v.r.n v.r.cap] (w.alloc (.cells (syc s v) 28)) fun e w' => ∃ u, e = .returned u ∧ Own 91 3 tnc w' w.heap.size u D ∧ Keeps (w.alloc (.cells (syc s v) 28)) w') := CT.out _ _ _ (by rw [hd.out]; omega) (by omega) (by rw [HD0.out, ← e1]; exact Hr.out)
      clear CT hf0
      go_enter Try.func25, Try.ntmps25
      go_wp2_with fail
      generalize w.alloc (.cells (syc s v) 28) = W at *
      go_wp2_with (go_at_call 60; refine HC.out.mono ?_; rintro e w5 ⟨u, rfl, o5, k5⟩; have O5 : Hid (Own 91 3 tnc w5 w.heap.size u (lastsL s)) := (by rw [HL.out]; exact o5); clear o5)
      go_ret
      exact ⟨_, rfl, O5.out, kW.trans k5⟩
end Go.Proofs.Ytfbjnhifjingeaa
