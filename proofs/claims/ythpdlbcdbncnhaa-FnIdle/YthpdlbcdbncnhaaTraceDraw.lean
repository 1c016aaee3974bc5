/-
  Drawn traces: the trace of a drawn run, mostly as it is.
-/
import Derived.Test.YthpdlbcdbncnhaaGCall4
import Derived.Test.YthpdlbcdbncnhaaCallLong
import Derived.Test.YthpdlbcdbncnhaaGSum1
import Derived.Test.YthpdlbcdbncnhaaGDraw2
import Derived.Test.YthpdlbcdbncnhaaGCall1
import Derived.Deep.Cut
import Derived.Deep.CutBlock
import Derived.Test.YthpdlbcdbncnhaaTracePure
namespace Go.Proofs.Ythpdlbcdbncnhaa
open Go.RowKit

/-- A trace that is being drawn: the cursor in block g, the system in block ob. -/
structure DT (w wr : World) (g ob : Nat) (v : Sv) (vs : List Lv) (s : Sy) : Prop where
  cur : Cur wr g
  kb : KeepsBut g w wr
  gl : g < w.heap.size
  own : OwnS wr w.heap.size v vs s
  box : Blk wr ob (syc s v)
  far : ∀ i, ¬ ofKind v vs i ob
  ol : w.heap.size ≤ ob
theorem DT.but {w wr : World} {g ob : Nat} {v : Sv} {vs : List Lv} {s : Sy} (h : DT w wr g ob v vs s) {wr' : World} (hc : Cur wr' g) (k : KeepsBut g wr wr') : DT w wr' g ob v vs s := by
  have hg := h.gl
  have ho := h.ol
  exact ⟨hc, h.kb.trans k, hg, h.own.butG k hg, h.box.but k (by omega), h.far, ho⟩
theorem DT.keeps {w wr : World} {g ob : Nat} {v : Sv} {vs : List Lv} {s : Sy} (h : DT w wr g ob v vs s) {wr' : World} (k : Keeps wr wr') : DT w wr' g ob v vs s := h.but (h.cur.keeps k) (.of k)
/-- The trace has grown, and is stored. -/
theorem DT.row {w wr : World} {g ob : Nat} {v : Sv} {vs : List Lv} {s : Sy} (h : DT w wr g ob v vs s) {w2 : World} {x : Value} {xs : List Tn} (O : Own 34 3 tnc w2 w.heap.size x xs) (G : wr.grownBy w2 v.r.val.ownBlock) (f : ∀ q, x.ownBlock = some q → v.r.val.ownBlock = some q ∨ q = wr.heap.size) :
    Own 34 3 tnc (w2.setCell ⟨ob, 8, none⟩ x) w.heap.size x xs ∧ Cur (w2.setCell ⟨ob, 8, none⟩ x) g ∧ KeepsBut g w (w2.setCell ⟨ob, 8, none⟩ x) ∧ (w2.setCell ⟨ob, 8, none⟩ x).cell? ⟨ob, 8, none⟩ = some x := by
  have hb := h.box.lt
  have hg := h.gl
  have ho := h.ol
  have hr : ∀ q, v.r.val.ownBlock = some q → w.heap.size ≤ q := fun q e => (h.own.blkLt (i := 4) (b := q) e).1
  have hx : ∀ q, x.ownBlock = some q → q ≠ ob := fun q e e2 => by
    rcases f q e with h2 | h2
    · exact h.far 4 (by rw [← e2]; exact h2)
    · omega
  have B := h.box.grown G (fun q e e2 => h.far 4 (by rw [← e2]; exact e))
  refine ⟨O.same fun b e => Below.heap_setCell _ _ _ _ (hx b e), (h.cur.grown G (fun k hk => by have := hr k hk; omega)).setNew (by omega) _ _, (h.kb.grown G (fun k hk => by have := hr k hk; omega)).setNew (by simp; omega) _, ?_⟩
  have := (B.set 8 (by show 8 < 9; omega) x).cells 8
  rw [this]
  simp [syc]
/-- A drawn trace. -/
def DrewT (g : Nat) (w : World) (e : Ending) (w' : World) : Prop := ∃ (xs : List Tn) (a : Option Addr) (n cap : Nat), e = .returned (.slice a n cap) ∧ xs.length = n ∧ n ≤ 6000 ∧ (∀ t ∈ xs, turnIn t) ∧ Own 34 3 tnc w' w.heap.size (.slice a n cap) xs ∧ Cur w' g ∧ KeepsBut g w w'
set_option maxRecDepth 100000 in
set_option linter.unusedSimpArgs false in
set_option maxHeartbeats 8000000 in
theorem l13DrawTrace_any {w : World} {g : Nat} (hc : Cur w g) (a : Option Addr) (n cap : Nat) (hn : n ≤ 1048576) :
    Calls Try.prog 18 #[.pointer (some ⟨g, 0, none⟩), .slice a n cap] w (DrewT g w) := by
  have hgl := hc.lt
  go_enter Try.func18, Try.ntmps18
  go_upto_region 2 with first
    | (go_at_call 27; refine (l1Long_any a n cap 30 80 _ hn (by omega) (by omega) (by omega)).mono ?_; rintro e w' ⟨most, rfl, hm0, hm1, hw'⟩; have hw2 := hw'.symm; subst hw2)
    | (go_at_call 26; refine (l11DrawRun_any hc most (by omega) (by omega)).mono ?_; rintro e w2 ⟨nn, cs, v0, vs0, v, vs, ra, rcap, lb, rfl, hn1, hfew, hlen, o0, o1, sm, orow, hlb, hlb2, hc2, k2⟩; obtain ⟨⟨ta3, tn3, tc3⟩, ⟨la3, ln3, lc3⟩, ⟨ga3, gn3, gc3⟩, ⟨fa3, fn3, fc3⟩, ⟨ra3, rn3, rc3⟩⟩ := v0; obtain ⟨⟨ta5, tn5, tc5⟩, ⟨la5, ln5, lc5⟩, ⟨ga5, gn5, gc5⟩, ⟨fa5, fn5, fc5⟩, ⟨ra5, rn5, rc5⟩⟩ := v)
  have HL : Hid (Low (runS (newS nn) cs)) := run_low hfew
  obtain ⟨s, Hs⟩ : ∃ s, Hid (runS (newS nn) cs = s) := ⟨_, rfl⟩
  rw [Hs.out] at o1 sm HL ⊢
  have D2 : Hid (DT w ((w2.alloc (.cells (syc (newS nn) ⟨⟨ta3, tn3, tc3⟩, ⟨la3, ln3, lc3⟩, ⟨ga3, gn3, gc3⟩, ⟨fa3, fn3, fc3⟩, ⟨ra3, rn3, rc3⟩⟩) 57)).alloc (.cells (syc s ⟨⟨ta5, tn5, tc5⟩, ⟨la5, ln5, lc5⟩, ⟨ga5, gn5, gc5⟩, ⟨fa5, fn5, fc5⟩, ⟨ra5, rn5, rc5⟩⟩) 57)) g (w2.heap.size + 1) ⟨⟨ta5, tn5, tc5⟩, ⟨la5, ln5, lc5⟩, ⟨ga5, gn5, gc5⟩, ⟨fa5, fn5, fc5⟩, ⟨ra5, rn5, rc5⟩⟩ vs s) := by
    have hs2 := k2.size
    have kA : Keeps w2 ((w2.alloc (.cells (syc (newS nn) ⟨⟨ta3, tn3, tc3⟩, ⟨la3, ln3, lc3⟩, ⟨ga3, gn3, gc3⟩, ⟨fa3, fn3, fc3⟩, ⟨ra3, rn3, rc3⟩⟩) 57)).alloc (.cells (syc s ⟨⟨ta5, tn5, tc5⟩, ⟨la5, ln5, lc5⟩, ⟨ga5, gn5, gc5⟩, ⟨fa5, fn5, fc5⟩, ⟨ra5, rn5, rc5⟩⟩) 57)) := ((Keeps.refl w2).alloc _).alloc _
    refine ⟨hc2.keeps kA, k2.trans (.of kA), hgl, o1.keeps kA, ?_, fun i hi => by have := (o1.blkLt hi).2; omega, by omega⟩
    have := Blk.new (w2.alloc (.cells (syc (newS nn) ⟨⟨ta3, tn3, tc3⟩, ⟨la3, ln3, lc3⟩, ⟨ga3, gn3, gc3⟩, ⟨fa3, fn3, fc3⟩, ⟨ra3, rn3, rc3⟩⟩) 57)) (syc s ⟨⟨ta5, tn5, tc5⟩, ⟨la5, ln5, lc5⟩, ⟨ga5, gn5, gc5⟩, ⟨fa5, fn5, fc5⟩, ⟨ra5, rn5, rc5⟩⟩) 57
    simpa using this
  change Code.wp _ _ _ _ ((w2.alloc (.cells (syc (newS nn) ⟨⟨ta3, tn3, tc3⟩, ⟨la3, ln3, lc3⟩, ⟨ga3, gn3, gc3⟩, ⟨fa3, fn3, fc3⟩, ⟨ra3, rn3, rc3⟩⟩) 57)).alloc (.cells (syc s ⟨⟨ta5, tn5, tc5⟩, ⟨la5, ln5, lc5⟩, ⟨ga5, gn5, gc5⟩, ⟨fa5, fn5, fc5⟩, ⟨ra5, rn5, rc5⟩⟩) 57))
  clear hc2 k2 o0 o1 orow hlb hlb2 hfew hlen hc
  generalize ((w2.alloc (.cells (syc (newS nn) ⟨⟨ta3, tn3, tc3⟩, ⟨la3, ln3, lc3⟩, ⟨ga3, gn3, gc3⟩, ⟨fa3, fn3, fc3⟩, ⟨ra3, rn3, rc3⟩⟩) 57)).alloc (.cells (syc s ⟨⟨ta5, tn5, tc5⟩, ⟨la5, ln5, lc5⟩, ⟨ga5, gn5, gc5⟩, ⟨fa5, fn5, fc5⟩, ⟨ra5, rn5, rc5⟩⟩) 57)) = X2 at *
  generalize w2.heap.size + 1 = ob at *
  have HR : Hid (s.trace.length = rn5) := (D2.out.own.r.row tnc_size).1
  have hr5 : rn5 ≤ 5000 := by obtain ⟨sz1, sz2, sz3⟩ := sm; have := HR.out; unfold sizeS at sz3; omega
  clear sm
  go_upto_if 17 with (go_at_call 28; refine (l1Once_any g _ _ D2.out.cur (by omega) (by omega)).mono ?_; rintro e w5 ⟨m, rfl, hc5, k5⟩)
  have D5 : Hid (DT w w5 g ob ⟨⟨ta5, tn5, tc5⟩, ⟨la5, ln5, lc5⟩, ⟨ga5, gn5, gc5⟩, ⟨fa5, fn5, fc5⟩, ⟨ra5, rn5, rc5⟩⟩ vs s) := D2.out.but hc5 k5
  clear D2 hc5 k5
  cases m
  · obtain ⟨_, b1, b2⟩ := D5.out.box
    dsimp only [syc] at b1
    go_wp2
    go_ret
    exact ⟨s.trace, ra5, rn5, rc5, rfl, HR.out, by omega, HL.out.2, D5.out.own.r, D5.out.cur, D5.out.kb⟩
  · have D0 := D5.out.keeps (Keeps.refl w5).drew
    have e0 : ∀ w', Blk w' ob (syc s ⟨⟨ta5, tn5, tc5⟩, ⟨la5, ln5, lc5⟩, ⟨ga5, gn5, gc5⟩, ⟨fa5, fn5, fc5⟩, ⟨ra5, rn5, rc5⟩⟩) → ∀ q, w'.cell? ⟨ob, q, none⟩ = (syc s ⟨⟨ta5, tn5, tc5⟩, ⟨la5, ln5, lc5⟩, ⟨ga5, gn5, gc5⟩, ⟨fa5, fn5, fc5⟩, ⟨ra5, rn5, rc5⟩⟩)[q]? := fun w' hh => hh.cells
    dsimp only [syc] at e0
    go_upto_region 3 with fail
    refine wp_region_late 12 (S := (fun w' => Blk w' ob (syc s ⟨⟨ta5, tn5, tc5⟩, ⟨la5, ln5, lc5⟩, ⟨ga5, gn5, gc5⟩, ⟨fa5, fn5, fc5⟩, ⟨ra5, rn5, rc5⟩⟩))) (by kernel_rfl) ?_ (fun hHeld => ?_)
    · exact D5.out.box.keeps (Keeps.refl _).drew
    refine late_take (i := 0) (v := ?_) (by simp only [List.getElem?_toArray, List.getElem?_cons_zero]; rfl) (by kernel_rfl) (by kernel_rfl) (by kernel_rfl) (by kernel_rfl) (by exact fun _ _ _ h => h) (Or.inl ⟨by rfl, ?_⟩) (by assumption) ?_
    rotate_left
    · (intro w hSw; (try dsimp only at hSw); go_simp; try (with_reducible rfl))
    try simp only [putAtH]
    refine late_take (i := 1) (v := ?_) (by simp only [List.getElem?_toArray, List.getElem?_cons_succ, List.getElem?_cons_zero]; rfl) (by kernel_rfl) (by kernel_rfl) (by kernel_rfl) (by kernel_rfl) (by exact fun _ _ _ h => h) (Or.inl ⟨by rfl, ?_⟩) (by assumption) ?_
    rotate_left
    · (intro w hSw; (try dsimp only at hSw); go_simp; try (with_reducible rfl))
    try simp only [putAtH]
    refine late_take (i := 2) (v := ?_) (by simp only [List.getElem?_toArray, List.getElem?_cons_succ, List.getElem?_cons_zero]; rfl) (by kernel_rfl) (by kernel_rfl) (by kernel_rfl) (by kernel_rfl) (by exact fun _ _ _ h => h) (Or.inl ⟨by rfl, ?_⟩) (by assumption) ?_
    rotate_left
    · (intro w hSw; (try dsimp only at hSw); go_simp; try (with_reducible rfl))
    try simp only [putAtH]
    refine late_take (i := 4) (v := ?_) (by simp only [List.getElem?_toArray, List.getElem?_cons_succ, List.getElem?_cons_zero]; rfl) (by kernel_rfl) (by kernel_rfl) (by kernel_rfl) (by kernel_rfl) (by exact fun _ _ _ h => h) (Or.inl ⟨by rfl, ?_⟩) (by assumption) ?_
    rotate_left
    · (intro w hSw; (try dsimp only at hSw); go_simp; try (with_reducible rfl))
    try simp only [putAtH]
    refine late_take (i := 6) (v := ?_) (by simp only [List.getElem?_toArray, List.getElem?_cons_succ, List.getElem?_cons_zero]; rfl) (by kernel_rfl) (by kernel_rfl) (by kernel_rfl) (by kernel_rfl) (by exact fun _ _ _ h => h) (Or.inl ⟨by rfl, ?_⟩) (by assumption) ?_
    rotate_left
    · (intro w hSw; (try dsimp only at hSw); go_simp; try (with_reducible rfl))
    try simp only [putAtH]
    refine late_step (i := 3) (by kernel_rfl) (by simp only [List.getElem?_toArray, List.getElem?_cons_succ, List.getElem?_cons_zero]; rfl) (fun K hK => ?_)
    go_simp
    first
        | (have k0 := D0; clear D0; go_at_call 19; refine (l1Below_any g _ _ k0.cur (by omega) (by omega)).mono ?_; rintro e wA ⟨mA, rfl, mA0, mA1, hcA, kA⟩; have DA := k0.but hcA kA; have BA := DA.box; clear k0)
        | (have k0 := DA; clear DA; go_at_call 19; refine (l1Below_any g _ _ k0.cur (by omega) (by omega)).mono ?_; rintro e wB ⟨mB, rfl, mB0, mB1, hcB, kB⟩; have DB := k0.but hcB kB; have BB := DB.box; clear k0)
        | (have k0 := DB; clear DB; go_at_call 19; refine (l1Below_any g _ _ k0.cur (by omega) (by omega)).mono ?_; rintro e wC ⟨mC, rfl, mC0, mC1, hcC, kC⟩; have DC := k0.but hcC kC; have BC := DC.box; clear k0)
    try go_wp2_with fail
    refine hK.out _ _ ?_ (fun hHeld => ?_)
    · assumption
    clear hK K
    try simp only [putAtH]
    refine late_step (i := 5) (by kernel_rfl) (by simp only [List.getElem?_toArray, List.getElem?_cons_succ, List.getElem?_cons_zero]; rfl) (fun K hK => ?_)
    go_simp
    first
        | (have k0 := D0; clear D0; go_at_call 19; refine (l1Below_any g _ _ k0.cur (by omega) (by omega)).mono ?_; rintro e wA ⟨mA, rfl, mA0, mA1, hcA, kA⟩; have DA := k0.but hcA kA; have BA := DA.box; clear k0)
        | (have k0 := DA; clear DA; go_at_call 19; refine (l1Below_any g _ _ k0.cur (by omega) (by omega)).mono ?_; rintro e wB ⟨mB, rfl, mB0, mB1, hcB, kB⟩; have DB := k0.but hcB kB; have BB := DB.box; clear k0)
        | (have k0 := DB; clear DB; go_at_call 19; refine (l1Below_any g _ _ k0.cur (by omega) (by omega)).mono ?_; rintro e wC ⟨mC, rfl, mC0, mC1, hcC, kC⟩; have DC := k0.but hcC kC; have BC := DC.box; clear k0)
    try go_wp2_with fail
    refine hK.out _ _ ?_ (fun hHeld => ?_)
    · assumption
    clear hK K
    try simp only [putAtH]
    refine late_step (i := 7) (by kernel_rfl) (by simp only [List.getElem?_toArray, List.getElem?_cons_succ, List.getElem?_cons_zero]; rfl) (fun K hK => ?_)
    go_simp
    first
        | (have k0 := D0; clear D0; go_at_call 19; refine (l1Below_any g _ _ k0.cur (by omega) (by omega)).mono ?_; rintro e wA ⟨mA, rfl, mA0, mA1, hcA, kA⟩; have DA := k0.but hcA kA; have BA := DA.box; clear k0)
        | (have k0 := DA; clear DA; go_at_call 19; refine (l1Below_any g _ _ k0.cur (by omega) (by omega)).mono ?_; rintro e wB ⟨mB, rfl, mB0, mB1, hcB, kB⟩; have DB := k0.but hcB kB; have BB := DB.box; clear k0)
        | (have k0 := DB; clear DB; go_at_call 19; refine (l1Below_any g _ _ k0.cur (by omega) (by omega)).mono ?_; rintro e wC ⟨mC, rfl, mC0, mC1, hcC, kC⟩; have DC := k0.but hcC kC; have BC := DC.box; clear k0)
    try go_wp2_with fail
    refine hK.out _ _ ?_ (fun hHeld => ?_)
    · assumption
    clear hK K
    try simp only [putAtH]
    refine late_take (i := 8) (v := ?_) (by simp only [List.getElem?_toArray, List.getElem?_cons_succ, List.getElem?_cons_zero]; rfl) (by kernel_rfl) (by kernel_rfl) (by kernel_rfl) (by kernel_rfl) (by exact fun _ _ _ h => h) (Or.inl ⟨by rfl, ?_⟩) (by assumption) ?_
    rotate_left
    · (intro w hSw; (try dsimp only at hSw); go_simp; try (with_reducible rfl))
    try simp only [putAtH]
    refine late_step (i := 9) (by kernel_rfl) (by simp only [List.getElem?_toArray, List.getElem?_cons_succ, List.getElem?_cons_zero]; rfl) (fun K hK => ?_)
    go_simp
    try go_wp2_with fail
    refine hK.out _ _ ?_ (fun hHeld => ?_)
    · exact BC.keeps ((Keeps.refl _).alloc _)
    clear hK K
    try simp only [putAtH]
    refine late_step (i := 10) (by kernel_rfl) (by simp only [List.getElem?_toArray, List.getElem?_cons_succ, List.getElem?_cons_zero]; rfl) (fun K hK => ?_)
    (refine step_pushAll rfl (.tmp 19) (.tmp 27) 25 rfl w.heap.size 34 (.agg (tnc Tn.zero)) 3 24 tnc Try.underlying25 (by kernel_rfl) rfl (by decide) tnc_size tnc_one (.slice ra5 rn5 rc5) s.trace (by simp [Act.eval]) (DC.own.r.keeps ((Keeps.refl _).alloc _)) (by have := DC.kb.size; simp; omega) [⟨mA, mB, mC⟩] _ 0 1 (lies_blk (Blk.new _ _ _)) (by simp [Act.eval]) (by simp [maxLen]; have := HR.out; omega) (by simp; have := HR.out; omega) ?_; intro v7 w7 o7 g7 f7; obtain ⟨a7, c7, e7⟩ := o7.form tnc_size; obtain ⟨m7, Hm7⟩ : ∃ m, Hid ((s.trace ++ [(⟨mA, mB, mC⟩ : Tn)]).length = m) := ⟨_, rfl⟩; rw [Hm7.out] at e7; subst e7; have D7 := (DC.keeps ((Keeps.refl wC).alloc _)).row o7 g7 f7)
    refine hK.out _ _ ?_ (fun hHeld => ?_)
    · exact (DC.box.keeps ((Keeps.refl wC).alloc _)).grown g7 (fun q e e2 => DC.far 4 (by rw [← e2]; exact e))
    clear hK K
    try simp only [putAtH]
    refine late_take (i := 11) (v := ?_) (by simp only [List.getElem?_toArray, List.getElem?_cons_succ, List.getElem?_cons_zero]; rfl) (by kernel_rfl) (by kernel_rfl) (by kernel_rfl) (by kernel_rfl) (by exact fun _ _ _ h => h) (Or.inl ⟨by rfl, ?_⟩) (by assumption) ?_
    rotate_left
    · (intro w hSw; (try dsimp only at hSw); go_simp; try (with_reducible rfl))
    try simp only [putAtH]
    refine late_last (by kernel_rfl) (by simp only [List.getElem?_toArray, List.getElem?_cons_succ, List.getElem?_cons_zero]; rfl) (by kernel_rfl) (fun K hK => ?_)
    have BX : Blk w7 ob (syc s ⟨⟨ta5, tn5, tc5⟩, ⟨la5, ln5, lc5⟩, ⟨ga5, gn5, gc5⟩, ⟨fa5, fn5, fc5⟩, ⟨ra5, rn5, rc5⟩⟩) := (by assumption); obtain ⟨_, z1, z2⟩ := BX; dsimp only [syc] at z1
    go_simp
    try go_wp2_with fail
    refine hK.out _ _ ?_
    clear hK K
    try simp only [putAtH]
    obtain ⟨O8, C8, K8, c8⟩ := D7
    have HO : Hid (Own 34 3 tnc (w7.setCell ⟨ob, 8, none⟩ (.slice a7 m7 c7)) w.heap.size (.slice a7 m7 c7) (s.trace ++ [(⟨mA, mB, mC⟩ : Tn)])) := O8
    clear O8 e0
    generalize w7.setCell ⟨ob, 8, none⟩ (.slice a7 m7 c7) = Y at *
    go_wp2
    go_ret
    refine ⟨_, a7, m7, c7, rfl, Hm7.out, ?_, ?_, HO.out, C8, K8⟩
    · have h1 := Hm7.out
      have h2 := HR.out
      simp at h1
      omega
    · intro t ht
      rcases List.mem_append.1 ht with h1 | h1
      · exact HL.out.2 t h1
      · obtain rfl : t = ⟨mA, mB, mC⟩ := by simpa using h1
        exact ⟨⟨by show (0 : Int) ≤ mA; omega, by show mA < 4; omega⟩, by show (0 : Int) ≤ mB; omega, by show mB ≤ 40; omega⟩
/-- A drawn trace with a number. -/
def DrewTZ (w : World) (e : Ending) (w' : World) : Prop := ∃ (xs : List Tn) (a : Option Addr) (n cap : Nat) (z : Int), e = .returned (.tuple #[.slice a n cap, .int .i64 z]) ∧ xs.length = n ∧ n ≤ 6000 ∧ (∀ t ∈ xs, turnIn t) ∧ Own 34 3 tnc w' w.heap.size (.slice a n cap) xs ∧ Keeps w w'
set_option maxRecDepth 100000 in
set_option maxHeartbeats 4000000 in
theorem drawIdleOn_any (a : Option Addr) (n cap : Nat) (w : World) (hn : n ≤ 1048576) (hb : ∀ g, w.heap.size ≤ g → Bytes g w a n) :
    Calls Try.prog 11 #[.slice a n cap] w (DrewTZ w) := by
  go_enter Try.func11, Try.ntmps11
  go_wp2_with fail
  refine (l1New_any a n cap _ hn hb).mono ?_
  rintro e w1 ⟨g, rfl, hg, hc1, k1⟩
  clear hb
  have hg1 := hc1.lt
  have hs1 := k1.size
  go_upto_region 3 with (go_at_call 18; refine (l13DrawTrace_any hc1 a n cap hn).mono ?_; rintro e w2 ⟨xs, xa, xn, xc, rfl, hx, hx2, hx3, o2, hc2, k2⟩)
  have HT : Hid (∀ t ∈ xs, turnIn t) := hx3
  have HX : Hid (xs.length = xn) := hx
  have O2 : Hid (Own 34 3 tnc w2 w1.heap.size (.slice xa xn xc) xs) := o2
  clear hx hx3 o2
  go_wp2_with (first
    | (go_at_call 19; have q0 := hc2; clear hc2; refine (l1Below_any g _ _ q0 (by omega) (by omega)).mono ?_; rintro e w3 ⟨z3, rfl, z30, z31, hc3, k3⟩)
    | (go_at_call 19; have q1 := hc3; clear hc3; refine (l1Below_any g _ _ q1 (by omega) (by omega)).mono ?_; rintro e w4 ⟨z4, rfl, z40, z41, hc4, k4⟩; have hq : z4.tdiv 19 = 0 ∨ z4.tdiv 19 = 1 := (by rw [Int.tdiv_eq_ediv_of_nonneg z40]; omega); obtain ⟨d, Hd⟩ : ∃ d, Hid (z4.tdiv 19 = d) := ⟨_, rfl⟩; rw [Hd.out] at hq))
  have K4 := (k2.trans k3).trans k4
  go_ret2
  exact ⟨xs, xa, xn, xc, _, rfl, HX.out, hx2, HT.out, ((O2.out.butG k3 (by omega)).butG k4 (by omega)).base hs1, K4.keeps k1 (by omega)⟩
end Go.Proofs.Ythpdlbcdbncnhaa
