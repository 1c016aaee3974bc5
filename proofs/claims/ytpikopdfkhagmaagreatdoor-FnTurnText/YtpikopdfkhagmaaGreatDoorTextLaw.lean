/-
  Drawn traces: the trace of a drawn run, mostly as it is.
  A row of turns of one's own.
  Drawn turns for their text: the first nine of a drawn trace, now and then one more.
  How many blanks and colons the text of turns has.
  The law FnTurnText: its walk.
-/
import Derived.Test.YtpikopdfkhagmaaGreatDoorCallDraw2
import Derived.Test.YtpikopdfkhagmaaGreatDoorCur
import Derived.Test.YtpikopdfkhagmaaGreatDoorSum
import Derived.Test.YtpikopdfkhagmaaGreatDoorTaskMark
import Derived.Test.YtpikopdfkhagmaaGreatDoorLate2
import Derived.Deep.Cut
import Derived.Deep.CutBlock
import Derived.Test.YtpikopdfkhagmaaGreatDoorTracePure
import Derived.Test.YtpikopdfkhagmaaGreatDoorSysBase
import Derived.Test.YtpikopdfkhagmaaGreatDoorTaskSpec
import Derived.Test.YtpikopdfkhagmaaGreatDoorDeskNum
import Derived.Test.YtpikopdfkhagmaaGreatDoorDeskParseP
import Derived.Test.YtpikopdfkhagmaaGreatDoorImplTurn
namespace Go.Proofs.YtpikopdfkhagmaaGreatDoor
open Go.RowKit

/-- A trace that is being drawn: the cursor in block g, the system in block ob. -/
structure DT (w wr : World) (g ob : Nat) (v : Sv) (vs : List Lv) (s : Sy) : Prop where
  cur : Cur wr g
  kb : KeepsBut g w wr
  gl : g < w.heap.size
  own : OwnS wr w.heap.size v vs s
  box : Blk wr ob (syc s v)
  far : ∀ i, ¬ ofKind v vs i ob
  ol : w.heap.size ≤ ob
theorem DT.but {w wr : World} {g ob : Nat} {v : Sv} {vs : List Lv} {s : Sy} (h : DT w wr g ob v vs s) {wr' : World} (hc : Cur wr' g) (k : KeepsBut g wr wr') : DT w wr' g ob v vs s := by
  have hg := h.gl
  have ho := h.ol
  exact ⟨hc, h.kb.trans k, hg, h.own.butG k hg, h.box.but k (by omega), h.far, ho⟩
theorem DT.keeps {w wr : World} {g ob : Nat} {v : Sv} {vs : List Lv} {s : Sy} (h : DT w wr g ob v vs s) {wr' : World} (k : Keeps wr wr') : DT w wr' g ob v vs s := h.but (h.cur.keeps k) (.of k)
/-- The trace has grown, and is stored. -/
theorem DT.row {w wr : World} {g ob : Nat} {v : Sv} {vs : List Lv} {s : Sy} (h : DT w wr g ob v vs s) {w2 : World} {x : Value} {xs : List Tn} (O : Own 71 3 tnc w2 w.heap.size x xs) (G : wr.grownBy w2 v.r.val.ownBlock) (f : ∀ q, x.ownBlock = some q → v.r.val.ownBlock = some q ∨ q = wr.heap.size) :
    Own 71 3 tnc (w2.setCell ⟨ob, 8, none⟩ x) w.heap.size x xs ∧ Cur (w2.setCell ⟨ob, 8, none⟩ x) g ∧ KeepsBut g w (w2.setCell ⟨ob, 8, none⟩ x) ∧ (w2.setCell ⟨ob, 8, none⟩ x).cell? ⟨ob, 8, none⟩ = some x := by
  have hb := h.box.lt
  have hg := h.gl
  have ho := h.ol
  have hr : ∀ q, v.r.val.ownBlock = some q → w.heap.size ≤ q := fun q e => (h.own.blkLt (i := 4) (b := q) e).1
  have hx : ∀ q, x.ownBlock = some q → q ≠ ob := fun q e e2 => by
    rcases f q e with h2 | h2
    · exact h.far 4 (by rw [← e2]; exact h2)
    · omega
  have B := h.box.grown G (fun q e e2 => h.far 4 (by rw [← e2]; exact e))
  refine ⟨O.same fun b e => Below.heap_setCell _ _ _ _ (hx b e), (h.cur.grown G (fun k hk => by have := hr k hk; omega)).setNew (by omega) _ _, (h.kb.grown G (fun k hk => by have := hr k hk; omega)).setNew (by simp; omega) _, ?_⟩
  have := (B.set 8 (by show 8 < 9; omega) x).cells 8
  rw [this]
  simp [syc]
/-- A drawn trace. -/
def DrewT (g : Nat) (w : World) (e : Ending) (w' : World) : Prop := ∃ (xs : List Tn) (a : Option Addr) (n cap : Nat), e = .returned (.slice a n cap) ∧ xs.length = n ∧ n ≤ 6000 ∧ (∀ t ∈ xs, turnIn t) ∧ Own 71 3 tnc w' w.heap.size (.slice a n cap) xs ∧ Cur w' g ∧ KeepsBut g w w'
set_option maxRecDepth 100000 in
set_option linter.unusedSimpArgs false in
set_option maxHeartbeats 8000000 in
theorem l13DrawTrace_any {w : World} {g : Nat} (hc : Cur w g) (a : Option Addr) (n cap : Nat) (hn : n ≤ 1048576) :
    Calls Tryz.prog 38 #[.pointer (some ⟨g, 0, none⟩), .slice a n cap] w (DrewT g w) := by
  have hgl := hc.lt
  go_enter Tryz.func38, Tryz.ntmps38
  go_upto_region 2 with first
    | (go_at_call 58; refine (l1Long_any a n cap 30 80 _ hn (by omega) (by omega) (by omega)).mono ?_; rintro e w' ⟨most, rfl, hm0, hm1, hw'⟩; have hw2 := hw'.symm; subst hw2)
    | (go_at_call 18; refine (l11DrawRun_any hc most (by omega) (by omega)).mono ?_; rintro e w2 ⟨nn, cs, v0, vs0, v, vs, ra, rcap, lb, rfl, hn1, hfew, hlen, o0, o1, sm, orow, hlb, hlb2, hc2, k2⟩; obtain ⟨⟨ta3, tn3, tc3⟩, ⟨la3, ln3, lc3⟩, ⟨ga3, gn3, gc3⟩, ⟨fa3, fn3, fc3⟩, ⟨ra3, rn3, rc3⟩⟩ := v0; obtain ⟨⟨ta5, tn5, tc5⟩, ⟨la5, ln5, lc5⟩, ⟨ga5, gn5, gc5⟩, ⟨fa5, fn5, fc5⟩, ⟨ra5, rn5, rc5⟩⟩ := v)
  have HL : Hid (Low (runS (newS nn) cs)) := run_low hfew
  obtain ⟨s, Hs⟩ : ∃ s, Hid (runS (newS nn) cs = s) := ⟨_, rfl⟩
  rw [Hs.out] at o1 sm HL ⊢
  have D2 : Hid (DT w ((w2.alloc (.cells (syc (newS nn) ⟨⟨ta3, tn3, tc3⟩, ⟨la3, ln3, lc3⟩, ⟨ga3, gn3, gc3⟩, ⟨fa3, fn3, fc3⟩, ⟨ra3, rn3, rc3⟩⟩) 43)).alloc (.cells (syc s ⟨⟨ta5, tn5, tc5⟩, ⟨la5, ln5, lc5⟩, ⟨ga5, gn5, gc5⟩, ⟨fa5, fn5, fc5⟩, ⟨ra5, rn5, rc5⟩⟩) 43)) g (w2.heap.size + 1) ⟨⟨ta5, tn5, tc5⟩, ⟨la5, ln5, lc5⟩, ⟨ga5, gn5, gc5⟩, ⟨fa5, fn5, fc5⟩, ⟨ra5, rn5, rc5⟩⟩ vs s) := by
    have hs2 := k2.size
    have kA : Keeps w2 ((w2.alloc (.cells (syc (newS nn) ⟨⟨ta3, tn3, tc3⟩, ⟨la3, ln3, lc3⟩, ⟨ga3, gn3, gc3⟩, ⟨fa3, fn3, fc3⟩, ⟨ra3, rn3, rc3⟩⟩) 43)).alloc (.cells (syc s ⟨⟨ta5, tn5, tc5⟩, ⟨la5, ln5, lc5⟩, ⟨ga5, gn5, gc5⟩, ⟨fa5, fn5, fc5⟩, ⟨ra5, rn5, rc5⟩⟩) 43)) := ((Keeps.refl w2).alloc _).alloc _
    refine ⟨hc2.keeps kA, k2.trans (.of kA), hgl, o1.keeps kA, ?_, fun i hi => by have := (o1.blkLt hi).2; omega, by omega⟩
    have := Blk.new (w2.alloc (.cells (syc (newS nn) ⟨⟨ta3, tn3, tc3⟩, ⟨la3, ln3, lc3⟩, ⟨ga3, gn3, gc3⟩, ⟨fa3, fn3, fc3⟩, ⟨ra3, rn3, rc3⟩⟩) 43)) (syc s ⟨⟨ta5, tn5, tc5⟩, ⟨la5, ln5, lc5⟩, ⟨ga5, gn5, gc5⟩, ⟨fa5, fn5, fc5⟩, ⟨ra5, rn5, rc5⟩⟩) 43
    simpa using this
  change Code.wp _ _ _ _ ((w2.alloc (.cells (syc (newS nn) ⟨⟨ta3, tn3, tc3⟩, ⟨la3, ln3, lc3⟩, ⟨ga3, gn3, gc3⟩, ⟨fa3, fn3, fc3⟩, ⟨ra3, rn3, rc3⟩⟩) 43)).alloc (.cells (syc s ⟨⟨ta5, tn5, tc5⟩, ⟨la5, ln5, lc5⟩, ⟨ga5, gn5, gc5⟩, ⟨fa5, fn5, fc5⟩, ⟨ra5, rn5, rc5⟩⟩) 43))
  clear hc2 k2 o0 o1 orow hlb hlb2 hfew hlen hc
  generalize ((w2.alloc (.cells (syc (newS nn) ⟨⟨ta3, tn3, tc3⟩, ⟨la3, ln3, lc3⟩, ⟨ga3, gn3, gc3⟩, ⟨fa3, fn3, fc3⟩, ⟨ra3, rn3, rc3⟩⟩) 43)).alloc (.cells (syc s ⟨⟨ta5, tn5, tc5⟩, ⟨la5, ln5, lc5⟩, ⟨ga5, gn5, gc5⟩, ⟨fa5, fn5, fc5⟩, ⟨ra5, rn5, rc5⟩⟩) 43)) = X2 at *
  generalize w2.heap.size + 1 = ob at *
  have HR : Hid (s.trace.length = rn5) := (D2.out.own.r.row tnc_size).1
  have hr5 : rn5 ≤ 5000 := by obtain ⟨sz1, sz2, sz3⟩ := sm; have := HR.out; unfold sizeS at sz3; omega
  clear sm
  go_upto_if 17 with (go_at_call 21; refine (l1Once_any g _ _ D2.out.cur (by omega) (by omega)).mono ?_; rintro e w5 ⟨m, rfl, hc5, k5⟩)
  have D5 : Hid (DT w w5 g ob ⟨⟨ta5, tn5, tc5⟩, ⟨la5, ln5, lc5⟩, ⟨ga5, gn5, gc5⟩, ⟨fa5, fn5, fc5⟩, ⟨ra5, rn5, rc5⟩⟩ vs s) := D2.out.but hc5 k5
  clear D2 hc5 k5
  cases m
  · obtain ⟨_, b1, b2⟩ := D5.out.box
    dsimp only [syc] at b1
    go_wp2
    go_ret
    exact ⟨s.trace, ra5, rn5, rc5, rfl, HR.out, by omega, HL.out.2, D5.out.own.r, D5.out.cur, D5.out.kb⟩
  · have D0 := D5.out.keeps (Keeps.refl w5).drew
    have e0 : ∀ w', Blk w' ob (syc s ⟨⟨ta5, tn5, tc5⟩, ⟨la5, ln5, lc5⟩, ⟨ga5, gn5, gc5⟩, ⟨fa5, fn5, fc5⟩, ⟨ra5, rn5, rc5⟩⟩) → ∀ q, w'.cell? ⟨ob, q, none⟩ = (syc s ⟨⟨ta5, tn5, tc5⟩, ⟨la5, ln5, lc5⟩, ⟨ga5, gn5, gc5⟩, ⟨fa5, fn5, fc5⟩, ⟨ra5, rn5, rc5⟩⟩)[q]? := fun w' hh => hh.cells
    dsimp only [syc] at e0
    go_upto_region 3 with fail
    refine wp_region_late 12 (S := (fun w' => Blk w' ob (syc s ⟨⟨ta5, tn5, tc5⟩, ⟨la5, ln5, lc5⟩, ⟨ga5, gn5, gc5⟩, ⟨fa5, fn5, fc5⟩, ⟨ra5, rn5, rc5⟩⟩))) (by kernel_rfl) ?_ (fun hHeld => ?_)
    · exact D5.out.box.keeps (Keeps.refl _).drew
    refine Plan.go [0, 1, 2, 4, 6] ?_
    iterate 5 (refine lateL (by simp only [opsAt]; rfl) (by kernel_rfl) (by exact fun _ _ _ h => h) (by rfl) (by assumption) (fun w _ => by go_simp; try (with_reducible rfl)) ?_; try simp only [putAtH])
    refine Plan.nil ?_
    refine late_step (i := 3) (by kernel_rfl) (by simp only [List.getElem?_toArray, List.getElem?_cons_succ, List.getElem?_cons_zero]; rfl) (fun K hK => ?_)
    go_simp
    first
        | (have k0 := D0; clear D0; go_at_call 40; refine (l1Below_any g _ _ k0.cur (by omega) (by omega)).mono ?_; rintro e wA ⟨mA, rfl, mA0, mA1, hcA, kA⟩; have DA := k0.but hcA kA; have BA := DA.box; clear k0)
        | (have k0 := DA; clear DA; go_at_call 40; refine (l1Below_any g _ _ k0.cur (by omega) (by omega)).mono ?_; rintro e wB ⟨mB, rfl, mB0, mB1, hcB, kB⟩; have DB := k0.but hcB kB; have BB := DB.box; clear k0)
        | (have k0 := DB; clear DB; go_at_call 40; refine (l1Below_any g _ _ k0.cur (by omega) (by omega)).mono ?_; rintro e wC ⟨mC, rfl, mC0, mC1, hcC, kC⟩; have DC := k0.but hcC kC; have BC := DC.box; clear k0)
    try go_wp2_with fail
    refine hK.out _ _ ?_ (fun hHeld => ?_)
    · assumption
    clear hK K
    try simp only [putAtH]
    refine late_step (i := 5) (by kernel_rfl) (by simp only [List.getElem?_toArray, List.getElem?_cons_succ, List.getElem?_cons_zero]; rfl) (fun K hK => ?_)
    go_simp
    first
        | (have k0 := D0; clear D0; go_at_call 40; refine (l1Below_any g _ _ k0.cur (by omega) (by omega)).mono ?_; rintro e wA ⟨mA, rfl, mA0, mA1, hcA, kA⟩; have DA := k0.but hcA kA; have BA := DA.box; clear k0)
        | (have k0 := DA; clear DA; go_at_call 40; refine (l1Below_any g _ _ k0.cur (by omega) (by omega)).mono ?_; rintro e wB ⟨mB, rfl, mB0, mB1, hcB, kB⟩; have DB := k0.but hcB kB; have BB := DB.box; clear k0)
        | (have k0 := DB; clear DB; go_at_call 40; refine (l1Below_any g _ _ k0.cur (by omega) (by omega)).mono ?_; rintro e wC ⟨mC, rfl, mC0, mC1, hcC, kC⟩; have DC := k0.but hcC kC; have BC := DC.box; clear k0)
    try go_wp2_with fail
    refine hK.out _ _ ?_ (fun hHeld => ?_)
    · assumption
    clear hK K
    try simp only [putAtH]
    refine late_step (i := 7) (by kernel_rfl) (by simp only [List.getElem?_toArray, List.getElem?_cons_succ, List.getElem?_cons_zero]; rfl) (fun K hK => ?_)
    go_simp
    first
        | (have k0 := D0; clear D0; go_at_call 40; refine (l1Below_any g _ _ k0.cur (by omega) (by omega)).mono ?_; rintro e wA ⟨mA, rfl, mA0, mA1, hcA, kA⟩; have DA := k0.but hcA kA; have BA := DA.box; clear k0)
        | (have k0 := DA; clear DA; go_at_call 40; refine (l1Below_any g _ _ k0.cur (by omega) (by omega)).mono ?_; rintro e wB ⟨mB, rfl, mB0, mB1, hcB, kB⟩; have DB := k0.but hcB kB; have BB := DB.box; clear k0)
        | (have k0 := DB; clear DB; go_at_call 40; refine (l1Below_any g _ _ k0.cur (by omega) (by omega)).mono ?_; rintro e wC ⟨mC, rfl, mC0, mC1, hcC, kC⟩; have DC := k0.but hcC kC; have BC := DC.box; clear k0)
    try go_wp2_with fail
    refine hK.out _ _ ?_ (fun hHeld => ?_)
    · assumption
    clear hK K
    try simp only [putAtH]
    refine Plan.go [8] ?_
    iterate 1 (refine lateL (by simp only [opsAt]; rfl) (by kernel_rfl) (by exact fun _ _ _ h => h) (by rfl) (by assumption) (fun w _ => by go_simp; try (with_reducible rfl)) ?_; try simp only [putAtH])
    refine Plan.nil ?_
    refine late_step (i := 9) (by kernel_rfl) (by simp only [List.getElem?_toArray, List.getElem?_cons_succ, List.getElem?_cons_zero]; rfl) (fun K hK => ?_)
    go_simp
    try go_wp2_with fail
    refine hK.out _ _ ?_ (fun hHeld => ?_)
    · exact BC.keeps ((Keeps.refl _).alloc _)
    clear hK K
    try simp only [putAtH]
    refine late_step (i := 10) (by kernel_rfl) (by simp only [List.getElem?_toArray, List.getElem?_cons_succ, List.getElem?_cons_zero]; rfl) (fun K hK => ?_)
    (refine step_pushAll rfl (.tmp 19) (.tmp 27) 33 rfl w.heap.size 71 (.agg (tnc Tn.zero)) 3 24 tnc Tryz.underlying33 (by kernel_rfl) rfl (by decide) tnc_size tnc_one (.slice ra5 rn5 rc5) s.trace (by simp [Act.eval]) (DC.own.r.keeps ((Keeps.refl _).alloc _)) (by have := DC.kb.size; simp; omega) [⟨mA, mB, mC⟩] _ 0 1 (lies_blk (Blk.new _ _ _)) (by simp [Act.eval]) (by simp [maxLen]; have := HR.out; omega) (by simp; have := HR.out; omega) ?_; intro v7 w7 o7 g7 f7; obtain ⟨a7, c7, e7⟩ := o7.form tnc_size; obtain ⟨m7, Hm7⟩ : ∃ m, Hid ((s.trace ++ [(⟨mA, mB, mC⟩ : Tn)]).length = m) := ⟨_, rfl⟩; rw [Hm7.out] at e7; subst e7; have D7 := (DC.keeps ((Keeps.refl wC).alloc _)).row o7 g7 f7)
    refine hK.out _ _ ?_ (fun hHeld => ?_)
    · exact (DC.box.keeps ((Keeps.refl wC).alloc _)).grown g7 (fun q e e2 => DC.far 4 (by rw [← e2]; exact e))
    clear hK K
    try simp only [putAtH]
    refine Plan.go [11] ?_
    iterate 1 (refine lateL (by simp only [opsAt]; rfl) (by kernel_rfl) (by exact fun _ _ _ h => h) (by rfl) (by assumption) (fun w _ => by go_simp; try (with_reducible rfl)) ?_; try simp only [putAtH])
    refine Plan.nil ?_
    refine late_last (by kernel_rfl) (by simp only [List.getElem?_toArray, List.getElem?_cons_succ, List.getElem?_cons_zero]; rfl) (by kernel_rfl) (fun K hK => ?_)
    have BX : Blk w7 ob (syc s ⟨⟨ta5, tn5, tc5⟩, ⟨la5, ln5, lc5⟩, ⟨ga5, gn5, gc5⟩, ⟨fa5, fn5, fc5⟩, ⟨ra5, rn5, rc5⟩⟩) := (by assumption); obtain ⟨_, z1, z2⟩ := BX; dsimp only [syc] at z1
    go_simp
    try go_wp2_with fail
    refine hK.out _ _ ?_
    clear hK K
    try simp only [putAtH]
    obtain ⟨O8, C8, K8, c8⟩ := D7
    have HO : Hid (Own 71 3 tnc (w7.setCell ⟨ob, 8, none⟩ (.slice a7 m7 c7)) w.heap.size (.slice a7 m7 c7) (s.trace ++ [(⟨mA, mB, mC⟩ : Tn)])) := O8
    clear O8 e0
    generalize w7.setCell ⟨ob, 8, none⟩ (.slice a7 m7 c7) = Y at *
    go_wp2
    go_ret
    refine ⟨_, a7, m7, c7, rfl, Hm7.out, ?_, ?_, HO.out, C8, K8⟩
    · have h1 := Hm7.out
      have h2 := HR.out
      simp at h1
      omega
    · intro t ht
      rcases List.mem_append.1 ht with h1 | h1
      · exact HL.out.2 t h1
      · obtain rfl : t = ⟨mA, mB, mC⟩ := by simpa using h1
        exact ⟨⟨by show (0 : Int) ≤ mA; omega, by show mA < 4; omega⟩, by show (0 : Int) ≤ mB; omega, by show mB ≤ 40; omega⟩
end Go.Proofs.YtpikopdfkhagmaaGreatDoor
namespace Go.Proofs.YtpikopdfkhagmaaGreatDoor
open Go.RowKit

theorem rowLies {w : World} {base : Nat} {a : Option Addr} {n cap : Nat} {xs : List Tn} (h : Own 71 3 tnc w base (.slice a n cap) xs) : Rs w a xs := (Own.row (x := ⟨a, n, cap⟩) h tnc_size).2.1
theorem rowCap {w : World} {base : Nat} {a : Option Addr} {n cap : Nat} {xs : List Tn} (h : Own 71 3 tnc w base (.slice a n cap) xs) : n ≤ cap := by
  rcases (Own.row (x := ⟨a, n, cap⟩) h tnc_size).2.2.1 with ⟨e1, e2, e3⟩ | ⟨b, off, e1, hb, hle⟩
  · simp only at e2 e3
    omega
  · exact hle
end Go.Proofs.YtpikopdfkhagmaaGreatDoor
namespace Go.Proofs.YtpikopdfkhagmaaGreatDoor
open Go.RowKit

theorem flatC_take {α : Type} {c : α → Array Value} {sz : Nat} (hc : ∀ x, (c x).size = sz) : ∀ (xs : List α) (k : Nat), flatC c (xs.take k) = (flatC c xs).take (k * sz)
  | [], k => by simp [flatC]
  | x :: r, 0 => by simp [flatC]
  | x :: r, k + 1 => by
    have e : flatC c (x :: r) = (c x).toList ++ flatC c r := rfl
    have e2 : flatC c ((x :: r).take (k + 1)) = (c x).toList ++ flatC c (r.take k) := rfl
    have hl : (c x).toList.length = sz := by rw [Array.length_toList, hc]
    rw [e, e2, flatC_take hc r k, List.take_append, hl, Nat.add_mul, Nat.one_mul, Nat.add_sub_cancel, List.take_of_length_le (l := (c x).toList) (by omega)]
/-- The first ones of a row of one's own. -/
theorem own_take {α : Type} {e : TypeId} {sz : Nat} {c : α → Array Value} {w : World} {base : Nat} {a : Option Addr} {n cap : Nat} {xs : List α} (hc : ∀ x, (c x).size = sz) (h : Own e sz c w base (.slice a n cap) xs) (hn : xs.length = n) (k : Nat) (hk : k ≤ n) : Own e sz c w base (.slice a k cap) (xs.take k) := by
  obtain ⟨h1, h2⟩ := h
  have hl : (xs.take k).length = k := by rw [List.length_take]; omega
  refine ⟨by rw [flatC_length hc], ?_⟩
  rw [hl]
  rcases h2 with ⟨hv, h0⟩ | ⟨g, cap', cur, hv, hb, hh, hle, hm, hs, hx⟩
  · simp only [Value.slice.injEq] at hv
    obtain ⟨rfl, hn2, rfl⟩ := hv
    have : k = 0 := by omega
    subst this
    exact .inl ⟨rfl, rfl⟩
  · simp only [Value.slice.injEq] at hv
    obtain ⟨rfl, hn2, rfl⟩ := hv
    refine .inr ⟨g, cap, cur, rfl, hb, hh, by omega, hm, hs, ?_⟩
    rw [flatC_take hc, ← hx, List.take_take]
    congr 1
    have : k * sz ≤ xs.length * sz := Nat.mul_le_mul_right sz (by omega)
    omega
/-- Drawn turns. -/
def DrewX (w : World) (e : Ending) (w' : World) : Prop := ∃ (xs : List Tn) (a : Option Addr) (n cap : Nat), e = .returned (.slice a n cap) ∧ xs.length = n ∧ n ≤ 10 ∧ Own 71 3 tnc w' w.heap.size (.slice a n cap) xs ∧ Keeps w w'
set_option maxRecDepth 100000 in
set_option maxHeartbeats 4000000 in
theorem drawTurnText_any (a : Option Addr) (n cap : Nat) (w : World) (hn : n ≤ 1048576) (hb : ∀ g, w.heap.size ≤ g → Bytes g w a n) :
    Calls Tryz.prog 14 #[.slice a n cap] w (DrewX w) := by
  go_enter Tryz.func14, Tryz.ntmps14
  go_wp2_with fail
  refine (l1New_any a n cap _ hn hb).mono ?_
  rintro e w1 ⟨g, rfl, hg, hc1, k1⟩
  clear hb
  have hg1 := hc1.lt
  have hs1 := k1.size
  go_upto_region 3 with (go_at_call 38; refine (l13DrawTrace_any hc1 a n cap hn).mono ?_; rintro e w2 ⟨xs, xa, xn, xc, rfl, hx, hx2, hx3, o2, hc2, k2⟩)
  have O2 : Hid (Own 71 3 tnc w2 w1.heap.size (.slice xa xn xc) xs) := o2
  have HX : Hid (xs.length = xn) := hx
  have hcap : xn ≤ xc := rowCap o2
  clear hx hx3 o2 hc1
  obtain ⟨m, hm0, hm1, hm⟩ : ∃ m : Nat, m ≤ xn ∧ m ≤ 9 ∧ Hid (min (xn : Int) 9 = m) := ⟨min xn 9, by omega, by omega, by show _ = _; omega⟩
  go_upto_region 4 with (go_at_call 39; refine (l1Min_any _ _ _).mono ?_; rintro e w3 ⟨rfl, hw3⟩; have hw4 := hw3.symm; subst hw4; rw [hm.out])
  have O3 : Hid (Own 71 3 tnc w2 w1.heap.size (.slice xa m xc) (xs.take m)) := own_take tnc_size O2.out HX.out m hm0
  have HL : Hid ((xs.take m).length = m) := by show _ = _; rw [List.length_take, HX.out]; omega
  generalize xs.take m = ys at *
  clear O2 HX
  go_upto_if 16 with (go_at_call 21; refine (l1Once_any g _ _ hc2 (by omega) (by omega)).mono ?_; rintro e w5 ⟨z, rfl, hc5, k5⟩)
  have O5 : Hid (Own 71 3 tnc w5 w1.heap.size (.slice xa m xc) ys) := O3.out.butG k5 (by omega)
  have K5 := k2.trans k5
  clear O3 k5 k2 hc2
  cases z
  · go_wp2
    go_ret
    exact ⟨ys, xa, m, xc, rfl, HL.out, by omega, O5.out.base hs1, K5.keeps k1 (by omega)⟩
  · have hs5 := K5.size
    go_wp2_with (first
      | (go_at_call 40; refine (l1Below_any g _ _ hc5 (by omega) (by omega)).mono ?_; rintro e w6 ⟨m6, rfl, m60, m61, hc6, k6⟩)
      | (go_at_call 22; refine (l1PickInt_new (fun _ => True) g [0, 1000, 1001] _ _ _ _ _ w6 rfl hc6 rfl (by decide) (by decide) rfl (fun _ _ => trivial)).mono ?_; rintro e w7 ⟨x7, rfl, -, hc7, k7⟩; have O7 := (O5.out.butG k6 (by omega)).butG k7 (by omega); have K7 := (K5.trans k6).trans k7; have hs7 := K7.size)
      | (at_builtin; (refine wpList_pushG rfl _ _ 33 rfl w1.heap.size 71 (.agg (tnc Tn.zero)) 3 24 tnc Tryz.underlying33 (by kernel_rfl) rfl (by decide) tnc_size tnc_one _ ys rfl (O7.keeps ((Keeps.refl _).alloc _)) ?c0 ⟨m6 - 1, x7, 1⟩ _ 1 (Blk.new _ _ _) rfl ?c1 ?c2 ?_)))
    case c0 => simp; omega
    case c1 => rw [HL.out]; unfold maxLen; omega
    case c2 => rw [HL.out]; omega
    intro v8 w8 own8 gr8 hr8
    obtain ⟨a8, c8, e8⟩ := own8.form tnc_size
    have hl8 : (ys ++ [(⟨m6 - 1, x7, 1⟩ : Tn)]).length = m + 1 := by rw [List.length_append, HL.out]; rfl
    rw [hl8] at e8
    subst e8
    have K8 : Hid (KeepsBut g w1 w8) := (K7.trans (.of ((Keeps.refl _).alloc _))).grown gr8 hr8
    have O8 : Hid (Own 71 3 tnc w8 w1.heap.size (.slice a8 (m + 1) c8) (ys ++ [(⟨m6 - 1, x7, 1⟩ : Tn)])) := own8
    have H8 : Hid ((ys ++ [(⟨m6 - 1, x7, 1⟩ : Tn)]).length = m + 1) := hl8
    clear own8 gr8 hr8 O7 k6 k7 hl8
    go_wp2
    go_ret
    exact ⟨_, a8, m + 1, c8, rfl, H8.out, by omega, O8.out.base hs1, K8.out.keeps k1 (by omega)⟩
end Go.Proofs.YtpikopdfkhagmaaGreatDoor
namespace Go.Proofs.YtpikopdfkhagmaaGreatDoor
open Go.RowKit

theorem num_plain (x : Int) : (numL x).count 32 = 0 ∧ (numL x).count 58 = 0 := by
  have hb : ∀ s : List UInt8, s.all digB = true → s.count 58 = 0 := fun s h => by
    rw [List.count_eq_zero]
    intro hm
    have := List.all_eq_true.1 h 58 hm
    revert this
    decide
  have h0 : (numL x).count 32 = 0 := by
    rw [List.count_eq_zero]
    intro hm
    have := num_noBl x 32 hm
    revert this
    decide
  refine ⟨h0, ?_⟩
  have hd := hb _ (digs_all x.natAbs x.natAbs (Nat.le_refl _))
  unfold numL
  split
  · rw [List.count_cons, hd]
    rfl
  · split
    · rfl
    · exact hd
theorem turn_counts (t : Tn) : (turnL t).count 32 = 0 ∧ (turnL t).count 58 = 1 := by
  have h1 := num_plain t.cpu
  have h2 := num_plain t.ctx
  have h3 := num_plain t.exe
  unfold turnL
  split
  · simp [List.count_append, h1.1, h2.1, h1.2, h2.2]
  · simp [List.count_append, h1.1, h2.1, h3.1, h1.2, h2.2, h3.2]
theorem text_counts (xs : List Tn) : ∀ k, (textK xs k).count 32 = k - 1 ∧ (textK xs k).count 58 = k
  | 0 => ⟨rfl, rfl⟩
  | k + 1 => by
    have ih := text_counts xs k
    have ht := turn_counts (xs.getD k ⟨0, 0, 0⟩)
    have e : textK xs (k + 1) = (textK xs k ++ (if k = 0 then [] else [32])) ++ turnL (xs.getD k ⟨0, 0, 0⟩) := rfl
    rw [e, List.count_append, List.count_append, List.count_append, List.count_append, ih.1, ih.2, ht.1, ht.2]
    by_cases h : k = 0
    · subst h
      exact ⟨rfl, rfl⟩
    · rw [if_neg h]
      exact ⟨by show k - 1 + 1 + 0 = k; omega, by show k + 0 + 1 = k + 1; omega⟩
theorem turns_counts (xs : List Tn) : turnsL xs = [] ∨ ((turnsL xs).count 32 + 1 = xs.length ∧ (turnsL xs).count 58 = xs.length) := by
  unfold turnsL
  split
  · cases xs with
    | nil => exact .inl rfl
    | cons x r =>
      have h := text_counts (x :: r) (x :: r).length
      refine .inr ⟨?_, h.2⟩
      rw [h.1]
      simp
  · exact .inl rfl
theorem count_step {l : List UInt8} {k : Nat} {b : UInt8} (h : l[k]? = some b) (c : UInt8) : (l.take (k + 1)).count c = (l.take k).count c + (if b == c then 1 else 0) := by
  rw [List.take_add_one, h, List.count_append]
  simp [List.count_cons]
theorem turnsL_length {xs : List Tn} (h : xs.length ≤ 1048576) : (turnsL xs).length ≤ 41943040 := by
  have go : ∀ k, (xs.take k).all turnNumB = true → k ≤ xs.length → (textK xs k).length ≤ 40 * k := by
    intro k
    induction k with
    | zero => intro _ _; simp [textK]
    | succ k ih =>
      intro h hk
      have hx : xs[k]? = some (xs.getD k ⟨0, 0, 0⟩) := by
        rw [List.getD_eq_getElem?_getD, List.getElem?_eq_getElem (by omega)]
        rfl
      rw [List.take_add_one, hx, List.all_append, Bool.and_eq_true] at h
      have h1 := ih h.1 (by omega)
      have h2 := turnL_length (t := xs.getD k ⟨0, 0, 0⟩) (by simpa using h.2)
      have h3 : (if k = 0 then ([] : List UInt8) else [32]).length ≤ 1 := by split <;> simp
      show ((textK xs k ++ (if k = 0 then [] else [32])) ++ turnL (xs.getD k ⟨0, 0, 0⟩)).length ≤ _
      rw [List.length_append, List.length_append]
      omega
  unfold turnsL
  split
  · next hh => have := go xs.length (by rw [List.take_length]; exact hh) (Nat.le_refl _); omega
  · simp
end Go.Proofs.YtpikopdfkhagmaaGreatDoor
namespace Go.Proofs.YtpikopdfkhagmaaGreatDoor
open Go.RowKit
attribute [local go_sem] Keeps.refl Keeps.alloc Keeps.drew Keeps.drewN

theorem byte_eq (b : UInt8) (c : UInt8) (n : Int) (hc : (c.toNat : Int) = n) : ((b.toNat : Int) == n) = (b == c) := by
  subst hc
  cases e : (b == c)
  · rw [beq_eq_false_iff_ne] at e ⊢
    intro h
    exact e (UInt8.toNat_inj.1 (by omega))
  · rw [beq_iff_eq] at e
    rw [e]
    simp
set_option maxRecDepth 100000 in
set_option maxHeartbeats 8000000 in
theorem turnText_walk (a : Option Addr) (n cap : Nat) (w : World) (hm : n ≤ maxLen) (hb : ∀ g, w.heap.size ≤ g → Bytes g w a n) (hg : GlobT w) :
    Calls Tryz.prog 4 #[.slice a n cap] w fun e w' => e = .returned (.bool true) ∧ Keeps w w' := by
  by_cases hn : n ≤ 1048576
  case neg =>
    have hd : decide (1048576 < (n : Int)) = true := by simp; omega
    go_enter Tryz.func4, Tryz.ntmps4
    go_wp2_with (go_at_call 5; refine (big_any _ _ _ _ hm).mono ?_; rintro e w1 ⟨rfl, rfl⟩)
    go_ret
    exact ⟨rfl, Keeps.refl _⟩
  have hd : decide (1048576 < (n : Int)) = false := by simp; omega
  have HB : Hid (∀ g, w.heap.size ≤ g → Bytes g w a n) := hb
  have HG : Hid (GlobT w) := hg
  clear hb hg
  go_enter Tryz.func4, Tryz.ntmps4
  go_wp2_with fail
  refine (big_any _ _ _ _ hm).mono ?_
  rintro e w0 ⟨rfl, rfl⟩
  rw [hd]
  go_upto_region 4 with (go_at_call 14; refine (drawTurnText_any a n cap _ hn HB.out).mono ?_; rintro e w1 ⟨xs, xa, xn, xc, rfl, hx, hx2, o1, k1⟩)
  have Hx : Hid (xs.length = xn) := hx
  have R1 : Hid (Rs w1 xa xs) := rowLies o1
  have G1 : Hid (GlobT w1) := HG.out.keeps k1
  obtain ⟨l, Hl⟩ : ∃ l, Hid (turnsL xs = l) := ⟨_, rfl⟩
  have hll := run_strNe l l
  rw [show (l == l) = true from by simp] at hll
  have HC := turns_counts xs
  have HLen := turnsL_length (xs := xs) (by omega)
  rw [Hl.out] at HC HLen
  have HCh : Hid (l = [] ∨ (l.count 32 + 1 = xs.length ∧ l.count 58 = xs.length)) := HC
  generalize hm2 : l.length = m at HLen
  have Hm : Hid (l.length = m) := hm2
  have hsz : (⟨l.toArray⟩ : ByteArray).size = m := by simpa [ByteArray.size] using hm2
  clear hx o1 hd HB HC hm2
  go_upto_region 5 with (go_at_call 15; refine (implTurnText_any xa xn xc xs _ G1.out Hx.out (by omega) R1.out).mono ?_; rintro e w2 ⟨rfl, k2⟩; rw [Hl.out])
  go_upto_region 7 with (go_at_call 16; refine (specTurnText_any xa xn xc xs _ Hx.out (by omega) (R1.out.keeps k2)).mono ?_; rintro e w3 ⟨rfl, k3⟩; rw [Hl.out])
  have K3 : Hid (Keeps w0 w3) := (k1.trans k2).trans k3
  clear k1 k2 k3 R1 G1 hll
  go_upto_region 9 with fail
  go_loopw [5, 6, 7] (fun x y i wr => ∃ k p q : Nat, k ≤ m ∧ p ≤ k ∧ q ≤ k ∧ i = .int .i64 k ∧ x = .int .i64 p ∧ y = .int .i64 q ∧ Hid (p = (l.take k).count 32) ∧ Hid (q = (l.take k).count 58) ∧ wr = w3) (fun _ _ i _ => m - (intOf i).toNat)
  case atStart => exact ⟨0, 0, 0, Nat.zero_le _, Nat.le_refl _, Nat.le_refl _, rfl, rfl, rfl, rfl, rfl, rfl⟩
  case round =>
    obtain ⟨k, p, q, hk, hp, hq, rfl, rfl, rfl, HP, HQ, rfl⟩ := hrel
    by_cases hlt : k < m
    · obtain ⟨b, hb⟩ := some_in (xs := l) (k := k) (by rw [Hm.out]; exact hlt)
      have hlt' : decide ((k : Int) < (m : Int)) = true := by simp; omega
      have hix := run_strIdx hb
      have s1 : Hid ((l.take (k + 1)).count 32 = p + (if b == 32 then 1 else 0)) := by show _ = _; rw [count_step hb, ← HP.out]
      have s2 : Hid ((l.take (k + 1)).count 58 = q + (if b == 58 then 1 else 0)) := by show _ = _; rw [count_step hb, ← HQ.out]
      have e1 := byte_eq b 32 32 rfl
      have e2 := byte_eq b 58 58 rfl
      clear hb
      cases c1 : (b == 32)
      · rw [c1] at e1 s1
        cases c2 : (b == 58)
        · rw [c2] at e2 s2
          go_wp2
          exact ⟨⟨k + 1, p, q, by omega, by omega, by omega, by go_num, rfl, rfl, by show _ = _; rw [s1.out]; rfl, by show _ = _; rw [s2.out]; rfl, trivial⟩, by simp only [intOf]; omega⟩
        · rw [c2] at e2 s2
          go_wp2
          exact ⟨⟨k + 1, p, q + 1, by omega, by omega, by omega, by go_num, rfl, by go_num, by show _ = _; rw [s1.out]; rfl, by show _ = _; rw [s2.out]; rfl, trivial⟩, by simp only [intOf]; omega⟩
      · rw [c1] at e1 s1
        have c2 : (b == 58) = false := by rw [beq_iff_eq] at c1; subst c1; rfl
        rw [c2] at e2 s2
        go_wp2
        exact ⟨⟨k + 1, p + 1, q, by omega, by omega, by omega, by go_num, by go_num, rfl, by show _ = _; rw [s1.out]; rfl, by show _ = _; rw [s2.out]; rfl, trivial⟩, by simp only [intOf]; omega⟩
    · have hlt' : decide ((k : Int) < (m : Int)) = false := by simp; omega
      obtain rfl : k = m := by omega
      have HP2 : Hid (p = l.count 32) := by show _ = _; rw [HP.out, List.take_of_length_le (by rw [Hm.out]; omega)]
      have HQ2 : Hid (q = l.count 58) := by show _ = _; rw [HQ.out, List.take_of_length_le (by rw [Hm.out]; omega)]
      have hse := run_strEq l []
      cases c0 : (l == [])
      · have hcc : l.count 32 + 1 = xs.length ∧ l.count 58 = xs.length := by
          rcases HCh.out with h | h
          · rw [h] at c0; cases c0
          · exact h
        rw [← HP2.out, ← HQ2.out, Hx.out] at hcc
        have hz1 : ((p : Int) == (xn : Int) - 1) = true := by simp; omega
        have hz2 : ((q : Int) == (xn : Int)) = true := by simp; omega
        rw [c0] at hse
        clear HP HQ HP2 HQ2 HCh
        go_wp2
        go_ret
        exact ⟨rfl, K3.out⟩
      · rw [c0] at hse
        clear HP HQ HP2 HQ2 HCh
        go_wp2
        go_ret
        exact ⟨rfl, K3.out⟩
end Go.Proofs.YtpikopdfkhagmaaGreatDoor
