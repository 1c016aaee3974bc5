/-
  Drawn systems: a new system, what is asked of it, and what it is then.
-/
import Derived.Test.YtpikopdfkhagmaaGreatDoorCallDraw1
import Derived.Test.YtpikopdfkhagmaaGreatDoorCallSys
import Derived.Test.YtpikopdfkhagmaaGreatDoorTracePure
import Derived.Test.YtpikopdfkhagmaaGreatDoorSysVar
import Derived.Test.YtpikopdfkhagmaaGreatDoorTaskNew
import Derived.Deep.Cut
namespace Go.Proofs.YtpikopdfkhagmaaGreatDoor
open Go.RowKit

theorem cc_one (c : Cl) : ∀ u ∈ (cc c).toList, u.oneCell' = true := by
  intro u hu
  simp at hu
  rcases hu with rfl | rfl | rfl | rfl | rfl <;> rfl
/-- While a run is drawn: the cursor in block g, cells for what is told, the new system (its box in block sb), what it is now (its box in block ob), and the row of what was asked. -/
structure DV (w wr : World) (g lb sb ob : Nat) (v0 : Sv) (vs0 : List Lv) (s0 : Sy) (v : Sv) (vs : List Lv) (s : Sy) (u : Value) (cs : List Cl) : Prop where
  cur : Cur wr g
  kb : KeepsBut g w wr
  gl : g < w.heap.size
  r1 : Blk wr w.heap.size zc
  r2 : Blk wr (w.heap.size + 1) zc
  st : OwnS wr (w.heap.size + 2) v0 vs0 s0
  sbx : Blk wr sb (syc s0 v0)
  own : OwnS wr (w.heap.size + 2) v vs s
  box : Blk wr ob (syc s v)
  row : Own 25 5 cc wr lb u cs
  stl : ∀ i b, ofKind v0 vs0 i b → b < sb
  ord : w.heap.size + 2 ≤ sb ∧ sb < ob ∧ ob < lb
  far : ∀ i, ¬ ofKind v vs i ob
  ap : ∀ i b, ofKind v vs i b → u.ownBlock ≠ some b
  lbs : lb ≤ wr.heap.size
section
variable {w wr : World} {g lb sb ob : Nat} {v0 : Sv} {vs0 : List Lv} {s0 : Sy} {v : Sv} {vs : List Lv} {s : Sy} {u : Value} {cs : List Cl}
theorem DV.but (h : DV w wr g lb sb ob v0 vs0 s0 v vs s u cs) {wr' : World} (hc : Cur wr' g) (k : KeepsBut g wr wr') : DV w wr' g lb sb ob v0 vs0 s0 v vs s u cs := by
  have hg := h.gl
  have ho := h.ord
  exact ⟨hc, h.kb.trans k, hg, h.r1.but k (by omega), h.r2.but k (by omega), h.st.butG k (by omega), h.sbx.but k (by omega), h.own.butG k (by omega), h.box.but k (by omega), h.row.butG k (by omega), h.stl, ho, h.far, h.ap, Nat.le_trans h.lbs k.size⟩
theorem DV.keeps (h : DV w wr g lb sb ob v0 vs0 s0 v vs s u cs) {wr' : World} (k : Keeps wr wr') : DV w wr' g lb sb ob v0 vs0 s0 v vs s u cs := h.but (h.cur.keeps k) (.of k)
/-- What is asked next is laid behind the others. -/
theorem DV.push (h : DV w wr g lb sb ob v0 vs0 s0 v vs s u cs) {w2 : World} {u' : Value} {cs' : List Cl} (O : Own 25 5 cc w2 lb u' cs') (G : wr.grownBy w2 u.ownBlock) (f : ∀ q, u'.ownBlock = some q → u.ownBlock = some q ∨ q = wr.heap.size) : DV w w2 g lb sb ob v0 vs0 s0 v vs s u' cs' := by
  have hg := h.gl
  have ho := h.ord
  have hb : ∀ q, u.ownBlock = some q → lb ≤ q := fun q hq => (h.row.ltb q hq).1
  refine ⟨h.cur.grown G (fun k hk => by have := hb k hk; omega), h.kb.grown G (fun k hk => by have := hb k hk; omega), hg, h.r1.grown G (fun q e e2 => by have := hb q e; omega), h.r2.grown G (fun q e e2 => by have := hb q e; omega), ?_, h.sbx.grown G (fun q e e2 => by have := hb q e; omega), ?_, h.box.grown G (fun q e e2 => by have := hb q e; omega), O, h.stl, ho, h.far, ?_, Nat.le_trans h.lbs G.size⟩
  · exact h.st.aside G.size fun i b hi => G.block b (h.st.blkLt hi).2 (fun e => by have := hb b e.symm; have := h.stl i b hi; omega)
  · exact h.own.aside G.size fun i b hi => G.block b (h.own.blkLt hi).2 (fun e => h.ap i b hi e.symm)
  · intro i b hi e
    rcases f b e with h1 | h1
    · exact h.ap i b hi h1
    · have := (h.own.blkLt hi).2
      omega
/-- A call is done: the system is another one, of new memory. -/
theorem DV.call (h : DV w wr g lb sb ob v0 vs0 s0 v vs s u cs) {w1 : World} (k : Keeps wr w1) {v' : Sv} {vs' : List Lv} {s' : Sy} (O : OwnS w1 wr.heap.size v' vs' s') : DV w (putC w1 ob 0 (syc s' v').toList) g lb sb ob v0 vs0 s0 v' vs' s' u cs := by
  have hg := h.gl
  have ho := h.ord
  have h1 := h.keeps k
  have hl := h.box.lt
  have far : ∀ i, ¬ ofKind v' vs' i ob := fun i hi => by have := (O.blkLt hi).1; omega
  have hsz := h.kb.size
  have hsb := h.sbx.lt
  refine ⟨Cur.putC (by omega) _ 0 h1.cur, KeepsBut.putN (by omega) _ 0 h1.kb, hg, Blk.farC (by omega) _ _ h1.r1, Blk.farC (by omega) _ _ h1.r2, OwnS.farC (fun i hi => by have := h.stl i ob hi; omega) _ _ h1.st, Blk.farC (by omega) _ _ h1.sbx, OwnS.farC far _ _ (O.base (by omega)), h1.box.putC _ rfl, Own.putFar (by omega) _ _ h1.row, h.stl, ho, far, ?_, Nat.le_trans h1.lbs (TurnsB.putC (P := fun _ => True) trivial _ 0 (TurnsB.refl _ w1)).size⟩
  intro i b hi e
  have h3 := (O.blkLt hi).1
  have h4 := (h.row.ltb b e).2
  omega
/-- What the two boxes hold. -/
structure Pair (sb ob : Nat) (A B : Array Value) (w' : World) : Prop where
  one : Blk w' sb A
  two : Blk w' ob B
/-- The end: both systems are stored as what is told. -/
theorem DV.told (h : DV w wr g lb sb ob v0 vs0 s0 v vs s u cs) :
    Pair sb ob (syc s0 v0) (syc s v) (putC wr w.heap.size 0 (syc s0 v0).toList) ∧ Blk (putC wr w.heap.size 0 (syc s0 v0).toList) (w.heap.size + 1) zc ∧
    Pair sb ob (syc s0 v0) (syc s v) (putC (putC wr w.heap.size 0 (syc s0 v0).toList) (w.heap.size + 1) 0 (syc s v).toList) ∧
    Blk (putC (putC wr w.heap.size 0 (syc s0 v0).toList) (w.heap.size + 1) 0 (syc s v).toList) w.heap.size (syc s0 v0) ∧ Blk (putC (putC wr w.heap.size 0 (syc s0 v0).toList) (w.heap.size + 1) 0 (syc s v).toList) (w.heap.size + 1) (syc s v) ∧
    OwnS (putC (putC wr w.heap.size 0 (syc s0 v0).toList) (w.heap.size + 1) 0 (syc s v).toList) w.heap.size v0 vs0 s0 ∧ OwnS (putC (putC wr w.heap.size 0 (syc s0 v0).toList) (w.heap.size + 1) 0 (syc s v).toList) w.heap.size v vs s ∧
    Own 25 5 cc (putC (putC wr w.heap.size 0 (syc s0 v0).toList) (w.heap.size + 1) 0 (syc s v).toList) lb u cs ∧ Cur (putC (putC wr w.heap.size 0 (syc s0 v0).toList) (w.heap.size + 1) 0 (syc s v).toList) g ∧ KeepsBut g w (putC (putC wr w.heap.size 0 (syc s0 v0).toList) (w.heap.size + 1) 0 (syc s v).toList) := by
  have ho := h.ord
  have hg := h.gl
  have f0 : ∀ c, c < w.heap.size + 2 → ∀ i, ¬ ofKind v0 vs0 i c := fun c hc i hi => by have := (h.st.blkLt hi).1; omega
  have f1 : ∀ c, c < w.heap.size + 2 → ∀ i, ¬ ofKind v vs i c := fun c hc i hi => by have := (h.own.blkLt hi).1; omega
  have P1 : Pair sb ob (syc s0 v0) (syc s v) (putC wr w.heap.size 0 (syc s0 v0).toList) := ⟨Blk.farC (by omega) _ _ h.sbx, Blk.farC (by omega) _ _ h.box⟩
  have B1 : Blk (putC wr w.heap.size 0 (syc s0 v0).toList) (w.heap.size + 1) zc := Blk.farC (by omega) _ _ h.r2
  refine ⟨P1, B1, ⟨Blk.farC (by omega) _ _ P1.one, Blk.farC (by omega) _ _ P1.two⟩, Blk.farC (by omega) _ _ (h.r1.putC _ rfl), B1.putC _ rfl, (OwnS.farC (f0 _ (by omega)) _ _ (OwnS.farC (f0 _ (by omega)) _ _ h.st)).base (by omega), (OwnS.farC (f1 _ (by omega)) _ _ (OwnS.farC (f1 _ (by omega)) _ _ h.own)).base (by omega), Own.putFar (by omega) _ _ (Own.putFar (by omega) _ _ h.row), Cur.putC (by omega) _ 0 (Cur.putC (by omega) _ 0 h.cur), KeepsBut.putN (by omega) _ 0 (KeepsBut.putN (by omega) _ 0 h.kb)⟩
end
/-- A run that is drawn of the cursor in block g. -/
def DrewR (g : Nat) (w : World) (most : Int) (e : Ending) (w' : World) : Prop := ∃ (n : Int) (cs : List Cl) (v0 : Sv) (vs0 : List Lv) (v : Sv) (vs : List Lv) (a : Option Addr) (cap lb : Nat),
  e = .returned (.tuple #[.agg (syc (newS n) v0), .slice a cs.length cap, .agg (syc (runS (newS n) cs) v)]) ∧ inB n 1 3 = true ∧ (∀ c ∈ cs, Few c) ∧ (cs.length : Int) ≤ most ∧ OwnS w' w.heap.size v0 vs0 (newS n) ∧ OwnS w' w.heap.size v vs (runS (newS n) cs) ∧ Small (runS (newS n) cs) ∧
  Own 25 5 cc w' lb (.slice a cs.length cap) cs ∧ (∀ i b, ofKind v0 vs0 i b → b < lb) ∧ w.heap.size ≤ lb ∧ Cur w' g ∧ KeepsBut g w w'
set_option maxRecDepth 100000 in
set_option linter.unusedSimpArgs false in
set_option maxHeartbeats 20000000 in
theorem l11DrawRun_any {w : World} {g : Nat} (hc : Cur w g) (most : Int) (h0 : 0 ≤ most) (h1 : most ≤ 255) :
    Calls Tryz.prog 18 #[.pointer (some ⟨g, 0, none⟩), .int .i64 most] w (DrewR g w most) := by
  have hgl := hc.lt
  have kZ : Keeps w ((w.alloc (.cells zc 43)).alloc (.cells zc 43)) := ((Keeps.refl w).alloc _).alloc _
  have R1 : Hid (Blk ((w.alloc (.cells zc 43)).alloc (.cells zc 43)) w.heap.size zc) := (Blk.new _ _ _).alloc _
  have R2 : Hid (Blk ((w.alloc (.cells zc 43)).alloc (.cells zc 43)) (w.heap.size + 1) zc) := by
    have := Blk.new (w.alloc (.cells zc 43)) zc 43
    show Blk _ _ _
    simpa using this
  have HC := hc.keeps kZ
  have hz : Hid (((w.alloc (.cells zc 43)).alloc (.cells zc 43)).heap.size = w.heap.size + 2) := by show _ = _; simp
  clear hc
  go_enter Tryz.func18, Tryz.ntmps18
  go_upto_region 1 with fail
  change Code.wp _ _ _ _ ((w.alloc (.cells zc 43)).alloc (.cells zc 43))
  generalize (w.alloc (.cells zc 43)).alloc (.cells zc 43) = Z at *
  have K0 : KeepsBut g Z Z := KeepsBut.refl g Z
  go_upto_region 2 with first
    | (go_at_call 40; refine (l1Below_any g _ _ HC (by omega) (by omega)).mono ?_; rintro e w2 ⟨m2, rfl, m20, m21, hc2, k2⟩; have K2 : KeepsBut g Z w2 := K0.trans k2; clear HC; have hw2 : IntKind.i64.wrap (1 + m2) = 1 + m2 := Go.IntWalk.i64_in _ (by omega))
    | (go_at_call 46; refine (specSysNew_any _ _).mono ?_; rintro e w3 ⟨v3, vs3, rfl, o3, k3⟩; obtain ⟨⟨ta3, tn3, tc3⟩, ⟨la3, ln3, lc3⟩, ⟨ga3, gn3, gc3⟩, ⟨fa3, fn3, fc3⟩, ⟨ra3, rn3, rc3⟩⟩ := v3)
  obtain ⟨n, Hn⟩ : ∃ n, Hid (1 + m2 = n) := ⟨_, rfl⟩
  rw [Hn.out] at o3 ⊢
  have hn1 : inB n 1 3 = true := inB_iff.2 (by have := Hn.out; omega)
  have hn4 : inB n 1 4 = true := inB_iff.2 (by have := Hn.out; omega)
  have SM0 : Small (newS n) := new_small hn4
  go_upto_region 4 with fail
  have DV0 : Hid (DV w (((w3.alloc (.cells (syc (newS n) ⟨⟨ta3, tn3, tc3⟩, ⟨la3, ln3, lc3⟩, ⟨ga3, gn3, gc3⟩, ⟨fa3, fn3, fc3⟩, ⟨ra3, rn3, rc3⟩⟩) 43)).alloc (.cells (syc (newS n) ⟨⟨ta3, tn3, tc3⟩, ⟨la3, ln3, lc3⟩, ⟨ga3, gn3, gc3⟩, ⟨fa3, fn3, fc3⟩, ⟨ra3, rn3, rc3⟩⟩) 43)).alloc (.cells #[] 25)) g (w3.heap.size + 2) w3.heap.size (w3.heap.size + 1) ⟨⟨ta3, tn3, tc3⟩, ⟨la3, ln3, lc3⟩, ⟨ga3, gn3, gc3⟩, ⟨fa3, fn3, fc3⟩, ⟨ra3, rn3, rc3⟩⟩ vs3 (newS n) ⟨⟨ta3, tn3, tc3⟩, ⟨la3, ln3, lc3⟩, ⟨ga3, gn3, gc3⟩, ⟨fa3, fn3, fc3⟩, ⟨ra3, rn3, rc3⟩⟩ vs3 (newS n) (.slice (some ⟨w3.heap.size + 2, 0, none⟩) 0 0) []) := by
    have hs2 := K2.size
    have hs3 := k3.size
    have kA : Keeps w3 (((w3.alloc (.cells (syc (newS n) ⟨⟨ta3, tn3, tc3⟩, ⟨la3, ln3, lc3⟩, ⟨ga3, gn3, gc3⟩, ⟨fa3, fn3, fc3⟩, ⟨ra3, rn3, rc3⟩⟩) 43)).alloc (.cells (syc (newS n) ⟨⟨ta3, tn3, tc3⟩, ⟨la3, ln3, lc3⟩, ⟨ga3, gn3, gc3⟩, ⟨fa3, fn3, fc3⟩, ⟨ra3, rn3, rc3⟩⟩) 43)).alloc (.cells #[] 25)) := (((Keeps.refl w3).alloc _).alloc _).alloc _
    have hlo : ∀ i b, ofKind ⟨⟨ta3, tn3, tc3⟩, ⟨la3, ln3, lc3⟩, ⟨ga3, gn3, gc3⟩, ⟨fa3, fn3, fc3⟩, ⟨ra3, rn3, rc3⟩⟩ vs3 i b → w.heap.size + 2 ≤ b ∧ b < w3.heap.size := fun i b hi => by have := o3.blkLt hi; have := hz.out; omega
    refine ⟨(hc2.keeps k3).keeps kA, ((KeepsBut.of kZ).trans K2).trans (.of (k3.trans kA)), hgl, ((R1.out.but K2 (by omega)).keeps k3).keeps kA, ((R2.out.but K2 (by omega)).keeps k3).keeps kA, (o3.base (by have := hz.out; omega)).keeps kA, ((Blk.new _ _ _).alloc _).alloc _, (o3.base (by have := hz.out; omega)).keeps kA, ?_, ?_, fun i b hi => (hlo i b hi).2, by have := hz.out; omega, fun i hi => by have := hlo i _ hi; omega, fun i b hi e => by have := hlo i b hi; simp [Value.ownBlock] at e; omega, by simp⟩
    · have := (Blk.new (w3.alloc (.cells (syc (newS n) ⟨⟨ta3, tn3, tc3⟩, ⟨la3, ln3, lc3⟩, ⟨ga3, gn3, gc3⟩, ⟨fa3, fn3, fc3⟩, ⟨ra3, rn3, rc3⟩⟩) 43)) (syc (newS n) ⟨⟨ta3, tn3, tc3⟩, ⟨la3, ln3, lc3⟩, ⟨ga3, gn3, gc3⟩, ⟨fa3, fn3, fc3⟩, ⟨ra3, rn3, rc3⟩⟩) 43).alloc (.cells #[] 25)
      simpa using this
    · have := Own.new 25 5 cc ((w3.alloc (.cells (syc (newS n) ⟨⟨ta3, tn3, tc3⟩, ⟨la3, ln3, lc3⟩, ⟨ga3, gn3, gc3⟩, ⟨fa3, fn3, fc3⟩, ⟨ra3, rn3, rc3⟩⟩) 43)).alloc (.cells (syc (newS n) ⟨⟨ta3, tn3, tc3⟩, ⟨la3, ln3, lc3⟩, ⟨ga3, gn3, gc3⟩, ⟨fa3, fn3, fc3⟩, ⟨ra3, rn3, rc3⟩⟩) 43)) (Nat.le_refl _)
      simpa using this
  change Code.wp _ _ _ _ (((w3.alloc (.cells (syc (newS n) ⟨⟨ta3, tn3, tc3⟩, ⟨la3, ln3, lc3⟩, ⟨ga3, gn3, gc3⟩, ⟨fa3, fn3, fc3⟩, ⟨ra3, rn3, rc3⟩⟩) 43)).alloc (.cells (syc (newS n) ⟨⟨ta3, tn3, tc3⟩, ⟨la3, ln3, lc3⟩, ⟨ga3, gn3, gc3⟩, ⟨fa3, fn3, fc3⟩, ⟨ra3, rn3, rc3⟩⟩) 43)).alloc (.cells #[] 25))
  clear R1 R2 hc2 K2 K0 kZ hz o3 k3
  generalize (((w3.alloc (.cells (syc (newS n) ⟨⟨ta3, tn3, tc3⟩, ⟨la3, ln3, lc3⟩, ⟨ga3, gn3, gc3⟩, ⟨fa3, fn3, fc3⟩, ⟨ra3, rn3, rc3⟩⟩) 43)).alloc (.cells (syc (newS n) ⟨⟨ta3, tn3, tc3⟩, ⟨la3, ln3, lc3⟩, ⟨ga3, gn3, gc3⟩, ⟨fa3, fn3, fc3⟩, ⟨ra3, rn3, rc3⟩⟩) 43)).alloc (.cells #[] 25)) = X4 at *
  generalize w3.heap.size = n3 at *
  have hwm : IntKind.i64.wrap (most + 1) = most + 1 := Go.IntWalk.i64_in _ (by omega)
  go_wp2_with (go_at_call 40; refine (l1Below_any g _ _ DV0.out.cur (by omega) (by omega)).mono ?_; rintro e w5 ⟨nn, rfl, nn0, nn1, hc5, k5⟩)
  obtain ⟨N, rfl⟩ : ∃ N : Nat, nn = (N : Int) := ⟨nn.toNat, by omega⟩
  have D5 : Hid (DV w w5 g (n3 + 2) n3 (n3 + 1) ⟨⟨ta3, tn3, tc3⟩, ⟨la3, ln3, lc3⟩, ⟨ga3, gn3, gc3⟩, ⟨fa3, fn3, fc3⟩, ⟨ra3, rn3, rc3⟩⟩ vs3 (newS n) ⟨⟨ta3, tn3, tc3⟩, ⟨la3, ln3, lc3⟩, ⟨ga3, gn3, gc3⟩, ⟨fa3, fn3, fc3⟩, ⟨ra3, rn3, rc3⟩⟩ vs3 (newS n) (.slice (some ⟨n3 + 2, 0, none⟩) 0 0) []) := DV0.out.but hc5 k5
  clear DV0 hc5 k5
  go_loopw [10, 12] (fun u i wr => ∃ (k : Nat) (cs : List Cl) (v : Sv) (vs : List Lv), k ≤ N ∧ i = .int .i64 k ∧ Hid (cs.length = k) ∧ Hid (DV w wr g (n3 + 2) n3 (n3 + 1) ⟨⟨ta3, tn3, tc3⟩, ⟨la3, ln3, lc3⟩, ⟨ga3, gn3, gc3⟩, ⟨fa3, fn3, fc3⟩, ⟨ra3, rn3, rc3⟩⟩ vs3 (newS n) v vs (runS (newS n) cs) u cs) ∧ Hid (∀ c ∈ cs, Few c) ∧ Small (runS (newS n) cs)) (fun _ i _ => N - (intOf i).toNat)
  case atStart => exact ⟨0, [], ⟨⟨ta3, tn3, tc3⟩, ⟨la3, ln3, lc3⟩, ⟨ga3, gn3, gc3⟩, ⟨fa3, fn3, fc3⟩, ⟨ra3, rn3, rc3⟩⟩, vs3, Nat.zero_le _, rfl, rfl, D5, fun c hc => by simp at hc, SM0⟩
  case round =>
    obtain ⟨k, cs, v, vs, hk, rfl, HL, D, HF, SM⟩ := hrel
    clear D5
    obtain ⟨⟨ta5, tn5, tc5⟩, ⟨la5, ln5, lc5⟩, ⟨ga5, gn5, gc5⟩, ⟨fa5, fn5, fc5⟩, ⟨ra5, rn5, rc5⟩⟩ := v
    by_cases hlt : k < N
    · have hlt' : (k : Int) < (N : Int) := by omega
      have DD := D.out
      obtain ⟨_, b1, b2⟩ := DD.box
      dsimp only [syc] at b1
      obtain ⟨sm1, sm2, sm3⟩ := SM
      go_upto_region 9 with (go_at_call 20; refine (l11DrawNext_any DD.cur DD.own (by have := DD.gl; omega) (by omega) (by omega)).mono ?_; rintro e w6 ⟨x, rfl, hx, hc6, k6⟩)
      have D6 : Hid (DV w (w6.alloc (.cells (cc x) 25)) g (n3 + 2) n3 (n3 + 1) ⟨⟨ta3, tn3, tc3⟩, ⟨la3, ln3, lc3⟩, ⟨ga3, gn3, gc3⟩, ⟨fa3, fn3, fc3⟩, ⟨ra3, rn3, rc3⟩⟩ vs3 (newS n) ⟨⟨ta5, tn5, tc5⟩, ⟨la5, ln5, lc5⟩, ⟨ga5, gn5, gc5⟩, ⟨fa5, fn5, fc5⟩, ⟨ra5, rn5, rc5⟩⟩ vs (runS (newS n) cs) u10 cs) := (DD.but hc6 k6).keeps ((Keeps.refl w6).alloc _)
      have X6 : Hid (Blk (w6.alloc (.cells (cc x) 25)) w6.heap.size (cc x)) := Blk.new _ _ _
      have Q6 : Hid (∀ q, Value.ownBlock u10 = some q → q < w6.heap.size) := fun q hq => Nat.lt_of_lt_of_le (DD.row.ltb q hq).2 k6.size
      change Code.wp _ _ _ _ (w6.alloc (.cells (cc x) 25))
      clear DD b1 b2 hc6 k6 D
      generalize w6.alloc (.cells (cc x) 25) = Y6 at *
      generalize w6.heap.size = xb at *
      obtain ⟨_, x1, x2⟩ := X6.out
      go_upto_region 10 with (at_builtin; (refine wpList_pushF rfl _ _ 44 rfl (n3 + 2) 25 (.agg cc0) 5 40 cc Tryz.underlying44 (by kernel_rfl) rfl (by decide) cc_size cc_one _ cs rfl (D6.out.row.keeps ((Keeps.refl _).alloc _)) (by have := D6.out.lbs; simp; omega) x _ 1 (Blk.new _ _ _) rfl (by have := HL.out; unfold maxLen; omega) (by have := HL.out; omega) ?_; intro u7 w7 o7 g7 f7))
      have D7 : Hid (DV w w7 g (n3 + 2) n3 (n3 + 1) ⟨⟨ta3, tn3, tc3⟩, ⟨la3, ln3, lc3⟩, ⟨ga3, gn3, gc3⟩, ⟨fa3, fn3, fc3⟩, ⟨ra3, rn3, rc3⟩⟩ vs3 (newS n) ⟨⟨ta5, tn5, tc5⟩, ⟨la5, ln5, lc5⟩, ⟨ga5, gn5, gc5⟩, ⟨fa5, fn5, fc5⟩, ⟨ra5, rn5, rc5⟩⟩ vs (runS (newS n) cs) u7 (cs ++ [x])) := (D6.out.keeps ((Keeps.refl _).alloc _)).push o7 g7 f7
      have X7 : Hid (Blk w7 xb (cc x)) := (X6.out.keeps ((Keeps.refl _).alloc _)).grown g7 (fun q e e2 => by have := Q6.out q e; omega)
      clear D6 X6 Q6 x1 x2 o7 g7 f7
      have DD := D7.out
      obtain ⟨_, b1, b2⟩ := DD.box
      dsimp only [syc] at b1
      obtain ⟨_, x1, x2⟩ := X7.out
      obtain ⟨cn, Hcn⟩ : ∃ z, Hid (callN (runS (newS n) cs) x = z) := ⟨_, rfl⟩
      obtain ⟨cS, HcS⟩ : ∃ z, Hid (callS (runS (newS n) cs) x = z) := ⟨_, rfl⟩
      have SC : Hid (Calls Tryz.prog 47 #[.agg (syc (runS (newS n) cs) ⟨⟨ta5, tn5, tc5⟩, ⟨la5, ln5, lc5⟩, ⟨ga5, gn5, gc5⟩, ⟨fa5, fn5, fc5⟩, ⟨ra5, rn5, rc5⟩⟩), ck x] w7 (Told w7 cS cn)) := by
        have := specSysCall_any (DD.own.on (by omega)) x
        rw [Hcn.out, HcS.out] at this
        exact this
      go_upto_region 11 with (go_at_call 47; refine SC.out.mono ?_; rintro e w8 ⟨v8, vs8, rfl, o8, k8⟩; obtain ⟨⟨ta7, tn7, tc7⟩, ⟨la7, ln7, lc7⟩, ⟨ga7, gn7, gc7⟩, ⟨fa7, fn7, fc7⟩, ⟨ra7, rn7, rc7⟩⟩ := v8)
      have KY : Keeps w7 (w8.alloc (.cells (syc (cS : Sy) ⟨⟨ta7, tn7, tc7⟩, ⟨la7, ln7, lc7⟩, ⟨ga7, gn7, gc7⟩, ⟨fa7, fn7, fc7⟩, ⟨ra7, rn7, rc7⟩⟩) 43)) := k8.alloc _
      have O8 : Hid (OwnS (w8.alloc (.cells (syc (cS : Sy) ⟨⟨ta7, tn7, tc7⟩, ⟨la7, ln7, lc7⟩, ⟨ga7, gn7, gc7⟩, ⟨fa7, fn7, fc7⟩, ⟨ra7, rn7, rc7⟩⟩) 43)) w7.heap.size ⟨⟨ta7, tn7, tc7⟩, ⟨la7, ln7, lc7⟩, ⟨ga7, gn7, gc7⟩, ⟨fa7, fn7, fc7⟩, ⟨ra7, rn7, rc7⟩⟩ vs8 cS) := o8.keeps ((Keeps.refl _).alloc _)
      have N8 : Hid (Blk (w8.alloc (.cells (syc (cS : Sy) ⟨⟨ta7, tn7, tc7⟩, ⟨la7, ln7, lc7⟩, ⟨ga7, gn7, gc7⟩, ⟨fa7, fn7, fc7⟩, ⟨ra7, rn7, rc7⟩⟩) 43)) w8.heap.size (syc (cS : Sy) ⟨⟨ta7, tn7, tc7⟩, ⟨la7, ln7, lc7⟩, ⟨ga7, gn7, gc7⟩, ⟨fa7, fn7, fc7⟩, ⟨ra7, rn7, rc7⟩⟩)) := Blk.new _ _ _
      have hn8 : Hid (n3 + 1 ≠ w8.heap.size) := by show _ ≠ _; have := DD.box.lt; have := k8.size; omega
      change Code.wp _ _ _ _ (w8.alloc (.cells (syc (cS : Sy) ⟨⟨ta7, tn7, tc7⟩, ⟨la7, ln7, lc7⟩, ⟨ga7, gn7, gc7⟩, ⟨fa7, fn7, fc7⟩, ⟨ra7, rn7, rc7⟩⟩) 43))
      clear b1 b2 x1 x2 o8 k8 SC
      generalize w8.alloc (.cells (syc (cS : Sy) ⟨⟨ta7, tn7, tc7⟩, ⟨la7, ln7, lc7⟩, ⟨ga7, gn7, gc7⟩, ⟨fa7, fn7, fc7⟩, ⟨ra7, rn7, rc7⟩⟩) 43) = Y8 at *
      generalize w8.heap.size = nb at *
      have HF2 : Hid (∀ c ∈ cs ++ [x], Few c) := fun c hc => by
        rcases List.mem_append.1 hc with h | h
        · exact HF.out c h
        · simp at h; subst h; exact hx
      have HL2 : Hid ((cs ++ [x]).length = k + 1) := by show _ = _; rw [List.length_append, HL.out]; rfl
      cases e0 : (cn == 0)
      · have HR : Hid (runS (newS n) (cs ++ [x]) = runS (newS n) cs) := by show _ = _; rw [runS_snoc, Hcn.out, e0]; rfl
        have D8 : Hid (DV w Y8 g (n3 + 2) n3 (n3 + 1) ⟨⟨ta3, tn3, tc3⟩, ⟨la3, ln3, lc3⟩, ⟨ga3, gn3, gc3⟩, ⟨fa3, fn3, fc3⟩, ⟨ra3, rn3, rc3⟩⟩ vs3 (newS n) ⟨⟨ta5, tn5, tc5⟩, ⟨la5, ln5, lc5⟩, ⟨ga5, gn5, gc5⟩, ⟨fa5, fn5, fc5⟩, ⟨ra5, rn5, rc5⟩⟩ vs (runS (newS n) (cs ++ [x])) u7 (cs ++ [x])) := by rw [HR.out]; exact D7.out.keeps KY
        have SM2 : Small (runS (newS n) (cs ++ [x])) := by rw [HR.out]; exact ⟨sm1, sm2, sm3⟩
        clear DD D7 HR
        go_wp2
        exact ⟨⟨k + 1, cs ++ [x], ⟨⟨ta5, tn5, tc5⟩, ⟨la5, ln5, lc5⟩, ⟨ga5, gn5, gc5⟩, ⟨fa5, fn5, fc5⟩, ⟨ra5, rn5, rc5⟩⟩, vs, by omega, by go_num, HL2, D8, HF2, SM2⟩, by simp only [intOf]; omega⟩
      · have HR : Hid (runS (newS n) (cs ++ [x]) = cS) := by show _ = _; rw [runS_snoc, Hcn.out, e0, HcS.out]; rfl
        have D8 : Hid (DV w (putC Y8 (n3 + 1) 0 (syc (cS : Sy) ⟨⟨ta7, tn7, tc7⟩, ⟨la7, ln7, lc7⟩, ⟨ga7, gn7, gc7⟩, ⟨fa7, fn7, fc7⟩, ⟨ra7, rn7, rc7⟩⟩).toList) g (n3 + 2) n3 (n3 + 1) ⟨⟨ta3, tn3, tc3⟩, ⟨la3, ln3, lc3⟩, ⟨ga3, gn3, gc3⟩, ⟨fa3, fn3, fc3⟩, ⟨ra3, rn3, rc3⟩⟩ vs3 (newS n) ⟨⟨ta7, tn7, tc7⟩, ⟨la7, ln7, lc7⟩, ⟨ga7, gn7, gc7⟩, ⟨fa7, fn7, fc7⟩, ⟨ra7, rn7, rc7⟩⟩ vs8 (runS (newS n) (cs ++ [x])) u7 (cs ++ [x])) := by rw [HR.out]; exact D7.out.call KY O8.out
        have SM2 : Small (runS (newS n) (cs ++ [x])) := by rw [HR.out, ← HcS.out]; exact call_small (by rw [Hcn.out]; simpa using e0)
        obtain ⟨_, b1, b2⟩ := N8.out
        dsimp only [syc] at b1
        have BO := D7.out.box.keeps KY
        obtain ⟨_, c1, c2⟩ := BO
        clear DD D7 HR
        go_upto_region 7 with fail
        change Code.wp _ _ _ _ (putC Y8 (n3 + 1) 0 (syc (cS : Sy) ⟨⟨ta7, tn7, tc7⟩, ⟨la7, ln7, lc7⟩, ⟨ga7, gn7, gc7⟩, ⟨fa7, fn7, fc7⟩, ⟨ra7, rn7, rc7⟩⟩).toList)
        clear b1 b2 c1 c2
        generalize putC Y8 (n3 + 1) 0 (syc (cS : Sy) ⟨⟨ta7, tn7, tc7⟩, ⟨la7, ln7, lc7⟩, ⟨ga7, gn7, gc7⟩, ⟨fa7, fn7, fc7⟩, ⟨ra7, rn7, rc7⟩⟩).toList = X9 at *
        go_wp2
        exact ⟨⟨k + 1, cs ++ [x], ⟨⟨ta7, tn7, tc7⟩, ⟨la7, ln7, lc7⟩, ⟨ga7, gn7, gc7⟩, ⟨fa7, fn7, fc7⟩, ⟨ra7, rn7, rc7⟩⟩, vs8, by omega, by go_num, HL2, D8, HF2, SM2⟩, by simp only [intOf]; omega⟩
    · have hlt' : decide ((k : Int) < (N : Int)) = false := by simp; omega
      go_upto_region 13 with fail
      have DE := D.out
      obtain ⟨P1, B1, P2, E1, E2, O1, O2, O3, C3, K3⟩ := DE.told
      have q1 := B1.cells
      have q2 := B1.frozens
      have e0 : ∀ w', Pair n3 (n3 + 1) (syc (newS n) ⟨⟨ta3, tn3, tc3⟩, ⟨la3, ln3, lc3⟩, ⟨ga3, gn3, gc3⟩, ⟨fa3, fn3, fc3⟩, ⟨ra3, rn3, rc3⟩⟩) (syc (runS (newS n) cs) ⟨⟨ta5, tn5, tc5⟩, ⟨la5, ln5, lc5⟩, ⟨ga5, gn5, gc5⟩, ⟨fa5, fn5, fc5⟩, ⟨ra5, rn5, rc5⟩⟩) w' → ∀ q, w'.cell? ⟨n3, q, none⟩ = (syc (newS n) ⟨⟨ta3, tn3, tc3⟩, ⟨la3, ln3, lc3⟩, ⟨ga3, gn3, gc3⟩, ⟨fa3, fn3, fc3⟩, ⟨ra3, rn3, rc3⟩⟩)[q]? := fun w' hh => hh.one.cells
      have e1 : ∀ w', Pair n3 (n3 + 1) (syc (newS n) ⟨⟨ta3, tn3, tc3⟩, ⟨la3, ln3, lc3⟩, ⟨ga3, gn3, gc3⟩, ⟨fa3, fn3, fc3⟩, ⟨ra3, rn3, rc3⟩⟩) (syc (runS (newS n) cs) ⟨⟨ta5, tn5, tc5⟩, ⟨la5, ln5, lc5⟩, ⟨ga5, gn5, gc5⟩, ⟨fa5, fn5, fc5⟩, ⟨ra5, rn5, rc5⟩⟩) w' → ∀ q, w'.cell? ⟨n3 + 1, q, none⟩ = (syc (runS (newS n) cs) ⟨⟨ta5, tn5, tc5⟩, ⟨la5, ln5, lc5⟩, ⟨ga5, gn5, gc5⟩, ⟨fa5, fn5, fc5⟩, ⟨ra5, rn5, rc5⟩⟩)[q]? := fun w' hh => hh.two.cells
      dsimp only [syc] at e0 e1
      refine wp_region_held_drew (S := fun w' => Pair n3 (n3 + 1) (syc (newS n) ⟨⟨ta3, tn3, tc3⟩, ⟨la3, ln3, lc3⟩, ⟨ga3, gn3, gc3⟩, ⟨fa3, fn3, fc3⟩, ⟨ra3, rn3, rc3⟩⟩) (syc (runS (newS n) cs) ⟨⟨ta5, tn5, tc5⟩, ⟨la5, ln5, lc5⟩, ⟨ga5, gn5, gc5⟩, ⟨fa5, fn5, fc5⟩, ⟨ra5, rn5, rc5⟩⟩) w') (by kernel_rfl) ?_ (fun hHeld => ?_)
      · exact ⟨DE.sbx.keeps (Keeps.refl _).drew, DE.box.keeps (Keeps.refl _).drew⟩
      refine Plan.go [0, 1, 2] ?_
      iterate 3 (refine takeL (by simp only [opsAt]; rfl) (by kernel_rfl) (by exact fun _ _ _ h => h) (by rfl) (by assumption) (fun w _ => by go_simp; try (with_reducible rfl)) ?_; try simp only [putAtH])
      refine Plan.nil ?_
      refine callH 3 (by kernel_rfl) (by simp only [opsAt]; rfl) (fun K hK => ?_)
      obtain ⟨_, r1, r2⟩ := DE.r1
      go_simp
      try go_wp2_with fail
      refine hK.out _ ((putC wr w.heap.size 0 (syc (newS n) ⟨⟨ta3, tn3, tc3⟩, ⟨la3, ln3, lc3⟩, ⟨ga3, gn3, gc3⟩, ⟨fa3, fn3, fc3⟩, ⟨ra3, rn3, rc3⟩⟩).toList).drew) ?_ (fun hHeld => ?_)
      · exact ⟨P1.one.keeps (Keeps.refl _).drew, P1.two.keeps (Keeps.refl _).drew⟩
      clear hK K
      try simp only [putAtH]
      clear r1 r2
      generalize putC wr w.heap.size 0 (syc (newS n) ⟨⟨ta3, tn3, tc3⟩, ⟨la3, ln3, lc3⟩, ⟨ga3, gn3, gc3⟩, ⟨fa3, fn3, fc3⟩, ⟨ra3, rn3, rc3⟩⟩).toList = X1 at *
      refine takeH 4 (v := ?_) (by simp only [opsAt]; rfl) (by kernel_rfl) (by exact fun _ _ _ h => h) (by rfl) (by assumption) ?_ ?_
      rotate_left
      · (intro w _; go_simp; try (with_reducible rfl))
      try simp only [putAtH]
      refine callH 5 (by kernel_rfl) (by simp only [opsAt]; rfl) (fun K hK => ?_)
      go_simp
      try go_wp2_with fail
      refine hK.out _ ((putC X1 (w.heap.size + 1) 0 (syc (runS (newS n) cs) ⟨⟨ta5, tn5, tc5⟩, ⟨la5, ln5, lc5⟩, ⟨ga5, gn5, gc5⟩, ⟨fa5, fn5, fc5⟩, ⟨ra5, rn5, rc5⟩⟩).toList).drew) ?_ (fun hHeld => ?_)
      · exact ⟨P2.one.keeps (Keeps.refl _).drew, P2.two.keeps (Keeps.refl _).drew⟩
      clear hK K
      try simp only [putAtH]
      refine wpAnyH_done (by kernel_rfl) ?_ _
      clear q1 q2 e0 e1 hHeld
      generalize putC X1 (w.heap.size + 1) 0 (syc (runS (newS n) cs) ⟨⟨ta5, tn5, tc5⟩, ⟨la5, ln5, lc5⟩, ⟨ga5, gn5, gc5⟩, ⟨fa5, fn5, fc5⟩, ⟨ra5, rn5, rc5⟩⟩).toList = Q at *
      replace E1 := E1.keeps (Keeps.refl _).drew
      replace E2 := E2.keeps (Keeps.refl _).drew
      replace O1 := O1.keeps (Keeps.refl _).drew
      replace O2 := O2.keeps (Keeps.refl _).drew
      replace O3 := O3.keeps (Keeps.refl _).drew
      replace C3 := C3.keeps (Keeps.refl _).drew
      replace K3 := K3.drew
      generalize Q.drew = Q2 at *
      go_wp2
      obtain ⟨a9, c9, e9⟩ := O3.form cc_size
      subst e9
      have ho := DE.ord
      exact bodyPost_ret (v := .tuple #[.agg (syc (newS n) ⟨⟨ta3, tn3, tc3⟩, ⟨la3, ln3, lc3⟩, ⟨ga3, gn3, gc3⟩, ⟨fa3, fn3, fc3⟩, ⟨ra3, rn3, rc3⟩⟩), .slice a9 cs.length c9, .agg (syc (runS (newS n) cs) ⟨⟨ta5, tn5, tc5⟩, ⟨la5, ln5, lc5⟩, ⟨ga5, gn5, gc5⟩, ⟨fa5, fn5, fc5⟩, ⟨ra5, rn5, rc5⟩⟩)]) (by simp [results, Tryz.results18, go_sem, E1.cells, E2.cells]) rfl ⟨n, cs, ⟨⟨ta3, tn3, tc3⟩, ⟨la3, ln3, lc3⟩, ⟨ga3, gn3, gc3⟩, ⟨fa3, fn3, fc3⟩, ⟨ra3, rn3, rc3⟩⟩, vs3, ⟨⟨ta5, tn5, tc5⟩, ⟨la5, ln5, lc5⟩, ⟨ga5, gn5, gc5⟩, ⟨fa5, fn5, fc5⟩, ⟨ra5, rn5, rc5⟩⟩, vs, a9, c9, n3 + 2, rfl, hn1, HF.out, by have := HL.out; omega, O1, O2, SM, O3, fun i b hi => by have := DE.stl i b hi; omega, by omega, C3, K3⟩
end Go.Proofs.YtpikopdfkhagmaaGreatDoor
