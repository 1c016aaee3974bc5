/-
  A system of one's own: one row of it is another one now, the others are as they were.
  The system: a copy of it.
  The system: the laws' own helpers.
  The system: contracts of the model's functions that only read it.
  The system: the parts of time that are counted on a processor.
  Ticks: who is awake on a processor.
-/
import Derived.Test.YthobpahnmmdbiaaGreatDoorGSys1
import Derived.Test.YthobpahnmmdbiaaGreatDoorRowCopy
import Derived.Test.YthobpahnmmdbiaaGreatDoorGLock3
import Derived.Test.YthobpahnmmdbiaaGreatDoorGLock4
import Derived.Test.YthobpahnmmdbiaaGreatDoorGSum1
import Derived.Test.YthobpahnmmdbiaaGreatDoorGPure2
namespace Go.Proofs.YthobpahnmmdbiaaGreatDoor
open Go.RowKit

/-- The blocks of a list of locks. -/
def LkBlk (v : Value) (vs : List Lv) (b : Nat) : Prop := v.ownBlock = some b ∨ ∃ x ∈ vs, x.row.ownBlock = some b
theorem Mine.sameB {w w' : World} {lo hi : Nat} {v : Value} {vs : List Lv} {ls : List Lk} (h : Mine w lo hi v vs ls) (k : ∀ b, LkBlk v vs b → w'.heap[b]? = w.heap[b]?) : Mine w' lo hi v vs ls :=
  ⟨h.len, h.own.same fun b e => k b (.inl e), h.out, fun i x l hx hl => ⟨(h.rows i x l hx hl).1, (h.rows i x l hx hl).2.same fun b e => k b (.inr ⟨x, List.mem_of_getElem? hx, e⟩)⟩, h.inn, h.apart⟩
theorem Mine.blkLt {w : World} {lo hi : Nat} {v : Value} {vs : List Lv} {ls : List Lk} (h : Mine w lo hi v vs ls) {b : Nat} (hb : LkBlk v vs b) : lo ≤ b ∧ b < w.heap.size := by
  rcases hb with e | ⟨x, hx, e⟩
  · exact h.own.ltb b e
  · obtain ⟨i, hi⟩ := List.mem_iff_getElem?.1 hx
    obtain ⟨l, hl⟩ := some_in (xs := ls) (k := i) (by rw [← h.len]; exact lt_of_some hi)
    exact (h.rows i x l hi hl).2.ltb b e
theorem OwnS.blkLt {w : World} {lo : Nat} {v : Sv} {vs : List Lv} {s : Sy} (h : OwnS w lo v vs s) {i b : Nat} (hb : ofKind v vs i b) : lo ≤ b ∧ b < w.heap.size := by
  match i, hb with
  | 0, hb => exact h.t.ltb b hb
  | 1, hb => exact h.l.blkLt hb
  | 2, hb => exact h.g.ltb b hb
  | 3, hb => exact h.f.ltb b hb
  | 4, hb => exact h.r.ltb b hb
/-- Where the kind i alone has turned. -/
theorem OwnS.others {w w' : World} {lo : Nat} {v : Sv} {vs : List Lv} {s : Sy} (h : OwnS w lo v vs s) (i : Nat) (k : ∀ b, b < w.heap.size → ¬ ofKind v vs i b → w'.heap[b]? = w.heap[b]?) {j b : Nat} (hj : j ≠ i) (hb : ofKind v vs j b) : w'.heap[b]? = w.heap[b]? :=
  k b (h.blkLt hb).2 fun hi => hj (h.ap j i b hb hi)
theorem apart_new {w : World} {lo : Nat} {v v' : Sv} {vs vs' : List Lv} {s : Sy} (h : OwnS w lo v vs s) (i : Nat) (hi : ∀ b, ofKind v' vs' i b → ofKind v vs i b ∨ w.heap.size ≤ b) (ho : ∀ j b, j ≠ i → ofKind v' vs' j b → ofKind v vs j b) :
    ∀ j k b, ofKind v' vs' j b → ofKind v' vs' k b → j = k := by
  intro j k b hj hk
  by_cases ej : j = i
  · by_cases ek : k = i
    · omega
    · have h2 := ho k b ek hk
      rw [ej] at hj
      rcases hi b hj with h1 | h1
      · rw [ej]; exact h.ap i k b h1 h2
      · have := (h.blkLt h2).2; omega
  · have h1 := ho j b ej hj
    by_cases ek : k = i
    · rw [ek] at hk
      rcases hi b hk with h2 | h2
      · rw [ek]; exact h.ap j i b h1 h2
      · have := (h.blkLt h1).2; omega
    · exact h.ap j k b h1 (ho k b ek hk)
/-- The row of tasks is another one now: it lies where it lay, or in a new block. -/
theorem OwnS.setT {w w' : World} {lo : Nat} {v : Sv} {vs : List Lv} {s : Sy} (h : OwnS w lo v vs s) (hz : w.heap.size ≤ w'.heap.size) (k : ∀ b, b < w.heap.size → ¬ ofKind v vs 0 b → w'.heap[b]? = w.heap[b]?) (x : Rw) (xs : List Tsk) (O : Own 46 14 tc w' lo x.val xs) (hx : ∀ b, x.val.ownBlock = some b → v.t.val.ownBlock = some b ∨ w.heap.size ≤ b) :
    OwnS w' lo { v with t := x } vs { s with tasks := xs } :=
  ⟨O, (h.l.sameB fun b e => h.others 0 k (j := 1) (by decide) e).widen (Nat.le_refl _) hz, h.g.same fun b e => h.others 0 k (j := 2) (by decide) e, h.f.same fun b e => h.others 0 k (j := 3) (by decide) e, h.r.same fun b e => h.others 0 k (j := 4) (by decide) e, apart_new h 0 hx (by
      intro j b hj hb
      match j, hb with
      | 0, hb => exact absurd rfl hj
      | 1, hb => exact hb
      | 2, hb => exact hb
      | 3, hb => exact hb
      | 4, hb => exact hb)⟩
/-- The row of ghosts is another one now: it lies where it lay, or in a new block. -/
theorem OwnS.setG {w w' : World} {lo : Nat} {v : Sv} {vs : List Lv} {s : Sy} (h : OwnS w lo v vs s) (hz : w.heap.size ≤ w'.heap.size) (k : ∀ b, b < w.heap.size → ¬ ofKind v vs 2 b → w'.heap[b]? = w.heap[b]?) (x : Rw) (xs : List Gh) (O : Own 96 4 ghc w' lo x.val xs) (hx : ∀ b, x.val.ownBlock = some b → v.g.val.ownBlock = some b ∨ w.heap.size ≤ b) :
    OwnS w' lo { v with g := x } vs { s with ghosts := xs } :=
  ⟨h.t.same fun b e => h.others 2 k (j := 0) (by decide) e, (h.l.sameB fun b e => h.others 2 k (j := 1) (by decide) e).widen (Nat.le_refl _) hz, O, h.f.same fun b e => h.others 2 k (j := 3) (by decide) e, h.r.same fun b e => h.others 2 k (j := 4) (by decide) e, apart_new h 2 hx (by
      intro j b hj hb
      match j, hb with
      | 0, hb => exact hb
      | 1, hb => exact hb
      | 2, hb => exact absurd rfl hj
      | 3, hb => exact hb
      | 4, hb => exact hb)⟩
/-- The row of floors is another one now: it lies where it lay, or in a new block. -/
theorem OwnS.setF {w w' : World} {lo : Nat} {v : Sv} {vs : List Lv} {s : Sy} (h : OwnS w lo v vs s) (hz : w.heap.size ≤ w'.heap.size) (k : ∀ b, b < w.heap.size → ¬ ofKind v vs 3 b → w'.heap[b]? = w.heap[b]?) (x : Rw) (xs : List Int) (O : OwnN w' lo x.val xs) (hx : ∀ b, x.val.ownBlock = some b → v.f.val.ownBlock = some b ∨ w.heap.size ≤ b) :
    OwnS w' lo { v with f := x } vs { s with floors := xs } :=
  ⟨h.t.same fun b e => h.others 3 k (j := 0) (by decide) e, (h.l.sameB fun b e => h.others 3 k (j := 1) (by decide) e).widen (Nat.le_refl _) hz, h.g.same fun b e => h.others 3 k (j := 2) (by decide) e, O, h.r.same fun b e => h.others 3 k (j := 4) (by decide) e, apart_new h 3 hx (by
      intro j b hj hb
      match j, hb with
      | 0, hb => exact hb
      | 1, hb => exact hb
      | 2, hb => exact hb
      | 3, hb => exact absurd rfl hj
      | 4, hb => exact hb)⟩
/-- The row of trace is another one now: it lies where it lay, or in a new block. -/
theorem OwnS.setR {w w' : World} {lo : Nat} {v : Sv} {vs : List Lv} {s : Sy} (h : OwnS w lo v vs s) (hz : w.heap.size ≤ w'.heap.size) (k : ∀ b, b < w.heap.size → ¬ ofKind v vs 4 b → w'.heap[b]? = w.heap[b]?) (x : Rw) (xs : List Tn) (O : Own 44 3 tnc w' lo x.val xs) (hx : ∀ b, x.val.ownBlock = some b → v.r.val.ownBlock = some b ∨ w.heap.size ≤ b) :
    OwnS w' lo { v with r := x } vs { s with trace := xs } :=
  ⟨h.t.same fun b e => h.others 4 k (j := 0) (by decide) e, (h.l.sameB fun b e => h.others 4 k (j := 1) (by decide) e).widen (Nat.le_refl _) hz, h.g.same fun b e => h.others 4 k (j := 2) (by decide) e, h.f.same fun b e => h.others 4 k (j := 3) (by decide) e, O, apart_new h 4 hx (by
      intro j b hj hb
      match j, hb with
      | 0, hb => exact hb
      | 1, hb => exact hb
      | 2, hb => exact hb
      | 3, hb => exact hb
      | 4, hb => exact absurd rfl hj)⟩
/-- The locks are others now: they lie where they lay, or in new blocks. -/
theorem OwnS.setL {w w' : World} {lo : Nat} {v : Sv} {vs vs' : List Lv} {s : Sy} (h : OwnS w lo v vs s) (k : ∀ b, b < w.heap.size → ¬ ofKind v vs 1 b → w'.heap[b]? = w.heap[b]?) (x : Rw) (ls : List Lk) (L : Mine w' lo w'.heap.size x.val vs' ls) (hx : ∀ b, LkBlk x.val vs' b → LkBlk v.l.val vs b ∨ w.heap.size ≤ b) :
    OwnS w' lo { v with l := x } vs' { s with locks := ls } :=
  ⟨h.t.same fun b e => h.others 1 k (j := 0) (by decide) e, L, h.g.same fun b e => h.others 1 k (j := 2) (by decide) e, h.f.same fun b e => h.others 1 k (j := 3) (by decide) e, h.r.same fun b e => h.others 1 k (j := 4) (by decide) e, apart_new h 1 hx (by
      intro j b hj hb
      match j, hb with
      | 0, hb => exact hb
      | 1, hb => exact absurd rfl hj
      | 2, hb => exact hb
      | 3, hb => exact hb
      | 4, hb => exact hb)⟩
end Go.Proofs.YthobpahnmmdbiaaGreatDoor
namespace Go.Proofs.YthobpahnmmdbiaaGreatDoor
open Go.RowKit
attribute [local go_sem] Keeps.refl Keeps.alloc Keeps.drew Keeps.drewN

/-- The rows of a system of which nothing is there. -/
abbrev Sv.zero : Sv := ⟨⟨none, 0, 0⟩, ⟨none, 0, 0⟩, ⟨none, 0, 0⟩, ⟨none, 0, 0⟩, ⟨none, 0, 0⟩⟩
theorem Own.fresh {α : Type} (e : TypeId) (sz : Nat) (c : α → Array Value) {w W : World} {n : Nat} (h : W.heap.size = n) (hw : w = W.alloc (.cells #[] e)) : Own e sz c w n (.slice (Option.some ⟨n, 0, none⟩) 0 0) [] := by
  subst hw h
  exact Own.new e sz c W (Nat.le_refl _)
theorem Blk.aside {g : Nat} {w w' : World} {b : Nat} {C : Array Value} (h : Blk w b C) (k : KeepsBut g w w') (hg : b ≠ g) : Blk w' b C :=
  ⟨Nat.lt_of_lt_of_le h.lt k.size, fun i => (k.cells b i h.lt hg).trans (h.cells i), fun i => (World.frozen?_of_block (w := w) (k.block b h.lt hg)).trans (h.frozens i)⟩
theorem KeepsBut.putOwn {g : Nat} {a : World} : ∀ (L : List Value) (w : World) (k : Nat), KeepsBut g a w → KeepsBut g a (Go.Proofs.YthobpahnmmdbiaaGreatDoor.putC w g k L)
  | [], _, _, h => h
  | v :: r, _, k, h => KeepsBut.putOwn r _ (k + 1) (h.setCell k v)
/-- A row has been copied, and its slice is stored over the cell k of the block b. -/
theorem copied {X w' : World} {e : TypeId} {b k n : Nat} {C : Array Value} (hn : X.heap.size = n) (B : Blk X b C) (hk : k < C.size) (g : (X.alloc (.cells #[] e)).grownBy w' (some n)) (u : Value) :
    Blk w' b C ∧ KeepsBut b X (w'.setCell ⟨b, k, none⟩ u) ∧ Blk (w'.setCell ⟨b, k, none⟩ u) b (C.setIfInBounds k u) := by
  have hl := B.lt
  have B1 : Blk w' b C := (B.alloc _).grown g (by intro q hq; cases hq; omega)
  exact ⟨B1, ((KeepsBut.of ((Keeps.refl X).alloc _)).grown g (by intro q hq; cases hq; omega)).setCell k u, B1.set k hk u⟩
end Go.Proofs.YthobpahnmmdbiaaGreatDoor
namespace Go.Proofs.YthobpahnmmdbiaaGreatDoor
open Go.RowKit
attribute [local go_sem] Keeps.refl Keeps.alloc Keeps.drew Keeps.drewN

/-- A row that is known whole, and what lies in it: a row of one's own. -/
theorem own_of_row {α : Type} {sz : Nat} {c : α → Array Value} {w : World} {lo b : Nat} {t : TypeId} {f : Nat → Value} {xs : List α} (hc : ∀ x, (c x).size = sz) (hsz : 0 < sz) (hr : w.rowIs b t (xs.length * sz) f) (hl : Lies sz c w (some ⟨b, 0, none⟩) xs) (hb : lo ≤ b) (hm : xs.length ≤ maxLen) :
    Own t sz c w lo (.slice (some ⟨b, 0, none⟩) xs.length xs.length) xs := by
  obtain ⟨C, hh, hs, hf⟩ := hr
  refine ⟨flatC_length hc xs, .inr ⟨b, xs.length, C, rfl, hb, hh, Nat.le_refl _, hm, hs, ?_⟩⟩
  apply List.ext_getElem?
  intro j
  by_cases hj : j < xs.length * sz
  · have hq : j / sz < xs.length := Nat.div_lt_of_lt_mul (by rw [Nat.mul_comm]; exact hj)
    have hmm : j % sz < sz := Nat.mod_lt _ hsz
    have hjj : j / sz * sz + j % sz = j := by rw [Nat.mul_comm]; exact Nat.div_add_mod j sz
    obtain ⟨x, hx⟩ := some_in hq
    have h1 := flatC_at hc xs (j / sz) x hx (j % sz) hmm
    rw [hjj] at h1
    rw [h1]
    rcases hl with rfl | ⟨b', off, e, _, hl⟩
    · simp at hq
    · simp only [Option.some.injEq, Addr.mk.injEq] at e
      obtain ⟨rfl, rfl, -⟩ := e
      have h2 := hl (j / sz) x hx (j % sz) hmm
      rw [Nat.zero_add, hjj] at h2
      rw [← h2]
      simp [World.cell?, hh, hj]
  · rw [List.getElem?_eq_none (by simp; omega), List.getElem?_eq_none (by rw [flatC_length hc]; omega)]
set_option maxRecDepth 100000 in
theorem toTaskS_own (a : Option Addr) (n cap : Nat) (ts : List Tsk) (w : World) (hn : ts.length = n) (hl : ts.length ≤ 1048576) (hs : Ts w a ts) :
    Calls Tryz.prog 52 #[.slice a n cap] w fun e w' => ∃ b, e = .returned (.slice (some ⟨b, 0, none⟩) n n) ∧ Own 46 14 tc w' w.heap.size (.slice (some ⟨b, 0, none⟩) n n) ts ∧ Keeps w w' := by
  subst hn
  refine (toTaskS_any a cap ts w hl hs).mono ?_
  rintro e w' ⟨b, rfl, l, ⟨f, hr⟩, hb, k⟩
  exact ⟨b, rfl, own_of_row tc_size (by decide) hr l hb (by unfold maxLen; omega), k⟩

/-- How much is left when a system has been counted. -/
def szSysL (s : Sy) (left : Int) : Int := if (sizeS s : Int) ≤ left then left - sizeS s else -1
set_option maxRecDepth 100000 in
set_option maxHeartbeats 4000000 in
theorem szSys_any {p : Bool} {w : World} {v : Sv} {s : Sy} (h : SysLay p w v s) :
    Calls Tryz.prog 24 #[.agg (syc s v), .int .i64 1048576] w fun e w' => e = .returned (.int .i64 (szSysL s 1048576)) ∧ Keeps w w' := by
  have kW : Keeps w (w.alloc (.cells (syc s v) 38)) := (Keeps.refl w).alloc _
  have hb : ∀ w', Keeps (w.alloc (.cells (syc s v) 38)) w' → ∀ j, w'.cell? ⟨w.heap.size, j, none⟩ = (syc s v)[j]? := fun w' k => ((Blk.new w (syc s v) 38).keeps k).cells
  have HS : Hid (SysLay p (w.alloc (.cells (syc s v) 38)) v s) := h.keeps kW
  have t1 := h.tm
  have g1 := h.gm
  have f1 := h.fm
  have r1 := h.rm
  have e1 := h.tl
  have e2 := h.gl
  have e3 := h.fl
  have e4 := h.rl
  obtain ⟨L, HL⟩ : ∃ L, sizeN s.locks = L := ⟨_, rfl⟩
  have HZ : Hid (sizeS s = v.t.n + L + v.g.n + v.f.n + v.r.n) := by show _ = _; unfold sizeS; rw [e1, e2, e3, e4, HL]
  have HLo : Hid (sizeN s.locks = L) := HL
  clear e1 e2 e3 e4 HL h
  have BAD : Hid (∀ (_ : ¬ (v.t.n + L + v.g.n + v.f.n + v.r.n : Nat) ≤ 1048576), szSysL s 1048576 = -1) := fun hn => if_neg (by rw [HZ.out]; omega)
  go_enter Tryz.func24, Tryz.ntmps24
  go_wp2_with fail
  generalize w.alloc (.cells (syc s v) 38) = W at *
  refine (szTaskS_any _ _ _ _ _ t1 (by decide) (by decide)).mono ?_
  rintro e w' ⟨rfl, hw'⟩
  have hw2 := hw'.symm
  subst hw2
  by_cases c1 : (v.t.n : Int) ≤ 1048576
  rotate_left
  · have Hr : Hid (szSysL s 1048576 = -1) := BAD.out (by omega)
    rw [if_neg c1]
    go_wp2
    go_ret
    exact ⟨by rw [Hr.out]; rfl, kW⟩
  rw [if_pos c1]
  have d1 : decide ((1048576 : Int) - (v.t.n : Int) < 0) = false := by simp; omega
  have LK := szLockS_left v.l.a v.l.cap s.locks (1048576 - (v.t.n : Int)) W (by omega) (by omega) (by rw [HS.out.ll]; exact HS.out.lm) HS.out.l
  rw [HS.out.ll] at LK
  go_wp2_with fail
  refine LK.mono ?_
  rintro e w1 ⟨rfl, k1⟩
  clear LK
  by_cases c2 : (L : Int) ≤ 1048576 - (v.t.n : Int)
  rotate_left
  · have Hr : Hid (szSysL s 1048576 = -1) := BAD.out (by omega)
    have Hq : Hid (szLeft s.locks (1048576 - (v.t.n : Int)) = -1) := if_neg (by rw [HLo.out]; exact c2)
    rw [Hq.out]
    go_wp2
    go_ret
    exact ⟨by rw [Hr.out]; rfl, kW.trans k1⟩
  have Hq : Hid (szLeft s.locks (1048576 - (v.t.n : Int)) = 1048576 - (v.t.n : Int) - L) := by show _ = _; unfold szLeft; rw [HLo.out, if_pos c2]
  rw [Hq.out]
  have d2 : decide ((1048576 : Int) - (v.t.n : Int) - (L : Int) < 0) = false := by simp; omega
  go_wp2_with fail
  refine (szGhostS_any _ _ _ _ _ g1 (by omega) (by omega)).mono ?_
  rintro e w' ⟨rfl, hw'⟩
  have hw2 := hw'.symm
  subst hw2
  by_cases c3 : (v.g.n : Int) ≤ 1048576 - (v.t.n : Int) - L
  rotate_left
  · have Hr : Hid (szSysL s 1048576 = -1) := BAD.out (by omega)
    have Hq : Hid (szOf v.g.n (1048576 - (v.t.n : Int) - L) = -1) := if_neg c3
    rw [Hq.out]
    go_wp2
    go_ret
    exact ⟨by rw [Hr.out]; rfl, kW.trans k1⟩
  have Hq : Hid (szOf v.g.n (1048576 - (v.t.n : Int) - L) = 1048576 - (v.t.n : Int) - L - v.g.n) := if_pos c3
  rw [Hq.out]
  have d3 : decide ((1048576 : Int) - (v.t.n : Int) - (L : Int) - (v.g.n : Int) < 0) = false := by simp; omega
  go_wp2_with fail
  refine (szIntS_any _ _ _ _ _ f1 (by omega) (by omega)).mono ?_
  rintro e w' ⟨rfl, hw'⟩
  have hw2 := hw'.symm
  subst hw2
  by_cases c4 : (v.f.n : Int) ≤ 1048576 - (v.t.n : Int) - L - v.g.n
  rotate_left
  · have Hr : Hid (szSysL s 1048576 = -1) := BAD.out (by omega)
    have Hq : Hid (szOf v.f.n (1048576 - (v.t.n : Int) - L - v.g.n) = -1) := if_neg c4
    rw [Hq.out]
    go_wp2
    go_ret
    exact ⟨by rw [Hr.out]; rfl, kW.trans k1⟩
  have Hq : Hid (szOf v.f.n (1048576 - (v.t.n : Int) - L - v.g.n) = 1048576 - (v.t.n : Int) - L - v.g.n - v.f.n) := if_pos c4
  rw [Hq.out]
  have d4 : decide ((1048576 : Int) - (v.t.n : Int) - (L : Int) - (v.g.n : Int) - (v.f.n : Int) < 0) = false := by simp; omega
  go_wp2_with fail
  refine (szTurnS_any _ _ _ _ _ r1 (by omega) (by omega)).mono ?_
  rintro e w' ⟨rfl, hw'⟩
  have hw2 := hw'.symm
  subst hw2
  by_cases c5 : (v.r.n : Int) ≤ 1048576 - (v.t.n : Int) - L - v.g.n - v.f.n
  rotate_left
  · have Hr : Hid (szSysL s 1048576 = -1) := BAD.out (by omega)
    have Hq : Hid (szOf v.r.n (1048576 - (v.t.n : Int) - L - v.g.n - v.f.n) = -1) := if_neg c5
    rw [Hq.out]
    go_wp2
    go_ret
    exact ⟨by rw [Hr.out]; rfl, kW.trans k1⟩
  have Hq : Hid (szOf v.r.n (1048576 - (v.t.n : Int) - L - v.g.n - v.f.n) = 1048576 - (v.t.n : Int) - L - v.g.n - v.f.n - v.r.n) := if_pos c5
  rw [Hq.out]
  have d5 : decide ((1048576 : Int) - (v.t.n : Int) - (L : Int) - (v.g.n : Int) - (v.f.n : Int) - (v.r.n : Int) < 0) = false := by simp; omega
  have Hr : Hid (szSysL s 1048576 = 1048576 - (v.t.n : Int) - L - v.g.n - v.f.n - v.r.n) := by show _ = _; unfold szSysL; rw [HZ.out, if_pos (by omega)]; omega
  go_wp2
  go_ret
  exact ⟨by rw [Hr.out]; rfl, kW.trans k1⟩
end Go.Proofs.YthobpahnmmdbiaaGreatDoor
namespace Go.Proofs.YthobpahnmmdbiaaGreatDoor
open Go.RowKit
attribute [local go_sem] Keeps.refl Keeps.alloc Keeps.drew Keeps.drewN

theorem take_snoc {α : Type} {xs : List α} {k : Nat} {x : α} (h : xs[k]? = some x) : xs.take (k + 1) = xs.take k ++ [x] := by
  have hk := lt_of_some h
  rw [List.getElem?_eq_getElem hk] at h
  simp only [Option.some.injEq] at h
  rw [List.take_succ_eq_append_getElem hk, h]
theorem getD_at {α : Type} {xs : List α} {k : Nat} {x d : α} (h : xs[k]? = some x) : xs.getD k d = x := by simp [List.getD, h]
set_option maxRecDepth 100000 in
set_option maxHeartbeats 2000000 in
theorem l9Ghosts_any {w : World} {v : Sv} {s : Sy} (h : SysOn w v s) (hc : 1 ≤ s.cpus ∧ s.cpus ≤ 4) :
    Calls Tryz.prog 43 #[.agg (syc s v)] w fun e w' => e = .returned (.bool (ghostsB s)) ∧ Keeps w w' := by
  obtain ⟨hc1, hc2⟩ := hc
  have hm : v.g.n ≤ 2000000 := by have := h.size; have := h.lay.gl; unfold sizeS at *; omega
  have Hn : Hid (s.ghosts.length = v.g.n) := h.lay.gl
  have hs : Gs w v.g.a s.ghosts := h.lay.g
  have e1 : IntKind.i64.wrap (s.cpus - 1) = s.cpus - 1 := Go.IntWalk.i64_in _ (by omega)
  clear h
  have kW : Keeps w (w.alloc (.cells (syc s v) 30)) := (Keeps.refl w).alloc _
  have hb : ∀ w', Keeps (w.alloc (.cells (syc s v) 30)) w' → ∀ j, w'.cell? ⟨w.heap.size, j, none⟩ = (syc s v)[j]? := fun w' k => ((Blk.new w (syc s v) 30).keeps k).cells
  have hs1 := hs.keeps kW
  clear hs
  go_enter Tryz.func43, Tryz.ntmps43
  go_wp2
  generalize w.alloc (.cells (syc s v) 30) = W at *
  go_loopw [3] (fun i wr => ∃ k : Nat, k ≤ v.g.n ∧ i = .int .i64 k ∧ Hid ((s.ghosts.take k).all (ghB s.cpus) = true) ∧ Keeps W wr) (fun i _ => v.g.n - (intOf i).toNat)
  case atStart => exact ⟨0, Nat.zero_le _, rfl, by show _ = _; simp, Keeps.refl _⟩
  case round =>
    obtain ⟨k, hk, rfl, HA, hK⟩ := hrel
    by_cases hlt : k < v.g.n
    · obtain ⟨g, hg⟩ := some_in (xs := s.ghosts) (k := k) (by rw [Hn.out]; exact hlt)
      obtain ⟨b, off, ha, r0, r1⟩ := hs1.at hg (by omega)
      have hlt' : (k : Int) < (v.g.n : Int) := by omega
      have Hg : Hid (s.ghosts[k]? = some g) := hg
      have Hstep : Hid ((s.ghosts.take (k + 1)).all (ghB s.cpus) = ghB s.cpus g) := by
        show _ = _
        rw [take_snoc hg, List.all_append, HA.out]
        simp
      have Hno : Hid (ghB s.cpus g = false → ghostsB s = false) := fun e => by
        unfold ghostsB
        rw [List.all_eq_false.2 ⟨g, List.mem_of_getElem? hg, by rw [e]; simp⟩]
        rfl
      clear hg hs1 Hg
      go_wp2_with fail
      have K0 : Keeps W (wr.alloc (.cells (ghc g) 96)) := hK.alloc _
      have hX : ∀ w', Keeps (wr.alloc (.cells (ghc g) 96)) w' → ∀ j, w'.cell? ⟨wr.heap.size, j, none⟩ = (ghc g)[j]? := fun w' h => ((Blk.new wr (ghc g) 96).keeps h).cells
      change Calls _ _ _ (wr.alloc (.cells (ghc g) 96)) _
      generalize wr.alloc (.cells (ghc g) 96) = X at *
      refine (l1In_any _ _ _ _).mono ?_
      rintro e w' ⟨rfl, hw'⟩
      have hw2 := hw'.symm
      subst hw2
      cases c1 : inB g.cpu 0 (s.cpus - 1)
      · have Hr : Hid (ghostsB s = false) := Hno.out (by unfold ghB; rw [c1]; rfl)
        go_wp2
        go_ret
        exact ⟨by rw [Hr.out]; rfl, kW.trans K0⟩
      go_wp2_with fail
      refine (specShareOk_k g.q g.p _).mono ?_
      rintro e w1 ⟨rfl, k1⟩
      have K1 : Keeps W w1 := K0.trans k1
      cases c2 : okB g.q g.p
      · have Hr : Hid (ghostsB s = false) := Hno.out (by unfold ghB; rw [c1, c2]; rfl)
        go_wp2
        go_ret
        exact ⟨by rw [Hr.out]; rfl, kW.trans K1⟩
      go_wp2_with fail
      refine (l1In_any _ _ _ _).mono ?_
      rintro e w' ⟨rfl, hw'⟩
      have hw2 := hw'.symm
      subst hw2
      cases c3 : inB g.til 0 100040
      · have Hr : Hid (ghostsB s = false) := Hno.out (by unfold ghB; rw [c1, c2, c3]; rfl)
        go_wp2
        go_ret
        exact ⟨by rw [Hr.out]; rfl, kW.trans K1⟩
      have HG : Hid ((s.ghosts.take (k + 1)).all (ghB s.cpus) = true) := by show _ = _; rw [Hstep.out]; unfold ghB; rw [c1, c2, c3]; rfl
      go_wp2
      exact ⟨⟨k + 1, by omega, by go_num, HG, K1⟩, by simp only [intOf]; omega⟩
    · have hlt' : decide ((k : Int) < (v.g.n : Int)) = false := by simp; omega
      have Hr : Hid (ghostsB s = decide ((v.g.n : Int) ≤ 12)) := by
        have h1 := HA.out
        rw [List.take_of_length_le (by have := Hn.out; omega)] at h1
        show _ = _
        unfold ghostsB
        rw [h1, Hn.out, Bool.true_and]
        congr 1
        exact propext (by omega)
      go_wp2
      go_ret
      exact ⟨by rw [Hr.out]; rfl, kW.trans hK⟩
end Go.Proofs.YthobpahnmmdbiaaGreatDoor
namespace Go.Proofs.YthobpahnmmdbiaaGreatDoor
open Go.RowKit
attribute [local go_sem] Keeps.refl Keeps.alloc Keeps.drew Keeps.drewN

abbrev pc (x : Int × Int) : Array Value := #[.int .i64 x.1, .int .i64 x.2]
theorem pc_size (x : Int × Int) : (pc x).size = 2 := rfl
theorem pc_one (x : Int × Int) : ∀ u ∈ (pc x).toList, u.oneCell' = true := by
  intro u hu
  simp at hu
  rcases hu with rfl | rfl <;> rfl
abbrev OwnP (w : World) (base : Nat) (v : Value) (xs : List (Int × Int)) : Prop := Own 94 2 pc w base v xs
theorem sh_of_lies {w : World} {a : Option Addr} {xs : List (Int × Int)} (h : Lies 2 pc w a xs) : Sh w a xs := by
  rcases h with h | ⟨b, off, rfl, hb, h⟩
  · exact .inl h
  · refine .inr ⟨b, off, rfl, fun i hi => ?_⟩
    obtain ⟨x, hx⟩ := some_in hi
    have e : xs.getD i (0, 0) = x := getD_at hx
    rw [e]
    exact ⟨by simpa using h i x hx 0 (by omega), by simpa using h i x hx 1 (by omega)⟩
theorem filter_snoc {α β : Type} (p : α → Bool) (f : α → β) {xs : List α} {k : Nat} {x : α} (h : xs[k]? = some x) : ((xs.take (k + 1)).filter p).map f = ((xs.take k).filter p).map f ++ (if p x then [f x] else []) := by
  rw [take_snoc h, List.filter_append, List.map_append]
  congr 1
  cases e : p x <;> simp [e]
set_option maxRecDepth 100000 in
set_option maxHeartbeats 4000000 in
theorem l9Shares_any {w : World} {v : Sv} {s : Sy} (h : SysOn w v s) (cpu : Int) :
    Calls Tryz.prog 45 #[.agg (syc s v), .int .i64 cpu] w fun e w' => ∃ u, e = .returned u ∧ OwnP w' w.heap.size u (sharesL s cpu) ∧ Keeps w w' := by
  have hm : v.t.n ≤ 2000000 ∧ v.g.n ≤ 2000000 := by have := h.size; have := h.lay.gl; have := h.lay.tl; unfold sizeS at *; omega
  obtain ⟨hm1, hm2⟩ := hm
  have Hn : Hid (s.tasks.length = v.t.n) := h.lay.tl
  have Hg : Hid (s.ghosts.length = v.g.n) := h.lay.gl
  have kW : Keeps w (w.alloc (.cells (syc s v) 30)) := (Keeps.refl w).alloc _
  have hb : ∀ w', Keeps (w.alloc (.cells (syc s v) 30)) w' → ∀ j, w'.cell? ⟨w.heap.size, j, none⟩ = (syc s v)[j]? := fun w' k => ((Blk.new w (syc s v) 30).keeps k).cells
  have hs1 : Hid (Ts (w.alloc (.cells (syc s v) 30)) v.t.a s.tasks) := h.lay.t.keeps kW
  have hs2 : Hid (Gs (w.alloc (.cells (syc s v) 30)) v.g.a s.ghosts) := h.lay.g.keeps kW
  clear h
  have HE : Hid (sharesL s cpu = (s.tasks.filter (dueOn cpu)).map partT ++ (s.ghosts.filter (ghOn cpu)).map partG) := rfl
  go_enter Tryz.func45, Tryz.ntmps45
  go_wp2
  have O0 : Hid (OwnP ((w.alloc (.cells (syc s v) 30)).alloc (.cells #[] 94)) (w.alloc (.cells (syc s v) 30)).heap.size (.slice (some ⟨(w.alloc (.cells (syc s v) 30)).heap.size, 0, none⟩) 0 0) []) := Own.new 94 2 pc _ (Nat.le_refl _)
  have hz : (w.alloc (.cells (syc s v) 30)).heap.size = w.heap.size + 1 := by simp
  rw [hz] at O0
  have HW : Hid (w.heap.size ≤ (w.alloc (.cells (syc s v) 30)).heap.size) := by show _ ≤ _; omega
  have Hz : Hid ((w.alloc (.cells (syc s v) 30)).heap.size = w.heap.size + 1) := hz
  clear hz
  generalize w.alloc (.cells (syc s v) 30) = W at *
  go_loopw [5, 6] (fun o i wr => ∃ (k : Nat) (xs : List (Int × Int)), k ≤ v.t.n ∧ i = .int .i64 k ∧ xs.length ≤ k ∧ Hid (xs = ((s.tasks.take k).filter (dueOn cpu)).map partT) ∧ Hid (OwnP wr W.heap.size o xs) ∧ Keeps W wr) (fun _ i _ => v.t.n - (intOf i).toNat)
  case atStart => exact ⟨0, [], Nat.zero_le _, rfl, by simp, by show _ = _; simp, by show OwnP _ _ _ _; rw [Hz.out]; exact O0.out, (Keeps.refl _).alloc _⟩
  case round =>
    obtain ⟨k, xs, hk, rfl, hxl, HX, O, hK⟩ := hrel
    clear O0
    by_cases hlt : k < v.t.n
    · obtain ⟨t, ht⟩ := some_in (xs := s.tasks) (k := k) (by rw [Hn.out]; exact hlt)
      obtain ⟨b, off, ha, r0, r1⟩ := hs1.out.at ht (by omega)
      have hlt' : (k : Int) < (v.t.n : Int) := by omega
      have Hstep := filter_snoc (dueOn cpu) partT ht
      rw [← HX.out] at Hstep
      have HS : Hid (((s.tasks.take (k + 1)).filter (dueOn cpu)).map partT = xs ++ (if dueOn cpu t then [partT t] else [])) := Hstep
      clear ht Hstep
      cases c1 : (t.cpu == cpu)
      · have Hx : Hid (xs = ((s.tasks.take (k + 1)).filter (dueOn cpu)).map partT) := by show _ = _; rw [HS.out]; simp [dueOn, c1]
        go_wp2
        exact ⟨⟨k + 1, xs, by omega, by go_num, by omega, Hx, O.out.keeps ((Keeps.refl _).alloc _), hK.alloc _⟩, by simp only [intOf]; omega⟩
      cases c2 : (t.cls == 1)
      · have Hx : Hid (xs = ((s.tasks.take (k + 1)).filter (dueOn cpu)).map partT) := by show _ = _; rw [HS.out]; simp [dueOn, c1, c2]
        go_wp2
        exact ⟨⟨k + 1, xs, by omega, by go_num, by omega, Hx, O.out.keeps ((Keeps.refl _).alloc _), hK.alloc _⟩, by simp only [intOf]; omega⟩
      have Hx : Hid (xs ++ [(t.q, t.p)] = ((s.tasks.take (k + 1)).filter (dueOn cpu)).map partT) := by show _ = _; rw [HS.out]; simp [dueOn, c1, c2, partT]
      go_wp2_with (at_builtin; (refine wpList_push rfl _ _ 56 rfl W 94 (.agg (pc (0, 0))) 2 16 pc Tryz.underlying56 (by kernel_rfl) rfl (by decide) pc_size pc_one _ xs rfl wr O.out hK (((Keeps.refl _).alloc _).alloc _) (t.q, t.p) (wr.heap.size + 1) 1 (by have := Blk.new (wr.alloc (.cells (tc t) 46)) (pc (t.q, t.p)) 94; simpa using this) rfl ?c1 ?c2 ?_))
      case c1 => unfold maxLen; omega
      case c2 => omega
      intro v' w5 own5 k5 _
      have HO : Hid (OwnP w5 W.heap.size v' (xs ++ [(t.q, t.p)])) := own5
      clear own5 O
      go_wp2
      exact ⟨⟨k + 1, xs ++ [(t.q, t.p)], by omega, by go_num, by simp; omega, Hx, HO, k5⟩, by simp only [intOf]; omega⟩
    · have hlt' : decide ((k : Int) < (v.t.n : Int)) = false := by simp; omega
      have HP : Hid ((s.tasks.filter (dueOn cpu)).map partT = xs) := by
        have h1 := HX.out
        rw [List.take_of_length_le (by have := Hn.out; omega)] at h1
        exact h1.symm
      clear HX
      go_wp2
      generalize wr = V at *
      go_loopw [5, 8] (fun o i wr => ∃ (j : Nat) (ys : List (Int × Int)), j ≤ v.g.n ∧ i = .int .i64 j ∧ ys.length ≤ v.t.n + j ∧ Hid (ys = xs ++ ((s.ghosts.take j).filter (ghOn cpu)).map partG) ∧ Hid (OwnP wr W.heap.size o ys) ∧ Keeps W wr) (fun _ i _ => v.g.n - (intOf i).toNat)
      case atStart => exact ⟨0, xs, Nat.zero_le _, rfl, by omega, by show _ = _; simp, O, hK⟩
      case round =>
        obtain ⟨j, ys, hj, rfl, hyl, HY, O2, hK2⟩ := hrel
        clear O hK
        by_cases hjt : j < v.g.n
        · obtain ⟨g, hg⟩ := some_in (xs := s.ghosts) (k := j) (by rw [Hg.out]; exact hjt)
          obtain ⟨b, off, ha, r0, r1⟩ := hs2.out.at hg (by omega)
          have hjt' : (j : Int) < (v.g.n : Int) := by omega
          have r2 : ∀ w', Keeps W w' → w'.cell? ⟨b, off + j * 4 + 1 + 1, none⟩ = some (.int .i64 g.p) := fun w' h => r1 w' h 2 (by omega)
          have HS : Hid (xs ++ ((s.ghosts.take (j + 1)).filter (ghOn cpu)).map partG = ys ++ (if ghOn cpu g then [partG g] else [])) := by
            show _ = _
            rw [filter_snoc (ghOn cpu) partG hg, HY.out, List.append_assoc]
          clear hg
          cases c1 : (g.cpu == cpu)
          · have Hx : Hid (ys = xs ++ ((s.ghosts.take (j + 1)).filter (ghOn cpu)).map partG) := by show _ = _; rw [HS.out]; simp [ghOn, c1]
            go_wp2
            exact ⟨⟨j + 1, ys, by omega, by go_num, by omega, Hx, O2, hK2⟩, by simp only [intOf]; omega⟩
          have Hx : Hid (ys ++ [(g.q, g.p)] = xs ++ ((s.ghosts.take (j + 1)).filter (ghOn cpu)).map partG) := by show _ = _; rw [HS.out]; simp [ghOn, c1, partG]
          go_wp2_with (at_builtin; (refine wpList_push rfl _ _ 56 rfl W 94 (.agg (pc (0, 0))) 2 16 pc Tryz.underlying56 (by kernel_rfl) rfl (by decide) pc_size pc_one _ ys rfl wr O2.out hK2 ((Keeps.refl _).alloc _) (g.q, g.p) _ 1 (Blk.new _ _ _) rfl ?c1 ?c2 ?_))
          case c1 => unfold maxLen; omega
          case c2 => omega
          intro v' w5 own5 k5 _
          have HO : Hid (OwnP w5 W.heap.size v' (ys ++ [(g.q, g.p)])) := own5
          clear own5 O2
          go_wp2
          exact ⟨⟨j + 1, ys ++ [(g.q, g.p)], by omega, by go_num, by simp; omega, Hx, HO, k5⟩, by simp only [intOf]; omega⟩
        · have hjt' : decide ((j : Int) < (v.g.n : Int)) = false := by simp; omega
          have HQ : Hid (sharesL s cpu = ys) := by
            have h1 := HY.out
            rw [List.take_of_length_le (by have := Hg.out; omega)] at h1
            show _ = _
            rw [HE.out, h1, HP.out]
          go_wp2
          go_ret
          exact ⟨_, rfl, by rw [HQ.out]; exact O2.out.base HW.out, kW.trans hK2⟩
end Go.Proofs.YthobpahnmmdbiaaGreatDoor
namespace Go.Proofs.YthobpahnmmdbiaaGreatDoor
open Go.RowKit
attribute [local go_sem] Keeps.refl Keeps.alloc Keeps.drew Keeps.drewN

end Go.Proofs.YthobpahnmmdbiaaGreatDoor
