/-
  Fair shares, the program's side: those that share fairly, one behind the other, who had least first.
-/
import Derived.RangeFuncNested
import Derived.RangeFuncBound
import Derived.RangeFuncCalls
import Derived.RangeFuncLeaves
import Derived.Shelf.Abstract
import Derived.Shelf.RegionOpen
import Derived.OwnWalkIn
import Derived.TacticsInMore
import Derived.LoopNIn
import Derived.LoopIn
import Derived.Test.YtdndgacaohmdnaaFairHeap
import Derived.Test.YtdndgacaohmdnaaImplFairA
namespace Go.Proofs.Ytdndgacaohmdnaa
open Go.RowKit Go.Shelf
attribute [local go_sem] Keeps.refl Keeps.alloc Keeps.drew Keeps.drewN

/-- Every block of cells from B on lies as it lay. -/
def KC (B : Nat) (W W' : World) : Prop := W.heap.size ≤ W'.heap.size ∧ ∀ k o, B ≤ k → W.heap[k]? = some o → o.isCells = true → W'.heap[k]? = some o
theorem KC.refl (B : Nat) (W : World) : KC B W W := ⟨Nat.le_refl _, fun _ _ _ h _ => h⟩
theorem KC.trans {B : Nat} {X Y Z : World} (h : KC B X Y) (k : KC B Y Z) : KC B X Z := ⟨Nat.le_trans h.1 k.1, fun i o hB hi ho => k.2 i o hB (h.2 i o hB hi ho) ho⟩
theorem KC.of {B : Nat} {W W' : World} (h : Keeps W W') : KC B W W' := ⟨h.size, fun k _ _ hk _ => (Below.block h k (Array.getElem?_eq_some_iff.1 hk).1).trans hk⟩
theorem KC.putObj {B : Nat} (W : World) (l : Nat) (o o' : Obj) (h : W.heap[l]? = some o) (hc : o.isCells = false) : KC B W (W.putObj l o') := by
  refine ⟨by simp, fun k o1 _ hk ho => ?_⟩
  by_cases e : k = l
  · subst e
    rw [h] at hk
    cases hk
    rw [hc] at ho; cases ho
  · rw [World.putObj_heap_other (by omega)]; exact hk
theorem Own.kc {α : Type} {e : TypeId} {sz : Nat} {c : α → Array Value} {w w' : World} {base B : Nat} {v : Value} {xs : List α} (h : Own e sz c w base v xs) (k : KC B w w') (hB : B ≤ base) : Own e sz c w' base v xs := by
  obtain ⟨h1, h2⟩ := h
  refine ⟨h1, ?_⟩
  rcases h2 with h2 | ⟨b, cap, cur, hv, hb, hh, r⟩
  · exact .inl h2
  · exact .inr ⟨b, cap, cur, hv, hb, k.2 b _ (by omega) hh rfl, r⟩
set_option maxRecDepth 100000 in
theorem leastFirst_any (a : Option Addr) (n cap : Nat) (w : World) :
    Calls Try.prog 82 #[.slice a n cap] w fun e w' => e = .returned (.func (.func 99) #[] #[.pointer (some ⟨w.heap.size, 0, none⟩)]) ∧ w' = w.alloc (.cells #[.slice a n cap] 35) := by
  go_enter Try.func82, Try.ntmps82
  go_wp2
  go_ret
  exact ⟨rfl, rfl⟩
theorem grown_of {W X : World} (h : Keeps W X) : W.grownBy X none := ⟨h.os, h.tape, h.output, h.size, fun k hk _ => Below.block h k hk⟩
theorem own_elem {w : World} {base b n cap : Nat} {xs : List Tsk} (h : OwnR w base (.slice (some ⟨b, 0, none⟩) n cap) xs) {i : Nat} {x : Tsk} (hx : xs[i]? = some x) : (w.cell? ⟨b, i * 7, none⟩ = (rtc x)[0]?) ∧ ∀ j, j < 7 → w.cell? ⟨b, i * 7 + j, none⟩ = (rtc x)[j]? := by
  obtain ⟨a, cp, e, l, -, -⟩ := h.slice rtc_size
  simp only [Value.slice.injEq] at e
  obtain ⟨rfl, -, -⟩ := e
  rcases l with rfl | ⟨b', off, e', -, l⟩
  · simp at hx
  · simp only [Option.some.injEq, Addr.mk.injEq] at e'
    obtain ⟨rfl, rfl, -⟩ := e'
    exact ⟨by simpa using l i x hx 0 (by omega), fun j hj => by simpa using l i x hx j hj⟩

set_option maxRecDepth 100000 in
set_option maxHeartbeats 8000000 in
/-- Those of ts that share fairly come, who had least first. -/
theorem least_seq (a : Option Addr) (cap : Nat) (ts : List Tsk) (Bs : Nat) (w : World) (hBs : Bs < w.heap.size) (hc : w.cell? ⟨Bs, 0, none⟩ = some (.slice a ts.length cap)) (hs : Ts w a ts) (hl : ts.length ≤ 1048576) (n : Nat) :
    SeqStopsK Fence.wide n Try.prog 99 #[.pointer (some ⟨Bs, 0, none⟩)] (fun t : Tsk => #[.agg (rtc t)]) (KC w.heap.size) (fun ys => HeapOf ts ys) (fun pre => ∃ ys, HeapOf ts ys ∧ pre <+: ys) (ts.length + 1) w := by
  intro l J Jx W hW hJ hJx hY h0
  have KW : Keeps w W := hW
  have HY : Hid (∀ (pre : List Tsk) (x : Tsk) (W1 : World), J pre W1 → pre.length < ts.length + 1 → YieldAt Fence.wide (n - 1) Try.prog l #[.agg (rtc x)] W1 fun e W' =>
      (e = .returned (.bool true) ∧ J (pre ++ [x]) W' ∧ KC w.heap.size W1 W') ∨ (e = .returned (.bool false) ∧ Jx (pre ++ [x]) W')) := hY
  have hc1 : ∀ w', Keeps W w' → w'.cell? ⟨Bs, 0, none⟩ = some (.slice a ts.length cap) := Keeps.has ((KW.cells _ _ hBs).trans hc)
  have hs1 : Hid (Ts W a ts) := hs.keeps KW
  have HJ : Hid (AbidesFrom W.heap.size J) := hJ
  have HX : Hid (AbidesFrom W.heap.size Jx) := hJx
  have hw0 : w.heap.size ≤ W.heap.size := KW.size
  have H0 : Hid (J [] W) := h0
  clear hY hJ hJx hs hc hW KW h0
  generalize hn : ts.length = m at *
  have Hn : Hid (ts.length = m) := hn
  clear hn
  refine callsIn_wide.2 ?_
  show Calls _ _ #[.func (.yield l) #[] #[], .pointer (some ⟨Bs, 0, none⟩)] _ _
  go_enter Try.func99, Try.ntmps99
  go_wp2_with fail
  have L0 : Hid (Line W W.heap.size (W.heap.size + 1) (.slice none 0 0) [] (W.alloc (.cells #[.slice none 0 0] 118))) := ⟨Blk.new _ _ _, World.ownsRow_nil _ _ _ _, (Keeps.refl W).alloc _⟩
  go_loopw [10] (fun i wr => ∃ k : Nat, k ≤ m ∧ i = .int .i64 k ∧ ∃ v xs, Line W W.heap.size (W.heap.size + 1) v xs wr ∧ HeapOf (ts.take k) xs) (fun i _ => m - (intOf i).toNat)
  case atStart => exact ⟨0, Nat.zero_le _, rfl, _, [], L0.out, by simpa using HeapOf.start⟩
  case round =>
    obtain ⟨k, hk, rfl, v, xs, hL, hO⟩ := hrel
    have LH : Hid (Line W W.heap.size (W.heap.size + 1) v xs wr) := hL
    have OH : Hid (HeapOf (ts.take k) xs) := hO
    have K1 : Keeps W wr := hL.keeps
    have hxl : xs.length ≤ k := by have := hO.len; simp at this; omega
    clear hL hO L0
    by_cases hlt : k < m
    · obtain ⟨t, ht⟩ := some_at (xs := ts) (k := k) (by rw [Hn.out]; exact hlt)
      obtain ⟨b, off, rfl, r0, r1⟩ := hs1.out.at ht (by omega)
      have Htk : Hid (ts.take (k + 1) = ts.take k ++ [t]) := by
        show _ = _
        have hk' : k < ts.length := by rw [Hn.out]; exact hlt
        rw [List.take_succ_eq_append_getElem hk']
        rw [List.getElem?_eq_getElem hk'] at ht
        simp only [Option.some.injEq] at ht
        rw [ht]
      have hlt' : (k : Int) < (m : Int) := by omega
      clear ht
      go_wp2_with fail
      have X0 : Hid (Line W W.heap.size (W.heap.size + 1) v xs (wr.alloc (.cells (tc t) 25))) := LH.out.go ((Keeps.refl wr).alloc _)
      have hT : ∀ w', Keeps (wr.alloc (.cells (tc t) 25)) w' → ∀ j, w'.cell? ⟨wr.heap.size, j, none⟩ = (tc t)[j]? := fun w' h => ((Blk.new wr (tc t) 25).keeps h).cells
      clear r0 r1
      generalize wr.alloc (.cells (tc t) 25) = X at *
      refine (isFair_any t _).mono ?_
      rintro e w1 ⟨rfl, k1⟩
      cases hf : fairB t
      · have HO : Hid (HeapOf (ts.take (k + 1)) xs) := by show HeapOf _ _; rw [Htk.out]; exact OH.out.skip hf
        go_wp2
        exact ⟨⟨k + 1, by omega, by go_num, v, xs, X0.out.go k1, HO.out⟩, by simp only [intOf]; omega⟩
      · go_wp2_with (first
          | (go_at_call 58; refine (fairTaskOf_any t _).mono ?_; rintro e w2 ⟨rfl, k2⟩)
          | (go_at_call 100; refine (putR_any t W.heap.size v xs (W.heap.size + 1) W w2 (X0.out.go (k1.trans k2)) OH.out.heap (Nat.le_refl _) (by omega) (X0.out.go (k1.trans k2)).line.lt (by omega)).mono ?_; rintro e w3 ⟨rfl, v', ys, L3, S3⟩))
        have HO : Hid (HeapOf (ts.take (k + 1)) ys) := by show HeapOf _ _; rw [Htk.out]; exact OH.out.snoc hf S3
        exact ⟨⟨k + 1, by omega, by go_num, v', ys, L3, HO.out⟩, by simp only [intOf]; omega⟩
    · have hlt' : decide ((k : Int) < (m : Int)) = false := by simp; omega
      have HO : Hid (HeapOf ts xs) := by have := OH.out; rw [List.take_of_length_le (by have := Hn.out; omega)] at this; exact this
      obtain ⟨a', cp, rfl, li, -, -⟩ := LH.out.own.slice rtc_size
      have hl1 := LH.out.line.cells 0
      generalize hq : xs.length = q at *
      have Hq : Hid (xs.length = q) := hq
      clear hq
      go_wp2_with fail
      have J0 : Hid (J [] wr) := HJ.out [] W wr none H0.out (grown_of K1) (fun r e => by cases e)
      have O0 : Hid (OwnR wr (W.heap.size + 1) (.slice a' q cp) xs) := LH.out.own
      clear LH OH li hl1 hc1
      generalize wr = V at *
      refine (wpIn_wide (n := n)).1 ?_
      gi_loopw [23] (fun i wx => ∃ j : Nat, j ≤ q ∧ i = .int .i64 j ∧ J (xs.take j) wx ∧ OwnR wx (W.heap.size + 1) (.slice a' q cp) xs) (fun i _ => q - (intOf i).toNat)
      case atStart => exact ⟨0, Nat.zero_le _, rfl, by simpa using J0.out, O0.out⟩
      case round =>
        obtain ⟨j, hj, rfl, hJ1, hO1⟩ := hrel
        have J1 : Hid (J (xs.take j) wr) := hJ1
        have O1 : Hid (OwnR wr (W.heap.size + 1) (.slice a' q cp) xs) := hO1
        clear hJ1 hO1
        by_cases hjt : j < q
        · obtain ⟨x, hx⟩ := some_at (xs := xs) (k := j) (by rw [Hq.out]; exact hjt)
          have Htk : Hid (xs.take (j + 1) = xs.take j ++ [x]) := by
            show _ = _
            have hk' : j < xs.length := by rw [Hq.out]; exact hjt
            have hx' := hx
            rw [List.getElem?_eq_getElem hk'] at hx'
            rw [List.take_succ_eq_append_getElem hk']
            simp only [Option.some.injEq] at hx'
            rw [hx']
          obtain ⟨b, cp', e1, -, -, -⟩ := O1.out.some rtc_size (by rw [Hq.out]; omega)
          simp only [Value.slice.injEq] at e1
          obtain ⟨rfl, -, -⟩ := e1
          obtain ⟨x00, x01⟩ := own_elem O1.out hx
          have c0 : wr.cell? ⟨b, j * 7, none⟩ = some (.int .i64 x.no) := x00
          have c1 : wr.cell? ⟨b, j * 7 + 1, none⟩ = some (.int .i64 x.cls) := x01 1 (by omega)
          have c2 : wr.cell? ⟨b, j * 7 + 2, none⟩ = some (.int .i64 x.cpu) := x01 2 (by omega)
          have c3 : wr.cell? ⟨b, j * 7 + 3, none⟩ = some (.int .i64 x.st) := x01 3 (by omega)
          have c4 : wr.cell? ⟨b, j * 7 + 4, none⟩ = some (.bool x.idle) := x01 4 (by omega)
          have c5 : wr.cell? ⟨b, j * 7 + 5, none⟩ = some (.int .i64 x.nice) := x01 5 (by omega)
          have c6 : wr.cell? ⟨b, j * 7 + 6, none⟩ = some (.int .i64 x.v) := x01 6 (by omega)
          have hjt' : (j : Int) < (q : Int) := by omega
          have J2 : J (xs.take j) (wr.alloc (.cells (rtc x) 87)) := HJ.out _ wr _ none J1.out (World.grownBy_alloc wr _ none) (fun r e => by cases e)
          obtain ⟨fn, tmps, assign, body, hy, hR⟩ := HY.out (xs.take j) x _ J2 (by simp; omega)
          clear x00 x01 hx J2
          gi_wp2
          refine ⟨fun h => (by simp [Fence.wide] at h), ?_⟩
          refine hR.mono ?_
          rintro e W3 (⟨rfl, hJ3, hk3⟩ | ⟨rfl, hJx3⟩)
          · have J3 : Hid (J (xs.take (j + 1)) W3) := by show J _ _; rw [Htk.out]; exact hJ3
            have O3 : Hid (OwnR W3 (W.heap.size + 1) (.slice (some ⟨b, 0, none⟩) q cp) xs) := (O1.out.alloc _).kc hk3 (by omega)
            gi_wp2
            go_roundw
            case rel => exact ⟨j + 1, by omega, by go_num, J3.out, O3.out⟩
            case measure => simp only [intOf]; omega
          · have J3 : Hid (Jx (xs.take (j + 1)) W3) := by show Jx _ _; rw [Htk.out]; exact hJx3
            gi_wp2
            refine bodyPost_ret (results_none rfl _ _ _) rfl ?_
            exact ⟨⟨_, rfl⟩, .inr ⟨_, ⟨xs, HO.out, List.take_prefix _ _⟩, J3.out⟩⟩
        · have hjt' : decide ((j : Int) < (q : Int)) = false := by simp; omega
          have J3 : Hid (J xs wr) := by have := J1.out; rw [List.take_of_length_le (by have := Hq.out; omega)] at this; exact this
          gi_wp2
          go_end0
          exact ⟨⟨_, rfl⟩, .inl ⟨xs, HO.out, J3.out⟩⟩
end Go.Proofs.Ytdndgacaohmdnaa
