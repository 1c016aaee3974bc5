/-
  Rows of locks: made anew, marked, and looked at again.
-/
import Derived.Test.YtglemedcnapneaaLockS
namespace Go.Proofs.Ytglemedcnapneaa
open Go.RowKit
variable {p p' : Bool}
attribute [local go_sem] Keeps.refl Keeps.alloc Keeps.drew Keeps.drewN

/-- One lock is another one. -/
theorem Mine.swap {w w' : World} {lo hi hi' : Nat} {v : Value} {vs : List Lv} {ls : List Lk} (h : Mine w lo hi v vs ls) {k : Nat} {x y : Lv} {l : Lk} (hx : vs[k]? = some x) (O : Own 47 2 lvc w' lo v (vs.set k y))
    (g : ∀ b, v.ownBlock ≠ some b → x.row.ownBlock ≠ some b → b < w.heap.size → w'.heap[b]? = w.heap[b]?) (he : y.o = l.owner) (ho : OwnN w' lo y.row l.waits) (hh : hi ≤ hi')
    (hb : ∀ b, y.row.ownBlock = some b → (hi ≤ b ∧ b < hi') ∨ x.row.ownBlock = some b) : Mine w' lo hi' v (vs.set k y) (ls.set k l) := by
  have hv : ∀ b, y.row.ownBlock = some b → b < hi' ∧ v.ownBlock ≠ some b := by
    intro b e
    rcases hb b e with ⟨h1, h2⟩ | h1
    · exact ⟨h2, fun e' => by have := h.out b e'; omega⟩
    · exact ⟨Nat.lt_of_lt_of_le (h.inn k x b hx h1).1 hh, (h.inn k x b hx h1).2⟩
  have ha : ∀ (j : Nat) (z : Lv) (b : Nat), j ≠ k → vs[j]? = some z → y.row.ownBlock = some b → z.row.ownBlock = some b → False := by
    intro j z b hj hz e1 e2
    rcases hb b e1 with ⟨h1, h2⟩ | h1
    · have := (h.inn j z b hz e2).1; omega
    · exact hj (h.apart j k z x b hz hx e2 h1)
  refine ⟨by simp [h.len], O, fun b e => Nat.lt_of_lt_of_le (h.out b e) hh, ?_, ?_, ?_⟩
  · intro i z m hz hm
    rcases set_at hz with ⟨rfl, rfl⟩ | ⟨hik, hz2⟩ <;> rcases set_at hm with ⟨h1, rfl⟩ | ⟨h1, hm2⟩
    · exact ⟨he, ho⟩
    · exact absurd rfl h1
    · exact absurd h1 hik
    · obtain ⟨r1, r2⟩ := h.rows i z m hz2 hm2
      exact ⟨r1, r2.same fun b e => g b (h.inn i z b hz2 e).2 (fun e' => hik (h.apart i k z x b hz2 hx e e')) (r2.ltb b e).2⟩
  · intro i z b hz e
    rcases set_at hz with ⟨rfl, rfl⟩ | ⟨hik, hz2⟩
    · exact hv b e
    · exact ⟨Nat.lt_of_lt_of_le (h.inn i z b hz2 e).1 hh, (h.inn i z b hz2 e).2⟩
  · intro i j p q b hp hq e1 e2
    rcases set_at hp with ⟨rfl, rfl⟩ | ⟨hik, hp2⟩ <;> rcases set_at hq with ⟨rfl, rfl⟩ | ⟨hjk, hq2⟩
    · rfl
    · exact (ha j q b hjk hq2 e1 e2).elim
    · exact (ha i p b hik hp2 e2 e1).elim
    · exact h.apart i j p q b hp2 hq2 e1 e2
/-- Two cells of an element are written. -/
theorem Own.setTwo {w : World} {base b n cap : Nat} {vs : List Lv} (h : Own 47 2 lvc w base (.slice (Option.some ⟨b, 0, none⟩) n cap) vs) {k : Nat} {x : Lv} (hx : vs[k]? = Option.some x) (y : Lv) :
    Own 47 2 lvc ((w.setCell ⟨b, k * 2, none⟩ (.int .i64 y.o)).setCell ⟨b, k * 2 + 1, none⟩ y.row) base (.slice (Option.some ⟨b, 0, none⟩) n cap) (vs.set k y) := by
  have h1 := h.setAt lvc_size (i := k) (j := 0) (x := x) (y := { x with o := y.o }) (u := .int .i64 y.o) hx (by omega) rfl
  have hl := lt_of_some hx
  have h2 := h1.setAt lvc_size (i := k) (j := 1) (x := { x with o := y.o }) (y := y) (u := y.row) (List.getElem?_set_self hl) (by omega) rfl
  rw [List.set_set] at h2
  exact h2

set_option maxRecDepth 100000 in
set_option maxHeartbeats 1000000 in
theorem toLock_any (o : Int) (a : Option Addr) (cap : Nat) (xs : List Int) (w : World) (hl : xs.length ≤ 1048576) (hs : Ns w a xs) :
    Calls Try.prog 46 #[.agg #[.int .i64 o, .slice a xs.length cap]] w fun e w' => ∃ b, e = .returned (.agg #[.int .i64 o, .slice (some ⟨b, 0, none⟩) xs.length xs.length]) ∧ OwnN w' w.heap.size (.slice (some ⟨b, 0, none⟩) xs.length xs.length) xs ∧ Keeps w w' := by
  have S1 : Hid (Ns w a xs) := hs
  clear hs
  obtain ⟨n, Hn⟩ : ∃ n, Hid (xs.length = n) := ⟨_, rfl⟩
  rw [Hn.out]
  go_enter Try.func46, Try.ntmps46
  go_wp2_with fail
  have kW : Keeps w (((w.alloc (.cells #[.int .i64 o, .slice a n cap] 53)).alloc (.cells #[.int .i64 0, .slice none 0 0] 47)).alloc (.cells #[.int .i64 o, .slice none 0 0] 47)) := (((Keeps.refl w).alloc _).alloc _).alloc _
  have B2 := (Blk.new (w.alloc (.cells #[.int .i64 o, .slice a n cap] 53)) #[.int .i64 0, .slice none 0 0] 47).alloc (.cells #[.int .i64 o, .slice none 0 0] 47)
  have B3 := Blk.new ((w.alloc (.cells #[.int .i64 o, .slice a n cap] 53)).alloc (.cells #[.int .i64 0, .slice none 0 0] 47)) #[.int .i64 o, .slice none 0 0] 47
  simp only [World.size_alloc] at B2 B3
  have hz : Hid ((((w.alloc (.cells #[.int .i64 o, .slice a n cap] 53)).alloc (.cells #[.int .i64 0, .slice none 0 0] 47)).alloc (.cells #[.int .i64 o, .slice none 0 0] 47)).heap.size = w.heap.size + 3) := by show _ = _; simp
  generalize ((w.alloc (.cells #[.int .i64 o, .slice a n cap] 53)).alloc (.cells #[.int .i64 0, .slice none 0 0] 47)).alloc (.cells #[.int .i64 o, .slice none 0 0] 47) = W at *
  have C1 : Calls Try.prog 66 #[.slice a n cap] W fun e w' => e = .returned (.slice (some ⟨W.heap.size, 0, none⟩) n n) ∧ OwnN w' W.heap.size (.slice (some ⟨W.heap.size, 0, none⟩) n n) xs ∧ Keeps W w' := by
    have := toIntS_any a cap xs W hl (S1.out.keeps kW)
    rwa [Hn.out] at this
  refine C1.mono ?_
  rintro e w1 ⟨rfl, O, k1⟩
  have D2 : Hid (Blk w1 (w.heap.size + 1) #[.int .i64 0, .slice none 0 0]) := B2.keeps k1
  have D3 := B3.keeps k1
  have K1 : Hid (Keeps w w1) := kW.trans k1
  have OH : Hid (OwnN w1 W.heap.size (.slice (some ⟨W.heap.size, 0, none⟩) n n) xs) := O
  obtain ⟨_, d1, d2⟩ := D3
  obtain ⟨_, f1, f2⟩ := D2.out
  obtain ⟨c, Hc⟩ : ∃ c, Hid (W.heap.size = c) := ⟨_, rfl⟩
  have hcc : Hid (c = w.heap.size + 3) := Hc.out.symm.trans hz.out
  rw [Hc.out] at OH ⊢
  clear B2 B3 O k1 C1
  go_wp2
  have D := (D2.out.far (c := w.heap.size + 2) (o := 1) (by omega) (.slice (some ⟨c, 0, none⟩) n n)).putC [.int .i64 o, .slice (some ⟨c, 0, none⟩) n n] rfl
  have K := Keeps.putC (b := w.heap.size + 1) (by omega) [.int .i64 o, .slice (some ⟨c, 0, none⟩) n n] 0 (K1.out.setCell (p := ⟨w.heap.size + 2, 1, none⟩) (by simp) (.slice (some ⟨c, 0, none⟩) n n))
  have O2 : OwnN (putC (w1.setCell ⟨w.heap.size + 2, 1, none⟩ (.slice (some ⟨c, 0, none⟩) n n)) (w.heap.size + 1) 0 [.int .i64 o, .slice (some ⟨c, 0, none⟩) n n]) w.heap.size (.slice (some ⟨c, 0, none⟩) n n) xs := by
    refine Own.base (Own.same OH.out fun b hb => ?_) (by have := hcc.out; omega)
    have e : b = w.heap.size + 3 := by
      simp only [Value.ownBlock, Option.some.injEq] at hb
      rw [← hb]; exact hcc.out
    show ((((w1.setCell _ _).setCell _ _).setCell _ _).heap[b]?) = _
    rw [heap_setCell (by omega), heap_setCell (by omega), heap_setCell (by omega)]
  change bodyPost _ _ _ _ _ (putC (w1.setCell ⟨w.heap.size + 2, 1, none⟩ (.slice (some ⟨c, 0, none⟩) n n)) (w.heap.size + 1) 0 [.int .i64 o, .slice (some ⟨c, 0, none⟩) n n])
  generalize putC (w1.setCell ⟨w.heap.size + 2, 1, none⟩ (.slice (some ⟨c, 0, none⟩) n n)) (w.heap.size + 1) 0 [.int .i64 o, .slice (some ⟨c, 0, none⟩) n n] = X at D K O2 ⊢
  exact bodyPost_ret (v := .agg #[.int .i64 o, .slice (some ⟨c, 0, none⟩) n n]) (by simp [results, Try.results46, go_sem, D.cells]) rfl ⟨c, rfl, O2, K⟩

/-- What make lays, of elements of whatever size, cell by cell. -/
theorem run_make_zero {P : Program} (t e : TypeId) (z : Value) (size bytes : Nat) (ht : P.underlying t = some (.slice e)) (hinfo : (P.info? e).map (fun i => (i.zero, i.size, i.bytes)) = some (some z, size, bytes))
    (n : Nat) (hbytes : bytes * n ≤ 281474976710656) (h63 : n ≤ 9223372036854775807) :
    ∀ w : World, (Instr.makeSlice t (.int .i64 (n : Int)) (.int .i64 (n : Int))).run P w = .ok (.slice (some ⟨w.heap.size, 0, none⟩) n n) (w.alloc (.cells (madeCells z.cells (n * size)) e)) := by
  obtain ⟨i, hi, hzz⟩ := Option.map_eq_some_iff.1 hinfo
  simp only [Prod.mk.injEq] at hzz
  obtain ⟨hz, hs, hb⟩ := hzz
  intro w
  have hb' : (i.bytes : Int) * (n : Int) ≤ 281474976710656 := by
    have h : ((i.bytes * n : Nat) : Int) ≤ 281474976710656 := by rw [hb]; omega
    rwa [Int.natCast_mul] at h
  have hr := run_make (P := P) w t e i z ht hi hz .i64 .i64 n n (by omega) (Int.le_refl _) hb' (by omega)
  simp only [Int.toNat_natCast, hs] at hr
  exact hr
abbrev Lv.zero : Lv := ⟨0, none, 0, 0⟩
theorem flat_zero (n : Nat) : (madeCells #[.int .i64 0, .slice none 0 0] (n * 2)).toList = flatC lvc (List.replicate n Lv.zero) := by
  apply List.ext_getElem?
  intro j
  by_cases hj : j < n * 2
  · have hq : j / 2 < n := by omega
    have := flatC_at lvc_size (List.replicate n Lv.zero) (j / 2) Lv.zero (by simp [hq]) (j % 2) (by omega)
    rw [show j / 2 * 2 + j % 2 = j from by omega] at this
    rw [this]
    simp only [madeCells, Array.getElem?_toList, Array.getElem?_map, Array.getElem?_range, hj, if_true, Option.map_some]
    rcases (show j % 2 = 0 ∨ j % 2 = 1 by omega) with e | e <;> simp [e]
  · rw [List.getElem?_eq_none (by simpa [madeCells] using hj), List.getElem?_eq_none]
    have := flatC_length lvc_size (List.replicate n Lv.zero)
    simp at this
    omega
/-- Locks that nobody has. -/
theorem Mine.zero (w : World) (n : Nat) (hn : n ≤ maxLen) : Mine (w.alloc (.cells (madeCells #[.int .i64 0, .slice none 0 0] (n * 2)) 47)) w.heap.size (w.heap.size + 1) (.slice (some ⟨w.heap.size, 0, none⟩) n n) (List.replicate n Lv.zero) (List.replicate n ⟨0, []⟩) := by
  refine ⟨by simp, ?_, ?_, ?_, ?_, ?_⟩
  · have := World.ownsRow_lit (e := 47) (size := 2) (base := w.heap.size) w (madeCells #[.int .i64 0, .slice none 0 0] (n * 2)) n (Nat.le_refl _) hn (size_madeCells _ _)
    rw [flat_zero] at this
    unfold Own
    rw [List.length_replicate]
    exact this
  · intro b hb
    simp only [Value.ownBlock, Option.some.injEq] at hb
    omega
  · intro i x l hx hl
    have e1 := List.eq_of_mem_replicate (List.mem_of_getElem? hx)
    have e2 := List.eq_of_mem_replicate (List.mem_of_getElem? hl)
    subst e1 e2
    exact ⟨rfl, World.ownsRow_nil _ _ _ _⟩
  · intro i x b hx hb
    have e1 := List.eq_of_mem_replicate (List.mem_of_getElem? hx)
    subst e1
    simp [Value.ownBlock] at hb
  · intro i j x y b hx hy h1 h2
    have e1 := List.eq_of_mem_replicate (List.mem_of_getElem? hx)
    subst e1
    simp [Value.ownBlock] at h1

set_option maxRecDepth 100000 in
set_option maxHeartbeats 2000000 in
theorem toLockS_any (a : Option Addr) (cap : Nat) (ls : List Lk) (w : World) (hl : sizeN ls ≤ 1048576) (hs : Lks p w a ls) :
    Calls Try.prog 15 #[.slice a ls.length cap] w fun e w' => ∃ b vs, e = .returned (.slice (some ⟨b, 0, none⟩) ls.length ls.length) ∧ Mine w' w.heap.size w'.heap.size (.slice (some ⟨b, 0, none⟩) ls.length ls.length) vs ls ∧ Keeps w w' := by
  have hl0 : ls.length ≤ 1048576 := by unfold sizeN at hl; omega
  have HL : Hid (sizeN ls ≤ 1048576) := hl
  clear hl
  generalize hn : ls.length = n at hl0
  have Hn : Hid (ls.length = n) := hn
  clear hn
  have hmk := run_make_zero (P := Try.prog) 25 47 (.agg #[.int .i64 0, .slice none 0 0]) 2 32 Try.underlying25 (by kernel_rfl) n (by omega) (by omega)
  simp only [Value.cells] at hmk
  have M0 : Hid (Mine (w.alloc (.cells (madeCells #[.int .i64 0, .slice none 0 0] (n * 2)) 47)) w.heap.size (w.heap.size + 1) (.slice (some ⟨w.heap.size, 0, none⟩) n n) (List.replicate n Lv.zero) (List.replicate n ⟨0, []⟩)) := Mine.zero w n (by unfold maxLen; omega)
  go_enter Try.func15, Try.ntmps15
  go_wp2
  go_loopw [4] (fun i wr => ∃ (k : Nat) (vs : List Lv) (P : List Lk), k ≤ n ∧ i = .int .i64 k ∧ Keeps w wr ∧ Hid (Mine wr w.heap.size wr.heap.size (.slice (some ⟨w.heap.size, 0, none⟩) n n) vs P) ∧ Hid (P.length = n) ∧ Hid (∀ (j : Nat) (l : Lk), j < k → ls[j]? = some l → P[j]? = some l)) (fun i _ => n - (intOf i).toNat)
  case atStart => exact ⟨0, _, _, Nat.zero_le _, rfl, (Keeps.refl _).alloc _, M0.out.widen (Nat.le_refl _) (by simp), by show _ = _; simp, fun j _ hj => by omega⟩
  case round =>
    obtain ⟨k, vs, P, hk, rfl, hK, M, hP, hf⟩ := hrel
    clear hmk M0
    by_cases hlt : k < n
    · obtain ⟨l, hl1⟩ := some_in (xs := ls) (k := k) (by rw [Hn.out]; exact hlt)
      obtain ⟨b, off, a', cap', rfl, r0, r1, hle, hns⟩ := hs.at hl1
      have hlt' : (k : Int) < (n : Int) := by omega
      have Hl : Hid (ls[k]? = some l) := hl1
      have N1 : Hid (Ns w a' l.waits) := hns
      have hw : Hid (l.waits.length ≤ 1048576) := by show _ ≤ _; have := sumW_mem hl1; have := HL.out; unfold sizeN at this; omega
      clear hs hl1 hns hle
      have hvl : Hid (k < vs.length) := by show _ < _; rw [M.out.len, hP.out]; exact hlt
      obtain ⟨x, hx⟩ := some_in hvl.out
      have Hx : Hid (vs[k]? = some x) := hx
      have hvn : vs.length = n := M.out.len.trans hP.out
      have O0 := M.out.own
      rw [← hvn] at O0
      have s0 : ∀ w', Keeps wr w' → w'.cell? ⟨w.heap.size, k * 2, none⟩ = some (.int .i64 x.o) := Keeps.has (O0.cellAt lvc_size (k := 0) hx (by omega))
      have s1 : ∀ w', Keeps wr w' → w'.cell? ⟨w.heap.size, k * 2 + 1, none⟩ = some x.row := Keeps.has (O0.cellAt lvc_size (k := 1) hx (by omega))
      have bl : Hid (w.heap.size < wr.heap.size) := (O0.ltb _ rfl).2
      have s2 : ∀ w', Keeps wr w' → ∀ o, w'.frozen? ⟨w.heap.size, o, none⟩ = false := fun w' h o => (h.frozens _ _ bl.out).trans (O0.frozenAt o)
      clear O0 hx hvn
      go_wp2_with fail
      refine (toLock_any l.owner a' cap' l.waits _ hw.out (N1.out.keeps hK)).mono ?_
      rintro e w1 ⟨b', rfl, O1, k1⟩
      have OH : Hid (OwnN w1 wr.heap.size (.slice (some ⟨b', 0, none⟩) l.waits.length l.waits.length) l.waits) := O1
      have kk : Keeps wr w1 := k1
      clear O1
      go_wp2
      have M1 := M.out.keeps k1
      have hb' := OH.out.ltb b' rfl
      have hne : b' ≠ w.heap.size := by have := bl.out; omega
      refine ⟨⟨k + 1, vs.set k ⟨l.owner, some ⟨b', 0, none⟩, l.waits.length, l.waits.length⟩, P.set k l, by omega, by go_num, ((hK.trans k1).setCell (p := ⟨w.heap.size, k * 2, none⟩) (Nat.le_refl _) _).setCell (p := ⟨w.heap.size, k * 2 + 1, none⟩) (Nat.le_refl _) _, ?_, by show _ = _; simpa using hP.out, ?_⟩, by simp only [intOf]; omega⟩
      · refine M1.swap (x := x) (y := ⟨l.owner, some ⟨b', 0, none⟩, l.waits.length, l.waits.length⟩) (l := l) Hx.out (M1.own.setTwo Hx.out ⟨l.owner, some ⟨b', 0, none⟩, l.waits.length, l.waits.length⟩) (fun b2 h1 h2 h3 => ?_) rfl ?_ (by simpa using k1.size) (fun b2 e => ?_)
        · have : b2 ≠ w.heap.size := fun e => h1 (by rw [e]; rfl)
          rw [heap_setCell this, heap_setCell this]
        · refine Own.base (Own.same OH.out fun b2 e => ?_) (Nat.le_of_lt bl.out)
          have e2 : b2 = b' := by simpa [Value.ownBlock] using e.symm
          rw [heap_setCell (by omega), heap_setCell (by omega)]
        · have e2 : b2 = b' := by simpa [Value.ownBlock] using e.symm
          subst e2
          exact .inl ⟨hb'.1, by simpa using hb'.2⟩
      · intro j m hj hm
        by_cases e : j = k
        · subst e
          rw [Hl.out] at hm
          cases hm
          exact List.getElem?_set_self (by rw [hP.out]; exact hlt)
        · rw [List.getElem?_set_ne (Ne.symm e)]
          exact hf.out j m (by omega) hm
    · have e : k = n := by omega
      subst e
      have e2 : Hid (P = ls) := by
        show _ = _
        apply List.ext_getElem?
        intro j
        rcases Nat.lt_or_ge j k with hj | hj
        · obtain ⟨m, hm⟩ := some_in (xs := ls) (k := j) (by rw [Hn.out]; exact hj)
          rw [hm]; exact hf.out j m hj hm
        · rw [List.getElem?_eq_none (by rw [hP.out]; exact hj), List.getElem?_eq_none (by rw [Hn.out]; exact hj)]
      go_wp2
      go_ret
      exact ⟨w.heap.size, vs, rfl, by have := M.out; rw [e2.out] at this; exact this, hK⟩
end Go.Proofs.Ytglemedcnapneaa
