/-
  Locks that lie there, as the laws and later chapters hand them on.
  Picking: contracts of the model's functions.
  Picking: contracts of the model's Executor, Able and CanTurn.
-/
import Derived.Test.YtpikopdfkhagmaaGreatDoorLockSpec3
import Derived.Test.YtpikopdfkhagmaaGreatDoorPickPure
import Derived.Test.YtpikopdfkhagmaaGreatDoorDueSpec
import Derived.Test.YtpikopdfkhagmaaGreatDoorPutC
import Derived.Test.YtpikopdfkhagmaaGreatDoorFairSpec
import Derived.Deep.RegionHeld3
namespace Go.Proofs.YtpikopdfkhagmaaGreatDoor
open Go.RowKit

theorem len_le_size (ls : List Lk) : ls.length ≤ sizeN ls := by unfold sizeN; omega
/-- What the laws call of some locks that lie there. -/
structure On (w : World) (a : Option Addr) (m cap : Nat) (ls : List Lk) : Prop where
  len : ls.length = m
  size : sizeN ls ≤ 2097152
  lks : Lks true w a ls
  pl : Plain w a m cap
theorem On.keeps {w w' : World} {a : Option Addr} {m cap : Nat} {ls : List Lk} (h : On w a m cap ls) (k : Keeps w w') : On w' a m cap ls := ⟨h.len, h.size, h.lks.keeps k, h.pl.keeps k⟩
theorem On.small {w : World} {a : Option Addr} {m cap : Nat} {ls : List Lk} (h : On w a m cap ls) : ls.length ≤ maxLen := by have := len_le_size ls; have := h.size; unfold maxLen; omega
theorem On.of {w : World} {lo hi : Nat} {v : Value} {vs : List Lv} {ls : List Lk} (M : Mine w lo hi v vs ls) (h : sizeN ls ≤ 2097152) : ∃ a cap, v = .slice a ls.length cap ∧ On w a ls.length cap ls := by
  obtain ⟨a, cap, e, L, P, -⟩ := M.args
  exact ⟨a, cap, e, rfl, h, L, P⟩
section calls
variable {w w' : World} {a : Option Addr} {m cap : Nat} {ls : List Lk}
set_option maxRecDepth 100000 in
theorem On.sLocksOk (h : On w a m cap ls) {z : Bool} (hz : locksB ls = z) (k : Keeps w w') : Calls Tryz.prog 86 #[.slice a m cap] w' fun e w'' => e = .returned (.bool z) ∧ Keeps w' w'' := by
  have h' := h.keeps k
  have := specLocksOk_any a cap ls w' h'.size h'.lks
  rw [h'.len, hz] at this
  exact this
theorem On.at (h : On w a m cap ls) {i : Nat} {l : Lk} (hl : ls[i]? = some l) : i < m ∧ ∃ b off a' cap', a = some ⟨b, off, none⟩ ∧ (∀ w', Keeps w w' → w'.cell? ⟨b, off + i * 2, none⟩ = some (.int .i64 l.owner)) ∧ (∀ w', Keeps w w' → w'.cell? ⟨b, off + i * 2 + 1, none⟩ = some (.slice a' l.waits.length cap')) ∧ l.waits.length ≤ maxLen ∧ Ns w a' l.waits :=
  ⟨by rw [← h.len]; exact lt_of_some hl, h.lks.at hl⟩
set_option maxRecDepth 100000 in
theorem On.sChain (h : On w a m cap ls) (x : Int) (k : Keeps w w') : Calls Tryz.prog 108 #[.slice a m cap, .int .i64 x] w' fun e w'' => ∃ v, e = .returned (.tuple #[v, .bool (chainN ls (ls.length + 1) x).2]) ∧ OwnN w'' w'.heap.size v (chainN ls (ls.length + 1) x).1 ∧ Keeps w' w'' := by
  have h' := h.keeps k
  have := specChain_any a cap ls x w' (by have := len_le_size ls; have := h'.size; omega) h'.lks
  rw [h'.len] at this
  rw [h'.len]
  exact this
theorem On.all (h : On w a m cap ls) (hm : 0 < m) : ∃ b off, a = some ⟨b, off, none⟩ ∧ ∀ (i : Nat) (l : Lk), ls[i]? = some l → ∃ a' cap', (∀ w', Keeps w w' → w'.cell? ⟨b, off + i * 2, none⟩ = some (.int .i64 l.owner)) ∧ (∀ w', Keeps w w' → w'.cell? ⟨b, off + i * 2 + 1, none⟩ = some (.slice a' l.waits.length cap')) ∧ l.waits.length ≤ maxLen ∧ Ns w a' l.waits := by
  obtain ⟨l0, h0⟩ := some_in (xs := ls) (k := 0) (by rw [h.len]; exact hm)
  obtain ⟨-, b, off, _, _, rfl, -⟩ := h.at h0
  refine ⟨b, off, rfl, fun i l hl => ?_⟩
  obtain ⟨-, b', off', a', cap', e, r⟩ := h.at hl
  simp only [Option.some.injEq, Addr.mk.injEq] at e
  obtain ⟨rfl, rfl, -⟩ := e
  exact ⟨a', cap', r⟩
end calls
theorem Ns.take {w : World} {a : Option Addr} {xs : List Int} (h : Ns w a xs) (k : Nat) : Ns w a (xs.take k) := by
  rcases h with rfl | ⟨b, off, rfl, hb, h⟩
  · exact .inl (by simp)
  · refine .inr ⟨b, off, rfl, hb, fun i x hx => h i x ?_⟩
    rw [List.getElem?_take] at hx
    split at hx
    · exact hx
    · cases hx
/-- What a chain's cells hold. -/
theorem OwnN.cells {w : World} {base : Nat} {v : Value} {xs : List Int} (h : OwnN w base v xs) (hp : 0 < xs.length) : ∃ b cap, v = .slice (some ⟨b, 0, none⟩) xs.length cap ∧ xs.length ≤ cap ∧ ∀ (k : Nat) (x : Int), xs[k]? = some x → ∀ w', Keeps w w' → w'.cell? ⟨b, k, none⟩ = some (.int .i64 x) := by
  obtain ⟨b, cap, rfl⟩ := Own.blk h hp
  obtain ⟨_, _, e, _, h1, _⟩ := OwnN.ns h
  simp only [Value.slice.injEq] at e
  obtain ⟨rfl, -, rfl⟩ := e
  refine ⟨b, cap, rfl, h1, fun k x hx => Keeps.has ?_⟩
  have := Own.cellAt h ic_size (i := k) (k := 0) hx (by omega)
  simpa using this
end Go.Proofs.YtpikopdfkhagmaaGreatDoor
namespace Go.Proofs.YtpikopdfkhagmaaGreatDoor
open Go.RowKit
attribute [local go_sem] Keeps.refl Keeps.alloc Keeps.drew Keeps.drewN

set_option maxRecDepth 100000 in
set_option maxHeartbeats 2000000 in
theorem specBefore_any (a b : Tsk) (w : World) :
    Calls Tryz.prog 119 #[tk a, tk b] w fun e w' => e = .returned (.bool (befB a b)) ∧ Keeps w w' := by
  go_enter Tryz.func119, Tryz.ntmps119
  go_wp2_with fail
  have kW : Keeps w ((w.alloc (.cells (tc a) 90)).alloc (.cells (tc b) 90)) := ((Keeps.refl w).alloc _).alloc _
  have r1 : ∀ w', Keeps ((w.alloc (.cells (tc a) 90)).alloc (.cells (tc b) 90)) w' → ∀ k, w'.cell? ⟨w.heap.size, k, none⟩ = (tc a)[k]? := fun w' h => (((Blk.new w (tc a) 90).alloc _).keeps h).cells
  have r2 : ∀ w', Keeps ((w.alloc (.cells (tc a) 90)).alloc (.cells (tc b) 90)) w' → ∀ k, w'.cell? ⟨w.heap.size + 1, k, none⟩ = (tc b)[k]? := fun w' h => by
    have := (Blk.new (w.alloc (.cells (tc a) 90)) (tc b) 90).keeps h
    simp only [World.size_alloc] at this
    exact this.cells
  generalize (w.alloc (.cells (tc a) 90)).alloc (.cells (tc b) 90) = W at *
  refine (specTaskOk_any a _).mono ?_
  rintro e w1 ⟨rfl, k1⟩
  cases ha : taskB a
  · have Hr : Hid (befB a b = false) := by show _ = _; simp [befB, ha]
    go_wp2
    go_ret
    exact ⟨by rw [Hr.out]; rfl, kW.trans k1⟩
  · go_wp2_with fail
    refine (specTaskOk_any b _).mono ?_
    rintro e w2 ⟨rfl, k2⟩
    have K2 := k1.trans k2
    cases hb : taskB b
    · have Hr : Hid (befB a b = false) := by show _ = _; simp [befB, hb]
      go_wp2
      go_ret
      exact ⟨by rw [Hr.out]; rfl, kW.trans K2⟩
    · cases hc : (a.cls != b.cls)
      · have Hr : Hid (befB a b = (dueBefB a b || (fixBefB a b || fairBefB a b))) := by show _ = _; unfold befB; rw [ha, hb, hc]; rfl
        go_wp2_with fail
        refine (specDueBefore_any a b _).mono ?_
        rintro e w3 ⟨rfl, k3⟩
        have K3 := K2.trans k3
        cases h1 : dueBefB a b
        · go_wp2_with fail
          refine (specFixedBefore_any a b _).mono ?_
          rintro e w4 ⟨rfl, k4⟩
          have K4 := K3.trans k4
          cases h2 : fixBefB a b
          · go_wp2_with fail
            refine (specFairBefore_any a b _).mono ?_
            rintro e w5 ⟨rfl, k5⟩
            have K5 := K4.trans k5
            have Hr2 : Hid (befB a b = fairBefB a b) := by show _ = _; rw [Hr.out, h1, h2]; rfl
            go_wp2
            go_ret
            exact ⟨by rw [Hr2.out]; rfl, kW.trans K5⟩
          · have Hr2 : Hid (befB a b = true) := by show _ = _; rw [Hr.out, h1, h2]; rfl
            go_wp2
            go_ret
            exact ⟨by rw [Hr2.out]; rfl, kW.trans K4⟩
        · have Hr2 : Hid (befB a b = true) := by show _ = _; rw [Hr.out, h1]; rfl
          go_wp2
          go_ret
          exact ⟨by rw [Hr2.out]; rfl, kW.trans K3⟩
      · have Hr : Hid (befB a b = decide (a.cls < b.cls)) := by show _ = _; unfold befB; rw [ha, hb, hc]; rfl
        go_wp2
        go_ret
        exact ⟨by rw [Hr.out]; rfl, kW.trans K2⟩

/-- Tasks that lie there, as they are handed on. -/
structure OnT (w : World) (a : Option Addr) (n cap : Nat) (ts : List Tsk) : Prop where
  len : ts.length = n
  small : ts.length ≤ maxLen
  lies : Ts w a ts
section calls
variable {w w' : World} {a : Option Addr} {n cap : Nat} {ts : List Tsk}
theorem OnT.keeps (h : OnT w a n cap ts) (k : Keeps w w') : OnT w' a n cap ts := ⟨h.len, h.small, h.lies.keeps k⟩
set_option maxRecDepth 100000 in
theorem OnT.sTaskAt (h : OnT w a n cap ts) (x : Int) {z : Int} (hz : atFrom ts x = z) (k : Keeps w w') : Calls Tryz.prog 73 #[.slice a n cap, .int .i64 x] w' fun e w'' => e = .returned (.int .i64 z) ∧ Keeps w' w'' := by
  have := specTaskAt_any a cap ts x w' h.small (h.keeps k).lies
  rw [h.len, hz] at this
  exact this
set_option maxRecDepth 100000 in
theorem OnT.sTasksOk (h : OnT w a n cap ts) {z : Bool} (hz : tasksB ts = z) (k : Keeps w w') : Calls Tryz.prog 66 #[.slice a n cap] w' fun e w'' => e = .returned (.bool z) ∧ Keeps w' w'' := by
  have := specTasksOk_any a cap ts w' h.small (h.keeps k).lies
  rw [h.len, hz] at this
  exact this
theorem OnT.all (h : OnT w a n cap ts) (hn : 0 < n) : ∃ b off, a = some ⟨b, off, none⟩ ∧ ∀ (i : Nat) (t : Tsk), ts[i]? = some t → (∀ w', Keeps w w' → w'.cell? ⟨b, off + i * 14, none⟩ = some (.int .i64 t.no)) ∧ ∀ w', Keeps w w' → ∀ k, k < 14 → w'.cell? ⟨b, off + i * 14 + k, none⟩ = (tc t)[k]? := by
  obtain ⟨t0, h0⟩ := some_at (xs := ts) (k := 0) (by rw [h.len]; exact hn)
  obtain ⟨b, off, rfl, -, -⟩ := h.lies.at h0 (by omega)
  refine ⟨b, off, rfl, fun i t ht => ?_⟩
  obtain ⟨b', off', e, r0, r1⟩ := h.lies.at ht (by omega)
  simp only [Option.some.injEq, Addr.mk.injEq] at e
  obtain ⟨rfl, rfl, -⟩ := e
  exact ⟨r0, r1⟩
end calls
end Go.Proofs.YtpikopdfkhagmaaGreatDoor
namespace Go.Proofs.YtpikopdfkhagmaaGreatDoor
open Go.RowKit
attribute [local go_sem] Keeps.refl Keeps.alloc Keeps.drew Keeps.drewN

set_option maxRecDepth 100000 in
set_option maxHeartbeats 2000000 in
theorem specL8Exec_any {w : World} {a : Option Addr} {n cap : Nat} {ts : List Tsk} {b : Option Addr} {m cap2 : Nat} {ls : List Lk} (T : OnT w a n cap ts) (L : On w b m cap2 ls) (no : Int) :
    Calls Tryz.prog 128 #[.slice a n cap, .slice b m cap2, .int .i64 no] w fun e w' => e = .returned (.int .i64 (execI ts ls no)) ∧ Keeps w w' := by
  have HT : Hid (OnT w a n cap ts) := T
  have HL : Hid (On w b m cap2 ls) := L
  clear T L
  obtain ⟨C, HC⟩ : ∃ C, Hid (chainC ls no = C) := ⟨_, rfl⟩
  have hp : Hid (0 < C.length) := by show _ < _; rw [← HC.out]; exact chainC_pos ls no
  have hle : Hid (C.length ≤ m + 2) := by show _ ≤ _; rw [← HC.out]; have := chainN_len ls (ls.length + 1) no; have := HL.out.len; unfold chainC; omega
  have hm : Hid (m ≤ 2097152) := by show _ ≤ _; rw [← HL.out.len]; have := len_le_size ls; have := HL.out.size; omega
  have hE : Hid (execI ts ls no = if C.all (thereB ts) then lastI C else 0) := by show _ = _; unfold execI; rw [HC.out]
  go_enter Tryz.func128, Tryz.ntmps128
  go_wp2_with fail
  refine (HL.out.sChain no (Keeps.refl _)).mono ?_
  rintro e w1 ⟨v, rfl, o1, k1⟩
  have o1' : OwnN w1 w.heap.size v C := by rw [← HC.out]; exact o1
  clear o1
  obtain ⟨bc, cc, rfl, hqc, rc⟩ := OwnN.cells o1' hp.out
  obtain ⟨q, Hq⟩ : ∃ q, Hid (C.length = q) := ⟨_, rfl⟩
  rw [Hq.out] at hqc ⊢
  have hq0 : 0 < q := by rw [← Hq.out]; exact hp.out
  have hq1 : q ≤ 4000000 := by rw [← Hq.out]; have := hle.out; have := hm.out; omega
  have RC : Hid (∀ (k : Nat) (x : Int), C[k]? = some x → ∀ w', Keeps w1 w' → w'.cell? ⟨bc, k, none⟩ = some (.int .i64 x)) := rc
  have K1 : Hid (Keeps w w1) := k1
  clear o1' rc k1
  go_wp2
  go_loopw [9] (fun i wr => ∃ k : Nat, k ≤ q ∧ i = .int .i64 k ∧ Keeps w1 wr ∧ Hid (∀ j x, j < k → C[j]? = some x → thereB ts x = true)) (fun i _ => q - (intOf i).toNat)
  case atStart => exact ⟨0, Nat.zero_le _, rfl, Keeps.refl _, fun j x hj => by omega⟩
  case round =>
    obtain ⟨k, hk, rfl, hK, H⟩ := hrel
    by_cases hlt : k < q
    · have hlt' : (k : Int) < (q : Int) := by omega
      obtain ⟨x, hx⟩ := some_in (xs := C) (k := k) (by rw [Hq.out]; exact hlt)
      have r0 : ∀ w', Keeps w1 w' → w'.cell? ⟨bc, k, none⟩ = some (.int .i64 x) := RC.out k x hx
      have Hx : Hid (C[k]? = some x) := hx
      clear hx
      obtain ⟨z, Hz⟩ : ∃ z, Hid (atFrom ts x = z) := ⟨_, rfl⟩
      cases hn : decide (z < 0)
      · have hth : thereB ts x = true := by unfold thereB; rw [Hz.out, hn]; rfl
        go_wp2_with (go_at_call 73; refine (HT.out.sTaskAt x Hz.out (K1.out.trans hK)).mono ?_; rintro e w2 ⟨rfl, k2⟩)
        exact ⟨⟨k + 1, by omega, by go_num, hK.trans k2, fun j y hj hy => by
          by_cases e : j = k
          · subst e; rw [Hx.out] at hy; cases hy; exact hth
          · exact H.out j y (by omega) hy⟩, by simp only [intOf]; omega⟩
      · have hth : thereB ts x = false := by unfold thereB; rw [Hz.out, hn]; rfl
        have Hr : Hid (execI ts ls no = 0) := by
          show _ = _
          rw [hE.out, if_neg]
          rw [List.all_eq_true]
          intro h
          have := h x (List.mem_of_getElem? Hx.out)
          rw [hth] at this
          cases this
        go_wp2_with (go_at_call 73; refine (HT.out.sTaskAt x Hz.out (K1.out.trans hK)).mono ?_; rintro e w2 ⟨rfl, k2⟩)
        go_ret
        exact ⟨by rw [Hr.out]; rfl, K1.out.trans (hK.trans k2)⟩
    · have Hr : Hid (execI ts ls no = lastI C) := by
        show _ = _
        rw [hE.out, if_pos]
        rw [List.all_eq_true]
        intro x hx
        obtain ⟨j, hj, rfl⟩ := List.mem_iff_getElem.1 hx
        exact H.out j _ (by rw [Hq.out] at hj; omega) (List.getElem?_eq_getElem hj)
      obtain ⟨q1, Hq1⟩ : ∃ q1 : Nat, Hid (q = q1 + 1) := ⟨q - 1, by show _ = _; omega⟩
      have eq1 : IntKind.i64.wrap ((q : Int) - 1) = (q1 : Int) := by rw [Go.IntWalk.i64_in _ (by omega), Hq1.out]; omega
      have hqq : q1 < q := by rw [Hq1.out]; omega
      have hqq' : (q1 : Int) < (q : Int) := by omega
      have r0 : ∀ w', Keeps w1 w' → w'.cell? ⟨bc, q1, none⟩ = some (.int .i64 (lastI C)) := RC.out q1 _ (by have := lastI_at hp.out; rw [Hq.out, Hq1.out] at this; simpa using this)
      go_wp2
      go_ret
      exact ⟨by rw [Hr.out]; rfl, K1.out.trans hK⟩

/-- Tasks and locks that lie there. -/
structure Two (w : World) (a : Option Addr) (n cap : Nat) (ts : List Tsk) (b : Option Addr) (m cap2 : Nat) (ls : List Lk) : Prop where
  t : OnT w a n cap ts
  l : On w b m cap2 ls
theorem Two.keeps {w w' : World} {a : Option Addr} {n cap : Nat} {ts : List Tsk} {b : Option Addr} {m cap2 : Nat} {ls : List Lk} (h : Two w a n cap ts b m cap2 ls) (k : Keeps w w') : Two w' a n cap ts b m cap2 ls := ⟨h.t.keeps k, h.l.keeps k⟩
set_option maxRecDepth 100000 in
theorem Two.exec {w w' : World} {a : Option Addr} {n cap : Nat} {ts : List Tsk} {b : Option Addr} {m cap2 : Nat} {ls : List Lk} (h : Two w a n cap ts b m cap2 ls) (no : Int) {z : Int} (hz : execI ts ls no = z) (k : Keeps w w') :
    Calls Tryz.prog 128 #[.slice a n cap, .slice b m cap2, .int .i64 no] w' fun e w'' => e = .returned (.int .i64 z) ∧ Keeps w' w'' := by
  have := specL8Exec_any (h.keeps k).t (h.keeps k).l no
  rw [hz] at this
  exact this
/-- What is read of one that is there. -/
theorem OnT.there {w : World} {a : Option Addr} {n cap : Nat} {ts : List Tsk} (h : OnT w a n cap ts) {x : Int} (hx : thereB ts x = true) : ∃ (k : Nat) (b off : Nat), k < n ∧ a = some ⟨b, off, none⟩ ∧ atFrom ts x = (k : Int) ∧ ts[k]? = some (tAt ts x) ∧ (tAt ts x).no = x ∧ (∀ w', Keeps w w' → w'.cell? ⟨b, off + k * 14, none⟩ = some (.int .i64 (tAt ts x).no)) ∧ ∀ w', Keeps w w' → ∀ j, j < 14 → w'.cell? ⟨b, off + k * 14 + j, none⟩ = (tc (tAt ts x))[j]? := by
  obtain ⟨k, t, e, ht, hno⟩ := thereB_iff.1 hx
  have e2 := tAt_of e ht
  obtain ⟨b, off, rfl, r0, r1⟩ := h.lies.at ht (by omega)
  rw [e2]
  exact ⟨k, b, off, by rw [← h.len]; exact lt_of_some ht, rfl, e, ht, hno, r0, r1⟩

set_option maxRecDepth 100000 in
set_option maxHeartbeats 2000000 in
theorem specL8Able_any {w : World} {a : Option Addr} {n cap : Nat} {ts : List Tsk} {b : Option Addr} {m cap2 : Nat} {ls : List Lk} (h : Two w a n cap ts b m cap2 ls) (no : Int) :
    Calls Tryz.prog 124 #[.slice a n cap, .slice b m cap2, .int .i64 no] w fun e w' => e = .returned (.bool (ableB ts ls no)) ∧ Keeps w w' := by
  have H : Hid (Two w a n cap ts b m cap2 ls) := h
  clear h
  obtain ⟨x, Hx⟩ : ∃ x, Hid (execI ts ls no = x) := ⟨_, rfl⟩
  have Hr : Hid (ableB ts ls no = (x != 0 && ((tAt ts no).st == 1 && (tAt ts x).st == 1))) := by show _ = _; unfold ableB; rw [Hx.out]
  cases hx : (x != 0)
  · have Hr2 : Hid (ableB ts ls no = false) := by show _ = _; rw [Hr.out, hx]; rfl
    go_enter Tryz.func124, Tryz.ntmps124
    go_wp2_with (go_at_call 128; refine (H.out.exec no Hx.out (Keeps.refl _)).mono ?_; rintro e w1 ⟨rfl, k1⟩)
    go_ret
    exact ⟨by rw [Hr2.out]; rfl, k1⟩
  · have th := exec_there (ts := ts) (ls := ls) (no := no) (by rw [Hx.out]; exact hx)
    rw [Hx.out] at th
    obtain ⟨k, b1, o1, hk, e, Hk, -, -, -, r1⟩ := H.out.t.there th.2.2.1
    subst e
    obtain ⟨j, b2, o2, hj, e, Hj, -, -, -, r2⟩ := H.out.t.there th.2.2.2
    simp only [Option.some.injEq, Addr.mk.injEq] at e
    obtain ⟨rfl, rfl, -⟩ := e
    have HK : Hid (atFrom ts no = (k : Int)) := Hk
    have HJ : Hid (atFrom ts x = (j : Int)) := Hj
    clear th Hk Hj
    have hk' : (k : Int) < (n : Int) := by omega
    have hj' : (j : Int) < (n : Int) := by omega
    cases h1 : ((tAt ts no).st == 1)
    · have Hr2 : Hid (ableB ts ls no = false) := by show _ = _; rw [Hr.out, h1, Bool.false_and, Bool.and_false]
      go_enter Tryz.func124, Tryz.ntmps124
      go_wp2_with (first
        | (go_at_call 128; refine (H.out.exec no Hx.out (Keeps.refl _)).mono ?_; rintro e w1 ⟨rfl, k1⟩)
        | (go_at_call 73; refine (H.out.t.sTaskAt no HK.out k1).mono ?_; rintro e w2 ⟨rfl, k2⟩; have K2 := k1.trans k2))
      go_ret
      exact ⟨by rw [Hr2.out]; rfl, K2⟩
    · have Hr2 : Hid (ableB ts ls no = ((tAt ts x).st == 1)) := by show _ = _; rw [Hr.out, hx, h1]; rfl
      go_enter Tryz.func124, Tryz.ntmps124
      go_wp2_with (first
        | (go_at_call 128; refine (H.out.exec no Hx.out (Keeps.refl _)).mono ?_; rintro e w1 ⟨rfl, k1⟩)
        | (go_at_call 73; have k0 := k1; clear k1; refine (H.out.t.sTaskAt no HK.out k0).mono ?_; rintro e w2 ⟨rfl, k2⟩; have K2 := k0.trans k2)
        | (go_at_call 73; refine (H.out.t.sTaskAt x HJ.out K2).mono ?_; rintro e w3 ⟨rfl, k3⟩; have K3 := K2.trans k3))
      go_ret
      exact ⟨by rw [Hr2.out]; rfl, K3⟩
set_option maxRecDepth 100000 in
theorem Two.able {w w' : World} {a : Option Addr} {n cap : Nat} {ts : List Tsk} {b : Option Addr} {m cap2 : Nat} {ls : List Lk} (h : Two w a n cap ts b m cap2 ls) (no : Int) {z : Bool} (hz : ableB ts ls no = z) (k : Keeps w w') :
    Calls Tryz.prog 124 #[.slice a n cap, .slice b m cap2, .int .i64 no] w' fun e w'' => e = .returned (.bool z) ∧ Keeps w' w'' := by
  have := specL8Able_any (h.keeps k) no
  rw [hz] at this
  exact this
theorem able_there {ts : List Tsk} {ls : List Lk} {no : Int} (h : ableB ts ls no = true) : thereB ts no = true ∧ thereB ts (execI ts ls no) = true := by
  unfold ableB at h
  rw [Bool.and_eq_true] at h
  have := exec_there h.1
  exact ⟨this.2.2.1, this.2.2.2⟩

set_option maxRecDepth 100000 in
set_option maxHeartbeats 2000000 in
theorem specL8Can_any {w : World} {a : Option Addr} {n cap : Nat} {ts : List Tsk} {b : Option Addr} {m cap2 : Nat} {ls : List Lk} (h : Two w a n cap ts b m cap2 ls) (no : Int) :
    Calls Tryz.prog 136 #[.slice a n cap, .slice b m cap2, .int .i64 no] w fun e w' => e = .returned (.bool (canB ts ls no)) ∧ Keeps w w' := by
  have H : Hid (Two w a n cap ts b m cap2 ls) := h
  clear h
  cases h1 : ableB ts ls no
  · have Hr2 : Hid (canB ts ls no = false) := by show _ = _; unfold canB; rw [h1]; rfl
    go_enter Tryz.func136, Tryz.ntmps136
    go_wp2_with (go_at_call 124; refine (H.out.able no h1 (Keeps.refl _)).mono ?_; rintro e w1 ⟨rfl, k1⟩)
    go_ret
    exact ⟨by rw [Hr2.out]; rfl, k1⟩
  · have Hr : Hid (canB ts ls no = mayB (tAt ts no)) := by show _ = _; unfold canB; rw [h1]; rfl
    obtain ⟨k, b1, o1, hk, rfl, Hk, -, -, r0, r1⟩ := H.out.t.there (able_there h1).1
    have HK : Hid (atFrom ts no = (k : Int)) := Hk
    clear Hk
    have hk' : (k : Int) < (n : Int) := by omega
    generalize tAt ts no = t at *
    cases h2 : (t.cls != 1)
    · have Hr2 : Hid (canB ts ls no = decide (0 < t.left)) := by show _ = _; rw [Hr.out]; unfold mayB; rw [h2]; rfl
      go_enter Tryz.func136, Tryz.ntmps136
      go_wp2_with (first
        | (go_at_call 124; refine (H.out.able no h1 (Keeps.refl _)).mono ?_; rintro e w1 ⟨rfl, k1⟩)
        | (go_at_call 73; refine (H.out.t.sTaskAt no HK.out k1).mono ?_; rintro e w2 ⟨rfl, k2⟩; have K2 := k1.trans k2))
      go_ret
      exact ⟨by rw [Hr2.out]; rfl, K2.alloc _⟩
    · have Hr2 : Hid (canB ts ls no = true) := by show _ = _; rw [Hr.out]; unfold mayB; rw [h2]; rfl
      go_enter Tryz.func136, Tryz.ntmps136
      go_wp2_with (first
        | (go_at_call 124; refine (H.out.able no h1 (Keeps.refl _)).mono ?_; rintro e w1 ⟨rfl, k1⟩)
        | (go_at_call 73; refine (H.out.t.sTaskAt no HK.out k1).mono ?_; rintro e w2 ⟨rfl, k2⟩; have K2 := k1.trans k2))
      go_ret
      exact ⟨by rw [Hr2.out]; rfl, K2.alloc _⟩
set_option maxRecDepth 100000 in
theorem Two.can {w w' : World} {a : Option Addr} {n cap : Nat} {ts : List Tsk} {b : Option Addr} {m cap2 : Nat} {ls : List Lk} (h : Two w a n cap ts b m cap2 ls) (no : Int) {z : Bool} (hz : canB ts ls no = z) (k : Keeps w w') :
    Calls Tryz.prog 136 #[.slice a n cap, .slice b m cap2, .int .i64 no] w' fun e w'' => e = .returned (.bool z) ∧ Keeps w' w'' := by
  have := specL8Can_any (h.keeps k) no
  rw [hz] at this
  exact this
end Go.Proofs.YtpikopdfkhagmaaGreatDoor
