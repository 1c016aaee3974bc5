/-
  The program's locks: copies of them, and what may be passed on.
  The program's locks: what asking says.
  The program's locks: asking for one, freeing one; what each function says.
-/
import Derived.Test.YtioffjgnfkjmkaaGIlock1
import Derived.Test.YtioffjgnfkjmkaaGBase1
import Derived.Test.YtioffjgnfkjmkaaGLock3
import Derived.Deep.Cut
import Derived.Test.YtioffjgnfkjmkaaGPure1
namespace Go.Proofs.Ytioffjgnfkjmkaa
open Go.RowKit
attribute [local go_sem] Keeps.refl Keeps.alloc Keeps.drew Keeps.drewN

set_option maxRecDepth 100000 in
theorem hasLock_any (a : Option Addr) (cap n : Nat) (i : Int) (w : World) (hl : n ≤ maxLen) :
    Calls Try.prog 76 #[.slice a n cap, .int .i64 i] w fun e w' => e = .returned (.bool (inB i 0 ((n : Int) - 1))) ∧ w' = w := by
  unfold maxLen at hl
  have ewrap : IntKind.i64.wrap ((n : Int) - 1) = (n : Int) - 1 := Go.IntWalk.i64_in _ (by omega)
  obtain ⟨q, Hq⟩ : ∃ q, Hid (inB i 0 ((n : Int) - 1) = q) := ⟨_, rfl⟩
  rw [Hq.out]
  go_enter Try.func76, Try.ntmps76
  go_wp2_with (go_at_call 93; refine (isWithin_any _ _ _ _).mono ?_; rintro e w' ⟨rfl, hw'⟩; have hw2 := hw'.symm; subst hw2; rw [Hq.out])
  go_ret
  exact ⟨rfl, rfl⟩

/-- Whether one may hand its lock on to another. -/
def passB (l : Lk) (no next : Int) : Bool := !(no == 0) && (l.owner == no && mayNext l.waits next)
set_option maxRecDepth 100000 in
set_option maxHeartbeats 1000000 in
theorem canPass_any (o : Int) (a : Option Addr) (cap : Nat) (xs : List Int) (no next : Int) (w : World) (hl : xs.length ≤ maxLen) (hs : Ns w a xs) :
    Calls Try.prog 77 #[.agg #[.int .i64 o, .slice a xs.length cap], .int .i64 no, .int .i64 next] w fun e w' => e = .returned (.bool (passB ⟨o, xs⟩ no next)) ∧ Keeps w w' := by
  have E1 : Hid (∀ w', Keeps w w' → Calls Try.prog 100 #[.slice a xs.length cap, .int .i64 next] w' fun e w'' => e = .returned (.bool (hasB xs next)) ∧ Keeps w' w'') := fun w' k => sliceHas_any a cap xs next w' hl (hs.keeps k)
  have HP : Hid (passB ⟨o, xs⟩ no next = (!(no == 0) && (o == no && (if xs.length == 0 then next == 0 else hasB xs next)))) := rfl
  unfold maxLen at hl
  clear hs
  generalize hn : xs.length = n at *
  clear hn
  obtain ⟨g, Hg⟩ : ∃ g, Hid (hasB xs next = g) := ⟨_, rfl⟩
  rw [Hg.out] at E1 HP
  have sy : (o == no) = !(no != o) := by simp only [bne, Bool.not_not]; exact Bool.beq_comm
  rw [sy] at HP
  cases c1 : (no == 0)
  rotate_left
  · have Hr : Hid (passB ⟨o, xs⟩ no next = false) := by show _ = _; rw [HP.out, c1]; rfl
    go_enter Try.func77, Try.ntmps77
    go_wp2
    go_ret
    exact ⟨by rw [Hr.out]; rfl, (Keeps.refl _).alloc _⟩
  cases c2 : (no != o)
  rotate_left
  · have Hr : Hid (passB ⟨o, xs⟩ no next = false) := by show _ = _; rw [HP.out, c1, c2]; rfl
    go_enter Try.func77, Try.ntmps77
    go_wp2
    go_ret
    exact ⟨by rw [Hr.out]; rfl, (Keeps.refl _).alloc _⟩
  cases c3 : ((n : Int) == 0)
  · have c3' : (n == 0) = false := by simp at c3 ⊢; omega
    have Hr : Hid (passB ⟨o, xs⟩ no next = g) := by show _ = _; rw [HP.out, c1, c2, c3']; rfl
    go_enter Try.func77, Try.ntmps77
    go_wp2_with (go_at_call 100; refine (E1.out _ ((Keeps.refl _).alloc _)).mono ?_; rintro e w1 ⟨rfl, k1⟩)
    go_ret
    exact ⟨by rw [Hr.out]; rfl, ((Keeps.refl _).alloc _).trans k1⟩
  · have c3' : (n == 0) = true := by simp at c3 ⊢; omega
    have Hr : Hid (passB ⟨o, xs⟩ no next = (next == 0)) := by show _ = _; rw [HP.out, c1, c2, c3']; rfl
    go_enter Try.func77, Try.ntmps77
    go_wp2
    go_ret
    exact ⟨by rw [Hr.out]; rfl, (Keeps.refl _).alloc _⟩

theorem filter_take {f : Int → Bool} {xs : List Int} {k : Nat} {y : Int} (h : xs[k]? = some y) : (xs.take (k + 1)).filter f = (xs.take k).filter f ++ (if f y then [y] else []) := by
  rw [List.take_add_one, h, List.filter_append]
  congr 1
  cases hx : f y <;> simp [hx]
set_option maxRecDepth 100000 in
set_option maxHeartbeats 2000000 in
theorem still_any (B : Nat) (E : List (Int × Int)) (o : Int) (a : Option Addr) (cap : Nat) (xs : List Int) (w : World) (hl : xs.length ≤ 2097152) (hs : Ns w a xs) (hm : MapI w B E) :
    Calls Try.prog 79 #[.map (some B), .agg #[.int .i64 o, .slice a xs.length cap]] w fun e w' => ∃ v, e = .returned v ∧ OwnN w' w.heap.size v (xs.filter fun y => hasM E y) ∧ Keeps w w' := by
  generalize hn : xs.length = n at hl
  have Hn : Hid (xs.length = n) := hn
  clear hn
  have HS : Hid (Ns w a xs) := hs
  have HM : Hid (MapI w B E) := hm
  clear hs hm
  go_enter Try.func79, Try.ntmps79
  go_wp2
  have kz : Hid (Keeps w (w.alloc (.cells #[.int .i64 o, .slice a n cap] 58))) := (Keeps.refl _).alloc _
  generalize w.alloc (.cells #[.int .i64 o, .slice a n cap] 58) = W at *
  go_loopw [5, 13] (fun v i wr => ∃ (k : Nat) (ys : List Int), k ≤ n ∧ i = .int .i64 k ∧ ys.length ≤ k ∧ Hid (OwnN wr w.heap.size v ys) ∧ Keeps w wr ∧ Hid ((xs.take k).filter (fun y => hasM E y) = ys)) (fun _ i _ => n - (intOf i).toNat)
  case atStart => exact ⟨0, [], Nat.zero_le _, rfl, by simp, World.ownsRow_nil _ _ _ _, kz.out, by show _ = _; simp⟩
  case round =>
    obtain ⟨k, ys, hk, rfl, hy, own, hK, HI⟩ := hrel
    clear kz
    by_cases hlt : k < n
    · obtain ⟨y, hy1⟩ := some_in (xs := xs) (k := k) (by rw [Hn.out]; exact hlt)
      obtain ⟨b, off, rfl, r0⟩ := HS.out.at hy1
      have hlt' : (k : Int) < (n : Int) := by omega
      have Hy : Hid (xs[k]? = some y) := hy1
      clear hy1
      have MM : Hid (MapI wr B E) := HM.out.keeps hK
      obtain ⟨v0, Hv⟩ : ∃ v, Hid (valM E y = v) := ⟨_, rfl⟩
      cases hq : hasM E y
      · have HQ : Hid (hasM E y = false) := hq
        clear hq
        go_wp2_with (at_lookup; refine wpList_lookI rfl _ _ 107 rfl 3 3 Try.underlying107 Try.underlying3 (zeroI _) B E rfl MM.out y rfl v0 false Hv.out HQ.out ?_)
        refine ⟨⟨k + 1, ys, by omega, by go_num, by omega, own, hK, ?_⟩, by simp only [intOf]; omega⟩
        show _ = _
        rw [filter_take Hy.out, HI.out, HQ.out]
        simp
      · have HQ : Hid (hasM E y = true) := hq
        clear hq
        go_wp2_with (first
          | (at_lookup; refine wpList_lookI rfl _ _ 107 rfl 3 3 Try.underlying107 Try.underlying3 (zeroI _) B E rfl MM.out y rfl v0 true Hv.out HQ.out ?_)
          | (at_builtin; (refine wpList_push rfl _ _ 56 rfl w 3 (.int .i64 0) 1 8 ic Try.underlying56 (by kernel_rfl) rfl (by decide) ic_size ic_one _ ys rfl wr own.out hK ((Keeps.refl _).alloc _) y _ 1 (Blk.new _ _ _) rfl ?c1 ?c2 ?_)))
        case c1 => unfold maxLen; omega
        case c2 => omega
        intro v' w5 own5 k5 _
        have HO : Hid (OwnN w5 w.heap.size v' (ys ++ [y])) := own5
        clear own5 own
        go_wp2
        refine ⟨⟨k + 1, ys ++ [y], by omega, by go_num, by simp; omega, HO, k5, ?_⟩, by simp only [intOf]; omega⟩
        show _ = _
        rw [filter_take Hy.out, HI.out, HQ.out]
        rfl
    · have e : k = n := by omega
      subst e
      have HR : Hid (xs.filter (fun y => hasM E y) = ys) := by show _ = _; rw [← HI.out, ← Hn.out, List.take_length]
      go_wp2
      go_ret
      exact ⟨_, rfl, by rw [HR.out]; exact own.out, hK⟩

set_option maxRecDepth 100000 in
set_option maxHeartbeats 1000000 in
theorem copyWaits_any (a : Option Addr) (cap : Nat) (xs : List Int) (w : World) (hl : xs.length ≤ 2097152) (hs : Ns w a xs) :
    Calls Try.prog 101 #[.slice a xs.length cap] w fun e w' => e = .returned (.slice (some ⟨w.heap.size, 0, none⟩) xs.length xs.length) ∧ OwnN w' w.heap.size (.slice (some ⟨w.heap.size, 0, none⟩) xs.length xs.length) xs ∧ Keeps w w' := by
  generalize hn : xs.length = n at hl
  have Hn : Hid (xs.length = n) := hn
  clear hn
  obtain ⟨C, hC, hmk⟩ := run_make_any (P := Try.prog) 56 3 (.int .i64 0) 1 8 Try.underlying56 (by kernel_rfl) n (by omega) (by omega)
  have hr0 := Row.new w C 3
  have hs0 := hs.lies.keeps ((Keeps.refl w).alloc (.cells C 3))
  have HC : Hid (C.size = n * 1) := hC
  clear hC
  go_enter Try.func101, Try.ntmps101
  go_upto_region 2 with fail
  have kW : Keeps w (w.alloc (.cells C 3)) := (Keeps.refl w).alloc _
  clear hmk hs
  generalize w.alloc (.cells C 3) = W at *
  have hrun : ∀ ty, (Builtin.copy_ #[56, 56] ty #[.slice (some ⟨w.heap.size, 0, none⟩) n n, .slice a n cap]).run Try.prog W = .ok (goInt n) (W.setRow w.heap.size (setL C 0 (flatC ic xs))) := fun ty => by
    have := run_copy_lies (P := Try.prog) ic 1 ic_size (by decide) ic_one W 56 56 ty 3 (some ⟨w.heap.size, 0, none⟩) a n n n cap C 3 w.heap.size 0 xs Try.underlying56 (by kernel_rfl) hr0 (by rw [Hn.out]; simp) (fun _ => rfl) hs0 (by rw [Hn.out, HC.out]; omega)
    rwa [Hn.out] at this
  have R1 : Hid (Row (W.setRow w.heap.size (setL C 0 (flatC ic xs))) w.heap.size 3 (flatC ic xs).toArray) := by
    have e := setL_all (L := flatC ic xs) (C := C) (by rw [flatC_length ic_size, Hn.out, HC.out])
    have := hr0.setRow (setL C 0 (flatC ic xs))
    show Row _ _ _ _
    rw [← e]; exact this
  have K1 : Hid (Keeps w (W.setRow w.heap.size (setL C 0 (flatC ic xs)))) := kW.setRow (Nat.le_refl _) _
  clear hr0 hs0 kW
  generalize W.setRow w.heap.size (setL C 0 (flatC ic xs)) = X at *
  go_wp2
  go_ret
  refine ⟨rfl, ?_, K1.out⟩
  have := R1.out.own (sz := 1) ic_size (base := w.heap.size) (Nat.le_refl _) (by rw [Hn.out]; unfold maxLen; omega)
  rwa [Hn.out] at this

set_option maxRecDepth 100000 in
set_option maxHeartbeats 4000000 in
theorem copyLocks_any (a : Option Addr) (cap : Nat) (ls : List Lk) (w : World) (hl : sizeN ls ≤ 2097152) (hs : Lks true w a ls) :
    Calls Try.prog 71 #[.slice a ls.length cap] w fun e w' => ∃ b vs, e = .returned (.slice (some ⟨b, 0, none⟩) ls.length ls.length) ∧ Mine w' w.heap.size w'.heap.size (.slice (some ⟨b, 0, none⟩) ls.length ls.length) vs ls ∧ Keeps w w' := by
  have hl0 : ls.length ≤ 2097152 := by unfold sizeN at hl; omega
  have HL : Hid (sizeN ls ≤ 2097152) := hl
  clear hl
  generalize hn : ls.length = n at hl0
  have Hn : Hid (ls.length = n) := hn
  clear hn
  have hmk := run_make_zero (P := Try.prog) 43 58 (.agg #[.int .i64 0, .slice none 0 0]) 2 32 Try.underlying43 (by kernel_rfl) n (by omega) (by omega)
  simp only [Value.cells] at hmk
  have M0 : Hid (Mine (w.alloc (.cells (madeCells #[.int .i64 0, .slice none 0 0] (n * 2)) 58)) w.heap.size (w.heap.size + 1) (.slice (some ⟨w.heap.size, 0, none⟩) n n) (List.replicate n Lv.zero) (List.replicate n ⟨0, []⟩)) := Mine.zero w n (by unfold maxLen; omega)
  go_enter Try.func71, Try.ntmps71
  go_wp2
  go_loopw [11] (fun i wr => ∃ (k : Nat) (vs : List Lv) (P : List Lk), k ≤ n ∧ i = .int .i64 k ∧ Keeps w wr ∧ Hid (Mine wr w.heap.size wr.heap.size (.slice (some ⟨w.heap.size, 0, none⟩) n n) vs P) ∧ Hid (P.length = n) ∧ Hid (∀ (j : Nat) (l : Lk), j < k → ls[j]? = some l → P[j]? = some l)) (fun i _ => n - (intOf i).toNat)
  case atStart => exact ⟨0, _, _, Nat.zero_le _, rfl, (Keeps.refl _).alloc _, M0.out.widen (Nat.le_refl _) (by simp), by show _ = _; simp, fun j _ hj => by omega⟩
  case round =>
    obtain ⟨k, vs, P, hk, rfl, hK, M, hP, hf⟩ := hrel
    clear hmk M0
    by_cases hlt : k < n
    · obtain ⟨l, hl1⟩ := some_in (xs := ls) (k := k) (by rw [Hn.out]; exact hlt)
      obtain ⟨b, off, a', cap', rfl, r0, r1, hle, hns⟩ := hs.at hl1
      have hlt' : (k : Int) < (n : Int) := by omega
      have Hl : Hid (ls[k]? = some l) := hl1
      have N1 : Hid (Ns w a' l.waits) := hns
      have hw : Hid (l.waits.length ≤ 2097152) := by show _ ≤ _; have := sumW_mem hl1; have := HL.out; unfold sizeN at this; omega
      clear hs hl1 hns hle
      have hvl : Hid (k < vs.length) := by show _ < _; rw [M.out.len, hP.out]; exact hlt
      obtain ⟨x, hx⟩ := some_in hvl.out
      have Hx : Hid (vs[k]? = some x) := hx
      have hvn : vs.length = n := M.out.len.trans hP.out
      have O0 := M.out.own
      rw [← hvn] at O0
      have s0 : Hid (∀ w', Keeps wr w' → w'.cell? ⟨w.heap.size, k * 2, none⟩ = some (.int .i64 x.o)) := Keeps.has (O0.cellAt lvc_size (k := 0) hx (by omega))
      have s1 : Hid (∀ w', Keeps wr w' → w'.cell? ⟨w.heap.size, k * 2 + 1, none⟩ = some x.row) := Keeps.has (O0.cellAt lvc_size (k := 1) hx (by omega))
      have bl : Hid (w.heap.size < wr.heap.size) := (O0.ltb _ rfl).2
      have s2 : Hid (∀ w', Keeps wr w' → ∀ o, w'.frozen? ⟨w.heap.size, o, none⟩ = false) := fun w' h o => (h.frozens _ _ bl.out).trans (O0.frozenAt o)
      clear O0 hx hvn
      obtain ⟨m, Hm⟩ : ∃ m, Hid (l.waits.length = m) := ⟨_, rfl⟩
      rw [Hm.out] at r1
      go_wp2_with fail
      have kX : Hid (Keeps wr (wr.alloc (.cells #[.int .i64 l.owner, .slice a' m cap'] 58))) := (Keeps.refl wr).alloc _
      have B0 : Hid (Blk (wr.alloc (.cells #[.int .i64 l.owner, .slice a' m cap'] 58)) wr.heap.size #[.int .i64 l.owner, .slice a' m cap']) := Blk.new _ _ _
      generalize wr.alloc (.cells #[.int .i64 l.owner, .slice a' m cap'] 58) = X at *
      have H0 : Hid (Has w wr.heap.size #[.int .i64 l.owner, .slice a' m cap'] X) := ⟨hK.trans kX.out, B0.out⟩
      have q0 : ∀ w', Has w wr.heap.size #[.int .i64 l.owner, .slice a' m cap'] w' → w'.cell? ⟨wr.heap.size, 0, none⟩ = some (.int .i64 l.owner) := fun w' h => h.box.cells 0
      have q1 : ∀ w', Has w wr.heap.size #[.int .i64 l.owner, .slice a' m cap'] w' → w'.cell? ⟨wr.heap.size, 1, none⟩ = some (.slice a' m cap') := fun w' h => h.box.cells 1
      have C1 : Hid (∀ w', Keeps w w' → Calls Try.prog 101 #[.slice a' m cap'] w' fun e w'' => ∃ b', e = .returned (.slice (some ⟨b', 0, none⟩) m m) ∧ OwnN w'' w'.heap.size (.slice (some ⟨b', 0, none⟩) m m) l.waits ∧ Keeps w' w'') := fun w' h => by
        have := copyWaits_any a' cap' l.waits w' hw.out (N1.out.keeps h)
        rw [Hm.out] at this
        exact this.mono fun e w'' h => ⟨_, h.1, h.2.1, h.2.2⟩
      have hbx : wr.heap.size ≠ w.heap.size := by have := bl.out; omega
      clear r0 r1
      refine wp_region_held_drew (S := (fun w' => Has w wr.heap.size #[.int .i64 l.owner, .slice a' m cap'] w')) (by kernel_rfl) ?_ (fun hHeld => ?_)
      · exact H0.out.go (Keeps.refl _).drew
      refine takeH 0 (v := ?_) (by simp only [opsAt]; rfl) (by kernel_rfl) (by exact fun _ _ _ h => h) (by rfl) (by assumption) ?_ ?_
      rotate_left
      · (intro w _; go_simp; try (with_reducible rfl))
      try simp only [putAtH]
      refine takeH 1 (v := ?_) (by simp only [opsAt]; rfl) (by kernel_rfl) (by exact fun _ _ _ h => h) (by rfl) (by assumption) ?_ ?_
      rotate_left
      · (intro w _; go_simp; try (with_reducible rfl))
      try simp only [putAtH]
      refine takeH 2 (v := ?_) (by simp only [opsAt]; rfl) (by kernel_rfl) (by exact fun _ _ _ h => h) (by rfl) (by assumption) ?_ ?_
      rotate_left
      · (intro w _; go_simp; try (with_reducible rfl))
      try simp only [putAtH]
      refine takeH 3 (v := ?_) (by simp only [opsAt]; rfl) (by kernel_rfl) (by exact fun _ _ _ h => h) (by rfl) (by assumption) ?_ ?_
      rotate_left
      · (intro w _; go_simp; try (with_reducible rfl))
      try simp only [putAtH]
      refine takeH 4 (v := ?_) (by simp only [opsAt]; rfl) (by kernel_rfl) (by exact fun _ _ _ h => h) (by rfl) (by assumption) ?_ ?_
      rotate_left
      · (intro w _; go_simp; try (with_reducible rfl))
      try simp only [putAtH]
      refine takeH 5 (v := ?_) (by simp only [opsAt]; rfl) (by kernel_rfl) (by exact fun _ _ _ h => h) (by rfl) (by assumption) ?_ ?_
      rotate_left
      · (intro w _; go_simp; try (with_reducible rfl))
      try simp only [putAtH]
      refine callH 6 (by kernel_rfl) (by simp only [opsAt]; rfl) (fun K hK => ?_)
      go_simp
      first
        | (go_at_call 101; refine (C1.out _ H0.out.keeps.drew).mono ?_; rintro e w6 ⟨b', rfl, o6, k6⟩; have O6 : Hid (OwnN w6 X.heap.size (.slice (some ⟨b', 0, none⟩) m m) l.waits) := o6; have K6 : Hid (Keeps X w6) := (Keeps.refl X).drew.trans k6; clear o6)
      try go_wp2_with fail
      refine hK.out _ _ ?_ (fun hHeld => ?_)
      · first | exact Has.go (by assumption) (by assumption) | assumption
      clear hK K
      try simp only [putAtH]
      refine takeH 7 (v := ?_) (by simp only [opsAt]; rfl) (by kernel_rfl) (by exact fun _ _ _ h => h) (by rfl) (by assumption) ?_ ?_
      rotate_left
      · (intro w _; go_simp; try (with_reducible rfl))
      try simp only [putAtH]
      refine takeH 8 (v := ?_) (by simp only [opsAt]; rfl) (by kernel_rfl) (by exact fun _ _ _ h => h) (by rfl) (by assumption) ?_ ?_
      rotate_left
      · (intro w _; go_simp; try (with_reducible rfl))
      try simp only [putAtH]
      refine callH 9 (by kernel_rfl) (by simp only [opsAt]; rfl) (fun K hK => ?_)
      have z0 := s0.out w6 (kX.out.trans K6.out); have z1 := s1.out w6 (kX.out.trans K6.out); have z2 := s2.out w6 (kX.out.trans K6.out)
      go_simp
      try go_wp2_with fail
      refine hK.out _ _ ?_ (fun hHeld => ?_)
      · exact Has.put (by assumption) (r := w.heap.size) (Nat.le_refl _) (by omega) (k * 2) [.int .i64 l.owner, .slice (some ⟨b', 0, none⟩) m m]
      clear hK K
      try simp only [putAtH]
      refine wpAnyH_done (by kernel_rfl) ?_ _
      go_wp2
      have M1 := M.out.keeps (kX.out.trans K6.out)
      have hb' := O6.out.ltb b' rfl
      have sz := kX.out.size
      have hne : b' ≠ w.heap.size := by have := bl.out; omega
      refine ⟨⟨k + 1, vs.set k ⟨l.owner, some ⟨b', 0, none⟩, m, m⟩, P.set k l, by omega, by go_num, ((hK.trans (kX.out.trans K6.out)).setCell (p := ⟨w.heap.size, k * 2, none⟩) (Nat.le_refl _) _).setCell (p := ⟨w.heap.size, k * 2 + 1, none⟩) (Nat.le_refl _) _, ?_, by show _ = _; simpa using hP.out, ?_⟩, by simp only [intOf]; omega⟩
      · refine M1.swap (x := x) (y := ⟨l.owner, some ⟨b', 0, none⟩, m, m⟩) (l := l) Hx.out (M1.own.setTwo Hx.out ⟨l.owner, some ⟨b', 0, none⟩, m, m⟩) (fun b2 h1 h2 h3 => ?_) rfl ?_ (by have := K6.out.size; simp; omega) (fun b2 e => ?_)
        · have : b2 ≠ w.heap.size := fun e => h1 (by rw [e]; rfl)
          rw [heap_setCell this, heap_setCell this]
        · refine Own.base (Own.same O6.out fun b2 e => ?_) (by have := bl.out; omega)
          have e2 : b2 = b' := by simpa [Value.ownBlock] using e.symm
          rw [heap_setCell (by omega), heap_setCell (by omega)]
        · have e2 : b2 = b' := by simpa [Value.ownBlock] using e.symm
          subst e2
          exact .inl ⟨by omega, by simpa using hb'.2⟩
      · intro j m2 hj hm2
        by_cases e : j = k
        · subst e
          rw [Hl.out] at hm2
          cases hm2
          exact List.getElem?_set_self (by rw [hP.out]; exact hlt)
        · rw [List.getElem?_set_ne (Ne.symm e)]
          exact hf.out j m2 (by omega) hm2
    · have e : k = n := by omega
      subst e
      have e2 : Hid (P = ls) := by
        show _ = _
        apply List.ext_getElem?
        intro j
        rcases Nat.lt_or_ge j k with hj | hj
        · obtain ⟨m, hm⟩ := some_in (xs := ls) (k := j) (by rw [Hn.out]; exact hj)
          rw [hm]; exact hf.out j m hj hm
        · rw [List.getElem?_eq_none (by rw [hP.out]; exact hj), List.getElem?_eq_none (by rw [Hn.out]; exact hj)]
      go_wp2
      go_ret
      exact ⟨w.heap.size, vs, rfl, by have := M.out; rw [e2.out] at this; exact this, hK⟩
end Go.Proofs.Ytioffjgnfkjmkaa
namespace Go.Proofs.Ytioffjgnfkjmkaa
open Go.RowKit
attribute [local go_sem] Keeps.refl Keeps.alloc Keeps.drew Keeps.drewN

set_option maxRecDepth 100000 in
set_option maxHeartbeats 400000 in
theorem codeOfAsk_any (a : Option Addr) (cap : Nat) (ls : List Lk) (i no : Int) (w : World) (hl : sizeN ls ≤ 2097152) (hs : Lks true w a ls) (hb : locksB ls = true) :
    Calls Try.prog 70 #[.slice a ls.length cap, .int .i64 i, .int .i64 no] w fun e w' => e = .returned (.int .i64 (askN ls i no)) ∧ Keeps w w' := by
  have HL : Hid (sizeN ls ≤ 2097152) := hl
  have hl0 : ls.length ≤ 2097152 := by unfold sizeN at hl; omega
  clear hl
  have HS : Hid (Lks true w a ls) := hs
  clear hs
  have WA : Hid (∀ w', Keeps w w' → Calls Try.prog 38 #[.slice a ls.length cap, .int .i64 no] w' fun e w'' => e = .returned (.int .i64 (waitAt ls no)) ∧ Keeps w' w'') := fun w' h => implWaitAt_all a cap ls no w' HL.out (HS.out.keeps h)
  have CO : Hid (∀ x w', Keeps w w' → Calls Try.prog 37 #[.slice a ls.length cap, .int .i64 x] w' fun e w'' => ∃ v, e = .returned v ∧ OwnN w'' w'.heap.size v (chainL ls x) ∧ Keeps w' w'') := fun x w' h => implChainOf_all a cap ls x w' HL.out (HS.out.keeps h)
  generalize hn : ls.length = n at hl0
  have Hn : Hid (ls.length = n) := hn
  rw [hn] at WA CO
  clear hn
  have hn1 : n ≤ maxLen := by unfold maxLen; omega
  have HLo : Hid (∀ w', Calls Try.prog 76 #[.slice a n cap, .int .i64 i] w' fun e w'' => e = .returned (.bool (inB i 0 ((n : Int) - 1))) ∧ w'' = w') := fun w' => hasLock_any a cap n i w' hn1
  clear hn1
  have BAD : Hid (∀ (_ : (!inB i 0 ((n : Int) - 1) || (!inB no 1 1000 || decide (0 ≤ waitAt ls no))) = true), askN ls i no = 2) := by
    intro h
    unfold askN; rw [hb, Hn.out, h]; rfl
  cases c1 : inB i 0 ((n : Int) - 1)
  · have Hr : Hid (askN ls i no = 2) := BAD.out (by rw [c1]; rfl)
    rw [c1] at HLo
    go_enter Try.func70, Try.ntmps70
    go_wp2_with (go_at_call 76; refine (HLo.out _).mono ?_; rintro e w' ⟨rfl, hw'⟩; have hw2 := hw'.symm; subst hw2)
    go_ret
    exact ⟨by rw [Hr.out]; rfl, Keeps.refl _⟩
  rw [c1] at HLo
  cases c2 : inB no 1 1000
  · have Hr : Hid (askN ls i no = 2) := BAD.out (by rw [c2]; simp)
    go_enter Try.func70, Try.ntmps70
    go_wp2_with (first
      | (go_at_call 76; refine (HLo.out _).mono ?_; rintro e w' ⟨rfl, hw'⟩; have hw2 := hw'.symm; subst hw2)
      | (go_at_call 93; refine (isWithin_any _ _ _ _).mono ?_; rintro e w' ⟨rfl, hw'⟩; have hw2 := hw'.symm; subst hw2; rw [c2]))
    go_ret
    exact ⟨by rw [Hr.out]; rfl, Keeps.refl _⟩
  obtain ⟨wt, Hwt⟩ : ∃ x, Hid (waitAt ls no = x) := ⟨_, rfl⟩
  cases c3 : decide (0 ≤ waitAt ls no)
  rotate_left
  · have Hr : Hid (askN ls i no = 2) := BAD.out (by rw [c3]; simp)
    rw [Hwt.out] at WA c3
    have c3' : 0 ≤ wt := by simpa using c3
    go_enter Try.func70, Try.ntmps70
    go_wp2_with (first
      | (go_at_call 76; refine (HLo.out _).mono ?_; rintro e w' ⟨rfl, hw'⟩; have hw2 := hw'.symm; subst hw2)
      | (go_at_call 93; refine (isWithin_any _ _ _ _).mono ?_; rintro e w' ⟨rfl, hw'⟩; have hw2 := hw'.symm; subst hw2; rw [c2])
      | (go_at_call 38; refine (WA.out _ (Keeps.refl _)).mono ?_; rintro e w3 ⟨rfl, k3⟩))
    go_ret
    exact ⟨by rw [Hr.out]; rfl, k3⟩
  have Hwa : Hid (waitAt ls no = -1) := waitAt_ge c3
  rw [Hwa.out] at WA
  obtain ⟨h0, h1⟩ := inB_iff.1 c1
  obtain ⟨j, rfl⟩ : ∃ j : Nat, i = (j : Int) := ⟨i.toNat, by omega⟩
  have hj : j < n := by omega
  have hj' : (j : Int) < (n : Int) := by omega
  obtain ⟨l, hl1⟩ := some_in (xs := ls) (k := j) (by rw [Hn.out]; exact hj)
  obtain ⟨b, off, a', cap', rfl, r0, r1, -, -⟩ := HS.out.at hl1
  have Hl : Hid (ls[j]? = some l) := hl1
  have Ho : Hid (ownerAt ls (j : Int).toNat = l.owner) := by show _ = _; rw [Int.toNat_natCast]; exact ownerAt_of hl1
  have go : Hid (askN ls (j : Int) no = if l.owner == no then 3 else if l.owner == 0 then 0 else if hasB (chainL ls l.owner) no then 4 else 1) := by
    show _ = _
    unfold askN
    rw [hb, Hn.out, c1, c2, c3, Ho.out]
    rfl
  clear hl1 r1 BAD h0 h1 Hwt
  cases c4 : (l.owner == no)
  rotate_left
  · have Hr : Hid (askN ls (j : Int) no = 3) := by show _ = _; rw [go.out, c4]; rfl
    go_enter Try.func70, Try.ntmps70
    go_wp2_with (first
      | (go_at_call 76; refine (HLo.out _).mono ?_; rintro e w' ⟨rfl, hw'⟩; have hw2 := hw'.symm; subst hw2)
      | (go_at_call 93; refine (isWithin_any _ _ _ _).mono ?_; rintro e w' ⟨rfl, hw'⟩; have hw2 := hw'.symm; subst hw2; rw [c2])
      | (go_at_call 38; refine (WA.out _ (Keeps.refl _)).mono ?_; rintro e w3 ⟨rfl, k3⟩))
    go_ret
    exact ⟨by rw [Hr.out]; rfl, k3⟩
  cases c5 : (l.owner == 0)
  rotate_left
  · have Hr : Hid (askN ls (j : Int) no = 0) := by show _ = _; rw [go.out, c4, c5]; rfl
    go_enter Try.func70, Try.ntmps70
    go_wp2_with (first
      | (go_at_call 76; refine (HLo.out _).mono ?_; rintro e w' ⟨rfl, hw'⟩; have hw2 := hw'.symm; subst hw2)
      | (go_at_call 93; refine (isWithin_any _ _ _ _).mono ?_; rintro e w' ⟨rfl, hw'⟩; have hw2 := hw'.symm; subst hw2; rw [c2])
      | (go_at_call 38; refine (WA.out _ (Keeps.refl _)).mono ?_; rintro e w3 ⟨rfl, k3⟩))
    go_ret
    exact ⟨by rw [Hr.out]; rfl, k3⟩
  have HasC : Hid (∀ v w', OwnN w' w.heap.size v (chainL ls l.owner) → Calls Try.prog 100 #[v, .int .i64 no] w' fun e w'' => e = .returned (.bool (hasB (chainL ls l.owner) no)) ∧ Keeps w' w'') := fun v w' h => by
    obtain ⟨a4, c4', e4, N4, l4, l4'⟩ := OwnN.ns h
    rw [e4]
    exact sliceHas_any a4 c4' _ no w' (Nat.le_trans l4 l4') N4
  obtain ⟨g, Hg⟩ : ∃ g, Hid (hasB (chainL ls l.owner) no = g) := ⟨_, rfl⟩
  rw [Hg.out] at HasC go
  cases g
  · have Hr : Hid (askN ls (j : Int) no = 1) := by show _ = _; rw [go.out, c4, c5]; rfl
    go_enter Try.func70, Try.ntmps70
    go_wp2_with (first
      | (go_at_call 76; refine (HLo.out _).mono ?_; rintro e w' ⟨rfl, hw'⟩; have hw2 := hw'.symm; subst hw2)
      | (go_at_call 93; refine (isWithin_any _ _ _ _).mono ?_; rintro e w' ⟨rfl, hw'⟩; have hw2 := hw'.symm; subst hw2; rw [c2])
      | (go_at_call 38; refine (WA.out _ (Keeps.refl _)).mono ?_; rintro e w3 ⟨rfl, k3⟩)
      | (go_at_call 37; refine (CO.out _ _ k3).mono ?_; rintro e w4 ⟨v4, rfl, o4, k4⟩; have O4 : Hid (OwnN w4 w.heap.size v4 (chainL ls l.owner)) := o4.base k3.size; have kk4 : Keeps w w4 := k3.trans k4; clear o4)
      | (go_at_call 100; refine (HasC.out v4 _ O4.out).mono ?_; rintro e w5 ⟨rfl, k5⟩))
    go_ret
    exact ⟨by rw [Hr.out]; rfl, kk4.trans k5⟩
  · have Hr : Hid (askN ls (j : Int) no = 4) := by show _ = _; rw [go.out, c4, c5]; rfl
    go_enter Try.func70, Try.ntmps70
    go_wp2_with (first
      | (go_at_call 76; refine (HLo.out _).mono ?_; rintro e w' ⟨rfl, hw'⟩; have hw2 := hw'.symm; subst hw2)
      | (go_at_call 93; refine (isWithin_any _ _ _ _).mono ?_; rintro e w' ⟨rfl, hw'⟩; have hw2 := hw'.symm; subst hw2; rw [c2])
      | (go_at_call 38; refine (WA.out _ (Keeps.refl _)).mono ?_; rintro e w3 ⟨rfl, k3⟩)
      | (go_at_call 37; refine (CO.out _ _ k3).mono ?_; rintro e w4 ⟨v4, rfl, o4, k4⟩; have O4 : Hid (OwnN w4 w.heap.size v4 (chainL ls l.owner)) := o4.base k3.size; have kk4 : Keeps w w4 := k3.trans k4; clear o4)
      | (go_at_call 100; refine (HasC.out v4 _ O4.out).mono ?_; rintro e w5 ⟨rfl, k5⟩))
    go_ret
    exact ⟨by rw [Hr.out]; rfl, kk4.trans k5⟩

end Go.Proofs.Ytioffjgnfkjmkaa
namespace Go.Proofs.Ytioffjgnfkjmkaa
open Go.RowKit
attribute [local go_sem] Keeps.refl Keeps.alloc Keeps.drew Keeps.drewN

set_option maxRecDepth 100000 in
set_option maxHeartbeats 2000000 in
theorem implLockAsk_all (a : Option Addr) (cap : Nat) (ls : List Lk) (i no : Int) (w : World) (hl : sizeN ls ≤ 2097152) (hs : Lks true w a ls) :
    Calls Try.prog 27 #[.slice a ls.length cap, .int .i64 i, .int .i64 no] w fun e w' => ∃ v vs, e = .returned (.tuple #[v, .int .i64 (askN ls i no)]) ∧ Mine w' w.heap.size w'.heap.size v vs (askL ls i no) ∧ Keeps w w' := by
  have HL : Hid (sizeN ls ≤ 2097152) := hl
  have hl0 : ls.length ≤ 2097152 := by unfold sizeN at hl; omega
  clear hl
  have HS : Hid (Lks true w a ls) := hs
  clear hs
  have LO : Hid (∀ w', Keeps w w' → Calls Try.prog 34 #[.slice a ls.length cap] w' fun e w'' => e = .returned (.bool (locksB ls)) ∧ Keeps w' w'') := fun w' h => implLocksOk_all a cap ls w' HL.out (HS.out.keeps h)
  have CP : Hid (∀ w', Keeps w w' → Calls Try.prog 71 #[.slice a ls.length cap] w' fun e w'' => ∃ b vs, e = .returned (.slice (some ⟨b, 0, none⟩) ls.length ls.length) ∧ Mine w'' w'.heap.size w''.heap.size (.slice (some ⟨b, 0, none⟩) ls.length ls.length) vs ls ∧ Keeps w' w'') := fun w' h => copyLocks_any a cap ls w' HL.out (HS.out.keeps h)
  have CA : Hid (locksB ls = true → ∀ w', Keeps w w' → Calls Try.prog 70 #[.slice a ls.length cap, .int .i64 i, .int .i64 no] w' fun e w'' => e = .returned (.int .i64 (askN ls i no)) ∧ Keeps w' w'') := fun hb w' h => codeOfAsk_any a cap ls i no w' HL.out (HS.out.keeps h) hb
  generalize hn : ls.length = n at hl0
  have Hn : Hid (ls.length = n) := hn
  rw [hn] at LO CP CA
  clear hn
  cases hb : locksB ls
  · have Hr : Hid (askN ls i no = 2) := by show _ = _; unfold askN; rw [hb]; rfl
    have Hq : Hid (askL ls i no = []) := by show _ = _; unfold askL; rw [hb]; rfl
    rw [hb] at LO
    go_enter Try.func27, Try.ntmps27
    go_wp2_with (go_at_call 34; refine (LO.out _ (Keeps.refl _)).mono ?_; rintro e w1 ⟨rfl, k1⟩)
    go_ret2
    refine ⟨_, [], by rw [Hr.out]; rfl, ?_, k1⟩
    rw [Hq.out]
    exact Mine.none _ _ _ _ (World.ownsRow_nil _ _ _ _) (fun q hq => by simp [Value.ownBlock] at hq)
  have R := right_iff.1 hb
  have CA' : Hid (∀ w', Keeps w w' → Calls Try.prog 70 #[.slice a n cap, .int .i64 i, .int .i64 no] w' fun e w'' => e = .returned (.int .i64 (askN ls i no)) ∧ Keeps w' w'') := CA.out hb
  rw [hb] at LO
  clear CA
  rcases asked R i no with ⟨h, e⟩ | ⟨j, l, hi, hl, h0, hno, hn, h, e⟩ | ⟨j, l, hi, hl, hc, h, e⟩ | ⟨j, l, hi, hl, h0, h1, hno, hn, hc, h, e⟩
  · have He : Hid (askL ls i no = ls) := e
    clear e
    rcases h with h | h
    · rw [h] at CA' ⊢
      go_enter Try.func27, Try.ntmps27
      go_wp2_with (first
        | (go_at_call 34; refine (LO.out _ (Keeps.refl _)).mono ?_; rintro e w1 ⟨rfl, k1⟩)
        | (go_at_call 70; refine (CA'.out _ k1).mono ?_; rintro e w2 ⟨rfl, k2⟩; have K2 : Keeps w w2 := k1.trans k2)
        | (go_at_call 71; refine (CP.out _ K2).mono ?_; rintro e w3 ⟨b3, vs, rfl, m3, k3⟩; have M : Hid (Mine w3 w.heap.size w3.heap.size (.slice (some ⟨b3, 0, none⟩) n n) vs ls) := m3.widen K2.size (Nat.le_refl _); have K3 : Keeps w w3 := K2.trans k3; clear m3))
      go_ret2
      exact ⟨_, vs, rfl, by rw [He.out]; exact M.out, K3⟩
    · rw [h] at CA' ⊢
      go_enter Try.func27, Try.ntmps27
      go_wp2_with (first
        | (go_at_call 34; refine (LO.out _ (Keeps.refl _)).mono ?_; rintro e w1 ⟨rfl, k1⟩)
        | (go_at_call 70; refine (CA'.out _ k1).mono ?_; rintro e w2 ⟨rfl, k2⟩; have K2 : Keeps w w2 := k1.trans k2)
        | (go_at_call 71; refine (CP.out _ K2).mono ?_; rintro e w3 ⟨b3, vs, rfl, m3, k3⟩; have M : Hid (Mine w3 w.heap.size w3.heap.size (.slice (some ⟨b3, 0, none⟩) n n) vs ls) := m3.widen K2.size (Nat.le_refl _); have K3 : Keeps w w3 := K2.trans k3; clear m3))
      go_ret2
      exact ⟨_, vs, rfl, by rw [He.out]; exact M.out, K3⟩
  · have He : Hid (askL ls i no = ls.set j ⟨no, []⟩) := e
    have Hz : Hid ({ l with owner := no } = (⟨no, []⟩ : Lk)) := by show _ = _; rw [R.free j l hl h0]
    have Hl : Hid (ls[j]? = some l) := hl
    have hj : j < n := by have := lt_of_some hl; rwa [Hn.out] at this
    have hj' : (j : Int) < (n : Int) := by omega
    subst hi
    clear e hl R hn hno
    rw [h] at CA' ⊢
    go_enter Try.func27, Try.ntmps27
    go_wp2_with (first
      | (go_at_call 34; refine (LO.out _ (Keeps.refl _)).mono ?_; rintro e w1 ⟨rfl, k1⟩)
      | (go_at_call 70; refine (CA'.out _ k1).mono ?_; rintro e w2 ⟨rfl, k2⟩; have K2 : Keeps w w2 := k1.trans k2)
      | fail)
    refine (CP.out _ K2).mono ?_
    rintro e w3 ⟨b3, vs, rfl, m3, k3⟩
    have M : Hid (Mine w3 w.heap.size w3.heap.size (.slice (some ⟨b3, 0, none⟩) n n) vs ls) := m3.widen K2.size (Nat.le_refl _)
    have K3 : Keeps w w3 := K2.trans k3
    clear m3
    have Hvn : Hid (vs.length = n) := M.out.len.trans Hn.out
    obtain ⟨x, hx⟩ := some_in (xs := vs) (k := j) (by rw [Hvn.out]; exact hj)
    have Hx : Hid (vs[j]? = some x) := hx
    have O0 : Own 58 2 lvc w3 w.heap.size (.slice (some ⟨b3, 0, none⟩) vs.length n) vs := by rw [Hvn.out]; exact M.out.own
    have bl0 : Hid (w.heap.size ≤ b3) := (O0.ltb b3 rfl).1
    have s0 : w3.cell? ⟨b3, j * 2, none⟩ = some (.int .i64 x.o) := O0.cellAt lvc_size (k := 0) hx (by omega)
    have s2 : ∀ o, w3.frozen? ⟨b3, o, none⟩ = false := fun o => O0.frozenAt o
    clear O0 hx
    go_wp2
    go_ret2
    refine ⟨_, vs.set j { x with o := no }, rfl, ?_, K3.setCell (p := ⟨b3, j * 2, none⟩) bl0.out _⟩
    rw [He.out]
    have m : Mine w3 w.heap.size w3.heap.size (.slice (some ⟨b3, 0, none⟩) vs.length n) vs ls := by rw [Hvn.out]; exact M.out
    have := m.setOwner Hx.out Hl.out no
    rw [List.length_set, Hvn.out, Hz.out] at this
    simpa using this
  · have He : Hid (askL ls i no = ls) := e
    clear e hi hl hc
    rw [h] at CA' ⊢
    go_enter Try.func27, Try.ntmps27
    go_wp2_with (first
      | (go_at_call 34; refine (LO.out _ (Keeps.refl _)).mono ?_; rintro e w1 ⟨rfl, k1⟩)
      | (go_at_call 70; refine (CA'.out _ k1).mono ?_; rintro e w2 ⟨rfl, k2⟩; have K2 : Keeps w w2 := k1.trans k2)
      | (go_at_call 71; refine (CP.out _ K2).mono ?_; rintro e w3 ⟨b3, vs, rfl, m3, k3⟩; have M : Hid (Mine w3 w.heap.size w3.heap.size (.slice (some ⟨b3, 0, none⟩) n n) vs ls) := m3.widen K2.size (Nat.le_refl _); have K3 : Keeps w w3 := K2.trans k3; clear m3))
    go_ret2
    exact ⟨_, vs, rfl, by rw [He.out]; exact M.out, K3⟩
  · have Hr2 : Hid (askL ls i no = ls.set j { l with waits := l.waits ++ [no] }) := e
    have Hl : Hid (ls[j]? = some l) := hl
    have hj : j < n := by have := lt_of_some hl; rwa [Hn.out] at this
    have hj' : (j : Int) < (n : Int) := by omega
    have hw1 : Hid (l.waits.length ≤ 2097152) := by show _ ≤ _; have := sumW_mem hl; have := HL.out; unfold sizeN at this; omega
    subst hi
    clear e hl R hn hno
    rw [h] at CA' ⊢
    go_enter Try.func27, Try.ntmps27
    go_wp2_with (first
      | (go_at_call 34; refine (LO.out _ (Keeps.refl _)).mono ?_; rintro e w1 ⟨rfl, k1⟩)
      | (go_at_call 70; refine (CA'.out _ k1).mono ?_; rintro e w2 ⟨rfl, k2⟩; have K2 : Keeps w w2 := k1.trans k2)
      | fail)
    refine (CP.out _ K2).mono ?_
    rintro e w3 ⟨b3, vs, rfl, m3, k3⟩
    have M : Hid (Mine w3 w.heap.size w3.heap.size (.slice (some ⟨b3, 0, none⟩) n n) vs ls) := m3.widen K2.size (Nat.le_refl _)
    have K3 : Keeps w w3 := K2.trans k3
    clear m3
    have Hvn : Hid (vs.length = n) := M.out.len.trans Hn.out
    obtain ⟨x, hx⟩ := some_in (xs := vs) (k := j) (by rw [Hvn.out]; exact hj)
    have Hx : Hid (vs[j]? = some x) := hx
    have O0 : Own 58 2 lvc w3 w.heap.size (.slice (some ⟨b3, 0, none⟩) vs.length n) vs := by rw [Hvn.out]; exact M.out.own
    have bl : Hid (b3 < w3.heap.size) := (O0.ltb b3 rfl).2
    have bl0 : Hid (w.heap.size ≤ b3) := (O0.ltb b3 rfl).1
    have s0 : w3.cell? ⟨b3, j * 2, none⟩ = some (.int .i64 x.o) := O0.cellAt lvc_size (k := 0) hx (by omega)
    have s1 : w3.cell? ⟨b3, j * 2 + 1, none⟩ = some x.row := O0.cellAt lvc_size (k := 1) hx (by omega)
    have s2 : ∀ o, w3.frozen? ⟨b3, o, none⟩ = false := fun o => O0.frozenAt o
    have X1 := (M.out.rows j x l hx Hl.out)
    have OX : Hid (∀ w', Keeps w3 w' → OwnN w' w.heap.size x.row l.waits) := fun w' h => X1.2.keeps h
    have Xb : Hid (∀ q, x.row.ownBlock = some q → q < w3.heap.size ∧ q ≠ b3) := fun q hq => ⟨(X1.2.ltb q hq).2, fun e => (M.out.inn j x q hx hq).2 (by rw [e]; rfl)⟩
    have Xo : Hid (x.o = l.owner) := X1.1
    clear X1 O0 hx
    obtain ⟨xo, xa, xn, xc⟩ := x
    dsimp only at s0 s1
    go_wp2_with (at_builtin; (refine wpList_pushF rfl _ _ 56 rfl w.heap.size 3 (.int .i64 0) 1 8 ic Try.underlying56 (by kernel_rfl) rfl (by decide) ic_size ic_one _ l.waits rfl (OX.out _ ((Keeps.refl _).alloc _)) (by have := K3.size; simp; omega) no _ 1 (Blk.new _ _ _) rfl ?c1 ?c2 ?_))
    case c1 => have := hw1.out; unfold maxLen; omega
    case c2 => have := hw1.out; omega
    intro v6 w6 o6 g6 f6
    obtain ⟨a6, c7, e6, -, -, -⟩ := OwnN.ns o6
    obtain ⟨m6, Hm6⟩ : ∃ m, Hid ((l.waits ++ [no]).length = m) := ⟨_, rfl⟩
    rw [Hm6.out] at e6
    subst e6
    have O6 : Hid (OwnN w6 w.heap.size (.slice a6 m6 c7) (l.waits ++ [no])) := o6
    have key : Hid (∀ q, q < w3.heap.size → (Value.slice xa xn xc).ownBlock ≠ some q → w6.heap[q]? = w3.heap[q]?) := fun q hq hne => (g6.block q (by simp; omega) (fun e => hne e.symm)).trans (Below.block ((Keeps.refl w3).alloc _) q hq)
    have h36 : w6.heap[b3]? = w3.heap[b3]? := key.out b3 bl.out (fun e => (Xb.out b3 e).2 rfl)
    have s3 : w6.cell? ⟨b3, j * 2 + 1, none⟩ = some (.slice xa xn xc) := (World.cell?_of_block (w := w3) h36).trans s1
    have s4 : ∀ o, w6.frozen? ⟨b3, o, none⟩ = false := fun o => (World.frozen?_of_block (w := w3) h36).trans (s2 o)
    have sz6 : Hid (w3.heap.size + 1 ≤ w6.heap.size) := by have := g6.size; simp at this; exact this
    have f6' : Hid (∀ q, (Value.slice a6 m6 c7).ownBlock = some q → (Value.slice xa xn xc).ownBlock = some q ∨ q = w3.heap.size + 1) := fun q hq => by have := f6 q hq; simpa using this
    have kk6 : Hid (Keeps w w6) := Keeps.grown (K3.alloc _) g6 (fun q hq => ((OX.out _ (Keeps.refl _)).ltb q hq).1)
    clear o6 g6 f6 s0 s1 s2
    go_wp2
    go_ret2
    refine ⟨_, vs.set j ⟨xo, a6, m6, c7⟩, rfl, ?_, kk6.out.setCell (p := ⟨b3, j * 2 + 1, none⟩) bl0.out _⟩
    rw [Hr2.out]
    have ow6 : Own 58 2 lvc w6 w.heap.size (.slice (some ⟨b3, 0, none⟩) n n) vs := M.out.own.same fun q hq => by
      have : q = b3 := by simp [Value.ownBlock] at hq; exact hq.symm
      rw [this]; exact h36
    refine M.out.swap (x := ⟨xo, xa, xn, xc⟩) (y := ⟨xo, a6, m6, c7⟩) Hx.out (ow6.setAt lvc_size (i := j) (j := 1) (x := ⟨xo, xa, xn, xc⟩) (y := ⟨xo, a6, m6, c7⟩) (u := .slice a6 m6 c7) Hx.out (by omega) rfl) (fun q h1 h2 h3 => ?_) Xo.out ?_ (by have := sz6.out; simp; omega) (fun q hq => ?_)
    · have : q ≠ b3 := fun e => h1 (by rw [e]; rfl)
      rw [heap_setCell this]
      exact key.out q h3 h2
    · refine Own.same O6.out fun q hq => heap_setCell ?_
      rcases f6'.out q hq with h | h
      · exact (Xb.out q h).2
      · have := bl.out; omega
    · rcases f6'.out q hq with h | h
      · exact .inr h
      · have := sz6.out
        have := O6.out.ltb q hq
        exact .inl ⟨by omega, by simp; omega⟩

theorem freeB_of {ls : List Lk} {j : Nat} {l : Lk} (hb : locksB ls = true) (hl : ls[j]? = some l) (no next : Int) : freeB ls (j : Int) no next = passB l no next := by
  unfold freeB passB
  have h1 : inB (j : Int) 0 ((ls.length : Int) - 1) = true := inB_yes (by omega) (by have := lt_of_some hl; omega)
  rw [hb, h1, Int.toNat_natCast, ownerAt_of hl]
  simp [waitsAt, hl]
set_option maxRecDepth 100000 in
set_option maxHeartbeats 4000000 in
theorem implLockFree_all (a : Option Addr) (cap : Nat) (ls : List Lk) (i no next : Int) (w : World) (hl : sizeN ls ≤ 2097152) (hs : Lks true w a ls) :
    Calls Try.prog 32 #[.slice a ls.length cap, .int .i64 i, .int .i64 no, .int .i64 next] w fun e w' => ∃ v vs, e = .returned (.tuple #[v, .bool (freeB ls i no next)]) ∧ Mine w' w.heap.size w'.heap.size v vs (freeL ls i no next) ∧ Keeps w w' := by
  have HL : Hid (sizeN ls ≤ 2097152) := hl
  have hl0 : ls.length ≤ 2097152 := by unfold sizeN at hl; omega
  clear hl
  have HS : Hid (Lks true w a ls) := hs
  clear hs
  have LO : Hid (∀ w', Keeps w w' → Calls Try.prog 34 #[.slice a ls.length cap] w' fun e w'' => e = .returned (.bool (locksB ls)) ∧ Keeps w' w'') := fun w' h => implLocksOk_all a cap ls w' HL.out (HS.out.keeps h)
  have CP : Hid (∀ w', Keeps w w' → Calls Try.prog 71 #[.slice a ls.length cap] w' fun e w'' => ∃ b vs, e = .returned (.slice (some ⟨b, 0, none⟩) ls.length ls.length) ∧ Mine w'' w'.heap.size w''.heap.size (.slice (some ⟨b, 0, none⟩) ls.length ls.length) vs ls ∧ Keeps w' w'') := fun w' h => copyLocks_any a cap ls w' HL.out (HS.out.keeps h)
  have PL : Hid (∀ w', Keeps w w' → Calls Try.prog 78 #[.slice a ls.length cap] w' fun e w'' => e = .returned (.map (some w'.heap.size)) ∧ MapI w'' w'.heap.size (placesL ls) ∧ Keeps w' w'') := fun w' k => places_any a cap ls w' HL.out (HS.out.keeps k)
  generalize hn : ls.length = n at hl0
  have Hn : Hid (ls.length = n) := hn
  rw [hn] at LO CP PL
  clear hn
  have hn1 : n ≤ maxLen := by unfold maxLen; omega
  have HLo : Hid (∀ w', Calls Try.prog 76 #[.slice a n cap, .int .i64 i] w' fun e w'' => e = .returned (.bool (inB i 0 ((n : Int) - 1))) ∧ w'' = w') := fun w' => hasLock_any a cap n i w' hn1
  clear hn1
  cases hb : locksB ls
  · have Hr : Hid (freeB ls i no next = false) := by show _ = _; unfold freeB; rw [hb]; rfl
    have Hq : Hid (freeL ls i no next = []) := by show _ = _; unfold freeL; rw [hb]; rfl
    rw [hb] at LO
    go_enter Try.func32, Try.ntmps32
    go_wp2_with (go_at_call 34; refine (LO.out _ (Keeps.refl _)).mono ?_; rintro e w1 ⟨rfl, k1⟩)
    go_ret2
    refine ⟨_, [], by rw [Hr.out]; rfl, ?_, k1⟩
    rw [Hq.out]
    exact Mine.none _ _ _ _ (World.ownsRow_nil _ _ _ _) (fun q hq => by simp [Value.ownBlock] at hq)
  rw [hb] at LO
  have BAD : Hid (∀ (_ : freeB ls i no next = false), freeL ls i no next = ls) := by
    intro h
    unfold freeL
    rw [hb, h]; rfl
  cases c1 : inB i 0 ((n : Int) - 1)
  · have Hr : Hid (freeB ls i no next = false) := by show _ = _; unfold freeB; rw [hb, Hn.out, c1]; rfl
    have Hq : Hid (freeL ls i no next = ls) := BAD.out Hr.out
    rw [c1] at HLo
    go_enter Try.func32, Try.ntmps32
    go_wp2_with (first
      | (go_at_call 34; refine (LO.out _ (Keeps.refl _)).mono ?_; rintro e w1 ⟨rfl, k1⟩)
      | (go_at_call 71; refine (CP.out _ k1).mono ?_; rintro e w2 ⟨b3, vs, rfl, m2, k2⟩; have M : Hid (Mine w2 w.heap.size w2.heap.size (.slice (some ⟨b3, 0, none⟩) n n) vs ls) := m2.widen k1.size (Nat.le_refl _); have K2 : Keeps w w2 := k1.trans k2; clear m2)
      | (go_at_call 76; refine (HLo.out _).mono ?_; rintro e w' ⟨rfl, hw'⟩; have hw2 := hw'.symm; subst hw2))
    go_ret2
    exact ⟨_, vs, by rw [Hr.out]; rfl, by rw [Hq.out]; exact M.out, K2⟩
  rw [c1] at HLo
  obtain ⟨h0, h1⟩ := inB_iff.1 c1
  obtain ⟨j, rfl⟩ : ∃ j : Nat, i = (j : Int) := ⟨i.toNat, by omega⟩
  have hj : j < n := by omega
  have hj' : (j : Int) < (n : Int) := by omega
  obtain ⟨l, hl1⟩ := some_in (xs := ls) (k := j) (by rw [Hn.out]; exact hj)
  obtain ⟨b, off, a', cap', rfl, r0, r1, hle, hns⟩ := HS.out.at hl1
  have Hl : Hid (ls[j]? = some l) := hl1
  have N1 : Hid (Ns w a' l.waits) := hns
  have Hle : Hid (l.waits.length ≤ maxLen) := hle
  have hw1 : Hid (l.waits.length ≤ 2097152) := by show _ ≤ _; have := sumW_mem Hl.out; have := HL.out; unfold sizeN at this; omega
  have HF : Hid (freeB ls (j : Int) no next = passB l no next) := freeB_of hb hl1 no next
  clear hl1 hns hle h0 h1
  obtain ⟨m, Hm⟩ : ∃ m : Nat, Hid (l.waits.length = m) := ⟨_, rfl⟩
  rw [Hm.out] at r1
  obtain ⟨g, Hg⟩ : ∃ g, Hid (passB l no next = g) := ⟨_, rfl⟩
  have CN : Hid (∀ w', Keeps w w' → Calls Try.prog 77 #[.agg #[.int .i64 l.owner, .slice a' m cap'], .int .i64 no, .int .i64 next] w' fun e w'' => e = .returned (.bool g) ∧ Keeps w' w'') := fun w' k => by
    have := canPass_any l.owner a' cap' l.waits no next w' Hle.out (N1.out.keeps k)
    rwa [Hm.out, show (⟨l.owner, l.waits⟩ : Lk) = l from rfl, Hg.out] at this
  cases g
  · have Hr : Hid (freeB ls (j : Int) no next = false) := HF.out.trans Hg.out
    have Hq : Hid (freeL ls (j : Int) no next = ls) := BAD.out Hr.out
    go_enter Try.func32, Try.ntmps32
    go_wp2_with (first
      | (go_at_call 34; refine (LO.out _ (Keeps.refl _)).mono ?_; rintro e w1 ⟨rfl, k1⟩)
      | (go_at_call 71; refine (CP.out _ k1).mono ?_; rintro e w2 ⟨b3, vs, rfl, m2, k2⟩; have M : Hid (Mine w2 w.heap.size w2.heap.size (.slice (some ⟨b3, 0, none⟩) n n) vs ls) := m2.widen k1.size (Nat.le_refl _); have K2 : Keeps w w2 := k1.trans k2; clear m2)
      | (go_at_call 76; refine (HLo.out _).mono ?_; rintro e w' ⟨rfl, hw'⟩; have hw2 := hw'.symm; subst hw2)
      | (go_at_call 77; refine (CN.out _ K2).mono ?_; rintro e w3 ⟨rfl, k3⟩))
    go_ret2
    exact ⟨_, vs, by rw [Hr.out]; rfl, by rw [Hq.out]; exact (M.out.keeps k3).widen (Nat.le_refl _) k3.size, K2.trans k3⟩
  have Hr : Hid (freeB ls (j : Int) no next = true) := HF.out.trans Hg.out
  have Hq : Hid (freeL ls (j : Int) no next = ls.set j ⟨next, lessL l.waits next⟩) := by show _ = _; unfold freeL; rw [hb, Hr.out, Int.toNat_natCast, modify_set Hl.out (freed next)]; rfl
  have Hst : Hid (l.waits.filter (fun y => hasM (delM (placesL ls) next) y) = lessL l.waits next) := still_less Hl.out next
  have ST : Hid (∀ B w', Keeps w w' → MapI w' B (delM (placesL ls) next) → Calls Try.prog 79 #[.map (some B), .agg #[.int .i64 l.owner, .slice a' m cap']] w' fun e w'' => ∃ a4 m4 c4, e = .returned (.slice a4 m4 c4) ∧ OwnN w'' w'.heap.size (.slice a4 m4 c4) (lessL l.waits next) ∧ Keeps w' w'') := fun B w' k mm => by
    have := still_any B (delM (placesL ls) next) l.owner a' cap' l.waits w' hw1.out (N1.out.keeps k) mm
    rw [Hm.out, Hst.out] at this
    refine this.mono ?_
    rintro e w'' ⟨v, rfl, o, k'⟩
    obtain ⟨a4, c4, e4, -, -, -⟩ := OwnN.ns o
    subst e4
    exact ⟨_, _, _, rfl, o, k'⟩
  clear HF BAD Hst
  go_enter Try.func32, Try.ntmps32
  go_wp2_with (first
    | (go_at_call 34; refine (LO.out _ (Keeps.refl _)).mono ?_; rintro e w1 ⟨rfl, k1⟩)
    | (go_at_call 71; fail)
    | fail)
  refine (CP.out _ k1).mono ?_
  rintro e w2 ⟨b3, vs, rfl, m2, k2⟩
  have M : Hid (Mine w2 w.heap.size w2.heap.size (.slice (some ⟨b3, 0, none⟩) n n) vs ls) := m2.widen k1.size (Nat.le_refl _)
  have K2 : Keeps w w2 := k1.trans k2
  clear m2
  have Hvn : Hid (vs.length = n) := M.out.len.trans Hn.out
  obtain ⟨x, hx⟩ := some_in (xs := vs) (k := j) (by rw [Hvn.out]; exact hj)
  have Hx : Hid (vs[j]? = some x) := hx
  have O0 : Own 58 2 lvc w2 w.heap.size (.slice (some ⟨b3, 0, none⟩) vs.length n) vs := by rw [Hvn.out]; exact M.out.own
  have bl : Hid (b3 < w2.heap.size) := (O0.ltb b3 rfl).2
  have bl0 : Hid (w.heap.size ≤ b3) := (O0.ltb b3 rfl).1
  have s0 : ∀ w', Keeps w2 w' → w'.cell? ⟨b3, j * 2, none⟩ = some (.int .i64 x.o) := Keeps.has (O0.cellAt lvc_size (k := 0) hx (by omega))
  have s1 : ∀ w', Keeps w2 w' → w'.cell? ⟨b3, j * 2 + 1, none⟩ = some x.row := Keeps.has (O0.cellAt lvc_size (k := 1) hx (by omega))
  have s2 : ∀ w', Keeps w2 w' → ∀ o, w'.frozen? ⟨b3, o, none⟩ = false := fun w' h o => (h.frozens _ _ bl.out).trans (O0.frozenAt o)
  clear O0 hx
  obtain ⟨xo, xa, xn, xc⟩ := x
  dsimp only at s0 s1
  go_wp2_with (first
    | (go_at_call 76; refine (HLo.out _).mono ?_; rintro e w' ⟨rfl, hw'⟩; have hw2 := hw'.symm; subst hw2)
    | (go_at_call 77; refine (CN.out _ K2).mono ?_; rintro e w3 ⟨rfl, k3⟩; have K3 : Keeps w w3 := K2.trans k3)
    | (go_at_call 78; refine (PL.out _ K3).mono ?_; rintro e w4 ⟨rfl, m4, k4⟩; have M4 : Hid (MapI w4 w3.heap.size (placesL ls)) := m4; clear m4)
    | (at_delete; refine wpList_delI rfl _ _ 107 3 rfl 3 Try.underlying107 Try.underlying3 w3.heap.size (placesL ls) rfl M4.out next rfl ?_; intro w5 m5 g5; have M5 : Hid (MapI w5 w3.heap.size (delM (placesL ls) next)) := m5; have k25 : Keeps w2 w5 := (k3.trans k4).grown g5 (by rintro q ⟨⟩; exact k3.size); have K5 : Keeps w w5 := K2.trans k25; clear m5 g5)
    | (go_at_call 79; refine (ST.out _ _ K5 M5.out).mono ?_; rintro e w6 ⟨a4, m4, c4, rfl, o6, k6⟩; have O6 : Hid (OwnN w6 w5.heap.size (.slice a4 m4 c4) (lessL l.waits next)) := o6; have k26 : Keeps w2 w6 := k25.trans k6; have K6 : Keeps w w6 := K5.trans k6; clear o6))
  go_ret2
  refine ⟨_, vs.set j ⟨next, a4, m4, c4⟩, by rw [Hr.out]; rfl, ?_, (K6.setCell (p := ⟨b3, j * 2, none⟩) bl0.out _).setCell (p := ⟨b3, j * 2 + 1, none⟩) bl0.out _⟩
  rw [Hq.out]
  have m4' : Mine w6 w.heap.size w5.heap.size (.slice (some ⟨b3, 0, none⟩) n n) vs ls := (M.out.keeps k26).widen (Nat.le_refl _) k25.size
  have hb4 : ∀ q, (Value.slice a4 m4 c4).ownBlock = some q → w5.heap.size ≤ q ∧ q < w6.heap.size := fun q hq => O6.out.ltb q hq
  have hn4 : ∀ q, (Value.slice a4 m4 c4).ownBlock = some q → q ≠ b3 := fun q hq => by have := (hb4 q hq).1; have := bl.out; have := k25.size; omega
  refine m4'.swap (x := ⟨xo, xa, xn, xc⟩) (y := ⟨next, a4, m4, c4⟩) Hx.out (m4'.own.setTwo Hx.out ⟨next, a4, m4, c4⟩) (fun q h1 h2 h3 => ?_) rfl ?_ (by have := k6.size; simp; omega) (fun q hq => .inl ⟨(hb4 q hq).1, by have := (hb4 q hq).2; simp; omega⟩)
  · have : q ≠ b3 := fun e => h1 (by rw [e]; rfl)
    rw [heap_setCell this, heap_setCell this]
  · refine Own.same (Own.base O6.out K5.size) fun q hq => ?_
    rw [heap_setCell (hn4 q hq), heap_setCell (hn4 q hq)]

theorem implLockAsk_says : SaysLockAsk := fun a cap ls i no w hl _ hs => implLockAsk_all a cap ls i no w hl hs
theorem implLockFree_says : SaysLockFree := fun a cap ls i no next w hl _ hs => implLockFree_all a cap ls i no next w hl hs
end Go.Proofs.Ytioffjgnfkjmkaa
