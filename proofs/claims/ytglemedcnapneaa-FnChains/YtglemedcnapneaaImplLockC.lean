/-
  The program's locks: copies of them, and what may be passed on.
-/
import Derived.Test.YtglemedcnapneaaImplLockB
import Derived.Test.YtglemedcnapneaaCopyAny
import Derived.Test.YtglemedcnapneaaLockFree
import Derived.Deep.Cut
namespace Go.Proofs.Ytglemedcnapneaa
open Go.RowKit
attribute [local go_sem] Keeps.refl Keeps.alloc Keeps.drew Keeps.drewN

set_option maxRecDepth 100000 in
theorem hasLock_any (a : Option Addr) (cap n : Nat) (i : Int) (w : World) (hl : n ≤ maxLen) :
    Calls Try.prog 58 #[.slice a n cap, .int .i64 i] w fun e w' => e = .returned (.bool (inB i 0 ((n : Int) - 1))) ∧ w' = w := by
  unfold maxLen at hl
  have ewrap : IntKind.i64.wrap ((n : Int) - 1) = (n : Int) - 1 := Go.IntWalk.i64_in _ (by omega)
  obtain ⟨q, Hq⟩ : ∃ q, Hid (inB i 0 ((n : Int) - 1) = q) := ⟨_, rfl⟩
  rw [Hq.out]
  go_enter Try.func58, Try.ntmps58
  go_wp2_with (go_at_call 68; refine (isWithin_any _ _ _ _).mono ?_; rintro e w' ⟨rfl, hw'⟩; have hw2 := hw'.symm; subst hw2; rw [Hq.out])
  go_ret
  exact ⟨rfl, rfl⟩

/-- Whether one may hand its lock on to another. -/
def passB (l : Lk) (no next : Int) : Bool := !(no == 0) && (l.owner == no && mayNext l.waits next)
set_option maxRecDepth 100000 in
set_option maxHeartbeats 1000000 in
theorem canPass_any (o : Int) (a : Option Addr) (cap : Nat) (xs : List Int) (no next : Int) (w : World) (hl : xs.length ≤ maxLen) (hs : Ns w a xs) :
    Calls Try.prog 59 #[.agg #[.int .i64 o, .slice a xs.length cap], .int .i64 no, .int .i64 next] w fun e w' => e = .returned (.bool (passB ⟨o, xs⟩ no next)) ∧ Keeps w w' := by
  have E1 : Hid (∀ w', Keeps w w' → Calls Try.prog 69 #[.slice a xs.length cap, .int .i64 next] w' fun e w'' => e = .returned (.bool (hasB xs next)) ∧ Keeps w' w'') := fun w' k => sliceHas_any a cap xs next w' hl (hs.keeps k)
  have HP : Hid (passB ⟨o, xs⟩ no next = (!(no == 0) && (o == no && (if xs.length == 0 then next == 0 else hasB xs next)))) := rfl
  unfold maxLen at hl
  clear hs
  generalize hn : xs.length = n at *
  clear hn
  obtain ⟨g, Hg⟩ : ∃ g, Hid (hasB xs next = g) := ⟨_, rfl⟩
  rw [Hg.out] at E1 HP
  have sy : (o == no) = !(no != o) := by simp only [bne, Bool.not_not]; exact Bool.beq_comm
  rw [sy] at HP
  cases c1 : (no == 0)
  rotate_left
  · have Hr : Hid (passB ⟨o, xs⟩ no next = false) := by show _ = _; rw [HP.out, c1]; rfl
    go_enter Try.func59, Try.ntmps59
    go_wp2
    go_ret
    exact ⟨by rw [Hr.out]; rfl, (Keeps.refl _).alloc _⟩
  cases c2 : (no != o)
  rotate_left
  · have Hr : Hid (passB ⟨o, xs⟩ no next = false) := by show _ = _; rw [HP.out, c1, c2]; rfl
    go_enter Try.func59, Try.ntmps59
    go_wp2
    go_ret
    exact ⟨by rw [Hr.out]; rfl, (Keeps.refl _).alloc _⟩
  cases c3 : ((n : Int) == 0)
  · have c3' : (n == 0) = false := by simp at c3 ⊢; omega
    have Hr : Hid (passB ⟨o, xs⟩ no next = g) := by show _ = _; rw [HP.out, c1, c2, c3']; rfl
    go_enter Try.func59, Try.ntmps59
    go_wp2_with (go_at_call 69; refine (E1.out _ ((Keeps.refl _).alloc _)).mono ?_; rintro e w1 ⟨rfl, k1⟩)
    go_ret
    exact ⟨by rw [Hr.out]; rfl, ((Keeps.refl _).alloc _).trans k1⟩
  · have c3' : (n == 0) = true := by simp at c3 ⊢; omega
    have Hr : Hid (passB ⟨o, xs⟩ no next = (next == 0)) := by show _ = _; rw [HP.out, c1, c2, c3']; rfl
    go_enter Try.func59, Try.ntmps59
    go_wp2
    go_ret
    exact ⟨by rw [Hr.out]; rfl, (Keeps.refl _).alloc _⟩

theorem filter_take {f : Int → Bool} {xs : List Int} {k : Nat} {y : Int} (h : xs[k]? = some y) : (xs.take (k + 1)).filter f = (xs.take k).filter f ++ (if f y then [y] else []) := by
  rw [List.take_add_one, h, List.filter_append]
  congr 1
  cases hx : f y <;> simp [hx]
set_option maxRecDepth 100000 in
set_option maxHeartbeats 2000000 in
theorem still_any (B : Nat) (E : List (Int × Int)) (o : Int) (a : Option Addr) (cap : Nat) (xs : List Int) (w : World) (hl : xs.length ≤ 2097152) (hs : Ns w a xs) (hm : MapI w B E) :
    Calls Try.prog 60 #[.map (some B), .agg #[.int .i64 o, .slice a xs.length cap]] w fun e w' => ∃ v, e = .returned v ∧ OwnN w' w.heap.size v (xs.filter fun y => hasM E y) ∧ Keeps w w' := by
  generalize hn : xs.length = n at hl
  have Hn : Hid (xs.length = n) := hn
  clear hn
  have HS : Hid (Ns w a xs) := hs
  have HM : Hid (MapI w B E) := hm
  clear hs hm
  go_enter Try.func60, Try.ntmps60
  go_wp2
  have kz : Hid (Keeps w (w.alloc (.cells #[.int .i64 o, .slice a n cap] 47))) := (Keeps.refl _).alloc _
  generalize w.alloc (.cells #[.int .i64 o, .slice a n cap] 47) = W at *
  go_loopw [5, 13] (fun v i wr => ∃ (k : Nat) (ys : List Int), k ≤ n ∧ i = .int .i64 k ∧ ys.length ≤ k ∧ Hid (OwnN wr w.heap.size v ys) ∧ Keeps w wr ∧ Hid ((xs.take k).filter (fun y => hasM E y) = ys)) (fun _ i _ => n - (intOf i).toNat)
  case atStart => exact ⟨0, [], Nat.zero_le _, rfl, by simp, World.ownsRow_nil _ _ _ _, kz.out, by show _ = _; simp⟩
  case round =>
    obtain ⟨k, ys, hk, rfl, hy, own, hK, HI⟩ := hrel
    clear kz
    by_cases hlt : k < n
    · obtain ⟨y, hy1⟩ := some_in (xs := xs) (k := k) (by rw [Hn.out]; exact hlt)
      obtain ⟨b, off, rfl, r0⟩ := HS.out.at hy1
      have hlt' : (k : Int) < (n : Int) := by omega
      have Hy : Hid (xs[k]? = some y) := hy1
      clear hy1
      have MM : Hid (MapI wr B E) := HM.out.keeps hK
      obtain ⟨v0, Hv⟩ : ∃ v, Hid (valM E y = v) := ⟨_, rfl⟩
      cases hq : hasM E y
      · have HQ : Hid (hasM E y = false) := hq
        clear hq
        go_wp2_with (at_lookup; refine wpList_lookI rfl _ _ 59 rfl 3 3 Try.underlying59 Try.underlying3 (zeroI _) B E rfl MM.out y rfl v0 false Hv.out HQ.out ?_)
        refine ⟨⟨k + 1, ys, by omega, by go_num, by omega, own, hK, ?_⟩, by simp only [intOf]; omega⟩
        show _ = _
        rw [filter_take Hy.out, HI.out, HQ.out]
        simp
      · have HQ : Hid (hasM E y = true) := hq
        clear hq
        go_wp2_with (first
          | (at_lookup; refine wpList_lookI rfl _ _ 59 rfl 3 3 Try.underlying59 Try.underlying3 (zeroI _) B E rfl MM.out y rfl v0 true Hv.out HQ.out ?_)
          | (at_builtin; (refine wpList_push rfl _ _ 31 rfl w 3 (.int .i64 0) 1 8 ic Try.underlying31 (by kernel_rfl) rfl (by decide) ic_size ic_one _ ys rfl wr own.out hK ((Keeps.refl _).alloc _) y _ 1 (Blk.new _ _ _) rfl ?c1 ?c2 ?_)))
        case c1 => unfold maxLen; omega
        case c2 => omega
        intro v' w5 own5 k5 _
        have HO : Hid (OwnN w5 w.heap.size v' (ys ++ [y])) := own5
        clear own5 own
        go_wp2
        refine ⟨⟨k + 1, ys ++ [y], by omega, by go_num, by simp; omega, HO, k5, ?_⟩, by simp only [intOf]; omega⟩
        show _ = _
        rw [filter_take Hy.out, HI.out, HQ.out]
        rfl
    · have e : k = n := by omega
      subst e
      have HR : Hid (xs.filter (fun y => hasM E y) = ys) := by show _ = _; rw [← HI.out, ← Hn.out, List.take_length]
      go_wp2
      go_ret
      exact ⟨_, rfl, by rw [HR.out]; exact own.out, hK⟩

set_option maxRecDepth 100000 in
set_option maxHeartbeats 1000000 in
theorem copyWaits_any (a : Option Addr) (cap : Nat) (xs : List Int) (w : World) (hl : xs.length ≤ 2097152) (hs : Ns w a xs) :
    Calls Try.prog 70 #[.slice a xs.length cap] w fun e w' => e = .returned (.slice (some ⟨w.heap.size, 0, none⟩) xs.length xs.length) ∧ OwnN w' w.heap.size (.slice (some ⟨w.heap.size, 0, none⟩) xs.length xs.length) xs ∧ Keeps w w' := by
  generalize hn : xs.length = n at hl
  have Hn : Hid (xs.length = n) := hn
  clear hn
  obtain ⟨C, hC, hmk⟩ := run_make_any (P := Try.prog) 31 3 (.int .i64 0) 1 8 Try.underlying31 (by kernel_rfl) n (by omega) (by omega)
  have hr0 := Row.new w C 3
  have hs0 := hs.lies.keeps ((Keeps.refl w).alloc (.cells C 3))
  have HC : Hid (C.size = n * 1) := hC
  clear hC
  go_enter Try.func70, Try.ntmps70
  go_upto_region 2 with fail
  have kW : Keeps w (w.alloc (.cells C 3)) := (Keeps.refl w).alloc _
  clear hmk hs
  generalize w.alloc (.cells C 3) = W at *
  have hrun : ∀ ty, (Builtin.copy_ #[31, 31] ty #[.slice (some ⟨w.heap.size, 0, none⟩) n n, .slice a n cap]).run Try.prog W = .ok (goInt n) (W.setRow w.heap.size (setL C 0 (flatC ic xs))) := fun ty => by
    have := run_copy_lies (P := Try.prog) ic 1 ic_size (by decide) ic_one W 31 31 ty 3 (some ⟨w.heap.size, 0, none⟩) a n n n cap C 3 w.heap.size 0 xs Try.underlying31 (by kernel_rfl) hr0 (by rw [Hn.out]; simp) (fun _ => rfl) hs0 (by rw [Hn.out, HC.out]; omega)
    rwa [Hn.out] at this
  have R1 : Hid (Row (W.setRow w.heap.size (setL C 0 (flatC ic xs))) w.heap.size 3 (flatC ic xs).toArray) := by
    have e := setL_all (L := flatC ic xs) (C := C) (by rw [flatC_length ic_size, Hn.out, HC.out])
    have := hr0.setRow (setL C 0 (flatC ic xs))
    show Row _ _ _ _
    rw [← e]; exact this
  have K1 : Hid (Keeps w (W.setRow w.heap.size (setL C 0 (flatC ic xs)))) := kW.setRow (Nat.le_refl _) _
  clear hr0 hs0 kW
  generalize W.setRow w.heap.size (setL C 0 (flatC ic xs)) = X at *
  go_wp2
  go_ret
  refine ⟨rfl, ?_, K1.out⟩
  have := R1.out.own (sz := 1) ic_size (base := w.heap.size) (Nat.le_refl _) (by rw [Hn.out]; unfold maxLen; omega)
  rwa [Hn.out] at this

set_option maxRecDepth 100000 in
set_option maxHeartbeats 4000000 in
theorem copyLocks_any (a : Option Addr) (cap : Nat) (ls : List Lk) (w : World) (hl : sizeN ls ≤ 2097152) (hs : Lks true w a ls) :
    Calls Try.prog 56 #[.slice a ls.length cap] w fun e w' => ∃ b vs, e = .returned (.slice (some ⟨b, 0, none⟩) ls.length ls.length) ∧ Mine w' w.heap.size w'.heap.size (.slice (some ⟨b, 0, none⟩) ls.length ls.length) vs ls ∧ Keeps w w' := by
  have hl0 : ls.length ≤ 2097152 := by unfold sizeN at hl; omega
  have HL : Hid (sizeN ls ≤ 2097152) := hl
  clear hl
  generalize hn : ls.length = n at hl0
  have Hn : Hid (ls.length = n) := hn
  clear hn
  have hmk := run_make_zero (P := Try.prog) 25 47 (.agg #[.int .i64 0, .slice none 0 0]) 2 32 Try.underlying25 (by kernel_rfl) n (by omega) (by omega)
  simp only [Value.cells] at hmk
  have M0 : Hid (Mine (w.alloc (.cells (madeCells #[.int .i64 0, .slice none 0 0] (n * 2)) 47)) w.heap.size (w.heap.size + 1) (.slice (some ⟨w.heap.size, 0, none⟩) n n) (List.replicate n Lv.zero) (List.replicate n ⟨0, []⟩)) := Mine.zero w n (by unfold maxLen; omega)
  go_enter Try.func56, Try.ntmps56
  go_wp2
  go_loopw [11] (fun i wr => ∃ (k : Nat) (vs : List Lv) (P : List Lk), k ≤ n ∧ i = .int .i64 k ∧ Keeps w wr ∧ Hid (Mine wr w.heap.size wr.heap.size (.slice (some ⟨w.heap.size, 0, none⟩) n n) vs P) ∧ Hid (P.length = n) ∧ Hid (∀ (j : Nat) (l : Lk), j < k → ls[j]? = some l → P[j]? = some l)) (fun i _ => n - (intOf i).toNat)
  case atStart => exact ⟨0, _, _, Nat.zero_le _, rfl, (Keeps.refl _).alloc _, M0.out.widen (Nat.le_refl _) (by simp), by show _ = _; simp, fun j _ hj => by omega⟩
  case round =>
    obtain ⟨k, vs, P, hk, rfl, hK, M, hP, hf⟩ := hrel
    clear hmk M0
    by_cases hlt : k < n
    · obtain ⟨l, hl1⟩ := some_in (xs := ls) (k := k) (by rw [Hn.out]; exact hlt)
      obtain ⟨b, off, a', cap', rfl, r0, r1, hle, hns⟩ := hs.at hl1
      have hlt' : (k : Int) < (n : Int) := by omega
      have Hl : Hid (ls[k]? = some l) := hl1
      have N1 : Hid (Ns w a' l.waits) := hns
      have hw : Hid (l.waits.length ≤ 2097152) := by show _ ≤ _; have := sumW_mem hl1; have := HL.out; unfold sizeN at this; omega
      clear hs hl1 hns hle
      have hvl : Hid (k < vs.length) := by show _ < _; rw [M.out.len, hP.out]; exact hlt
      obtain ⟨x, hx⟩ := some_in hvl.out
      have Hx : Hid (vs[k]? = some x) := hx
      have hvn : vs.length = n := M.out.len.trans hP.out
      have O0 := M.out.own
      rw [← hvn] at O0
      have s0 : Hid (∀ w', Keeps wr w' → w'.cell? ⟨w.heap.size, k * 2, none⟩ = some (.int .i64 x.o)) := Keeps.has (O0.cellAt lvc_size (k := 0) hx (by omega))
      have s1 : Hid (∀ w', Keeps wr w' → w'.cell? ⟨w.heap.size, k * 2 + 1, none⟩ = some x.row) := Keeps.has (O0.cellAt lvc_size (k := 1) hx (by omega))
      have bl : Hid (w.heap.size < wr.heap.size) := (O0.ltb _ rfl).2
      have s2 : Hid (∀ w', Keeps wr w' → ∀ o, w'.frozen? ⟨w.heap.size, o, none⟩ = false) := fun w' h o => (h.frozens _ _ bl.out).trans (O0.frozenAt o)
      clear O0 hx hvn
      obtain ⟨m, Hm⟩ : ∃ m, Hid (l.waits.length = m) := ⟨_, rfl⟩
      rw [Hm.out] at r1
      go_wp2_with fail
      have kX : Hid (Keeps wr (wr.alloc (.cells #[.int .i64 l.owner, .slice a' m cap'] 47))) := (Keeps.refl wr).alloc _
      have B0 : Hid (Blk (wr.alloc (.cells #[.int .i64 l.owner, .slice a' m cap'] 47)) wr.heap.size #[.int .i64 l.owner, .slice a' m cap']) := Blk.new _ _ _
      generalize wr.alloc (.cells #[.int .i64 l.owner, .slice a' m cap'] 47) = X at *
      have H0 : Hid (Has w wr.heap.size #[.int .i64 l.owner, .slice a' m cap'] X) := ⟨hK.trans kX.out, B0.out⟩
      have q0 : ∀ w', Has w wr.heap.size #[.int .i64 l.owner, .slice a' m cap'] w' → w'.cell? ⟨wr.heap.size, 0, none⟩ = some (.int .i64 l.owner) := fun w' h => h.box.cells 0
      have q1 : ∀ w', Has w wr.heap.size #[.int .i64 l.owner, .slice a' m cap'] w' → w'.cell? ⟨wr.heap.size, 1, none⟩ = some (.slice a' m cap') := fun w' h => h.box.cells 1
      have C1 : Hid (∀ w', Keeps w w' → Calls Try.prog 70 #[.slice a' m cap'] w' fun e w'' => ∃ b', e = .returned (.slice (some ⟨b', 0, none⟩) m m) ∧ OwnN w'' w'.heap.size (.slice (some ⟨b', 0, none⟩) m m) l.waits ∧ Keeps w' w'') := fun w' h => by
        have := copyWaits_any a' cap' l.waits w' hw.out (N1.out.keeps h)
        rw [Hm.out] at this
        exact this.mono fun e w'' h => ⟨_, h.1, h.2.1, h.2.2⟩
      have hbx : wr.heap.size ≠ w.heap.size := by have := bl.out; omega
      clear r0 r1
      refine wp_region_held_drew (S := (fun w' => Has w wr.heap.size #[.int .i64 l.owner, .slice a' m cap'] w')) (by kernel_rfl) ?_ (fun hHeld => ?_)
      · exact H0.out.go (Keeps.refl _).drew
      refine wpAnyH_take (i := 0) (v := ?_) (by simp only [List.getElem?_toArray, List.getElem?_cons_zero]; rfl) (by kernel_rfl) (by kernel_rfl) (by kernel_rfl) (by exact fun _ _ _ h => h) (Or.inl ⟨by rfl, ?_⟩) (by assumption) ?_
      rotate_left
      · (intro w hSw; (try dsimp only at hSw); go_simp; try (with_reducible rfl))
      try simp only [Act.put, List.setIfInBounds_toArray, List.set_cons_zero, List.set_cons_succ]
      refine wpAnyH_take (i := 1) (v := ?_) (by simp only [List.getElem?_toArray, List.getElem?_cons_succ, List.getElem?_cons_zero]; rfl) (by kernel_rfl) (by kernel_rfl) (by kernel_rfl) (by exact fun _ _ _ h => h) (Or.inl ⟨by rfl, ?_⟩) (by assumption) ?_
      rotate_left
      · (intro w hSw; (try dsimp only at hSw); go_simp; try (with_reducible rfl))
      try simp only [Act.put, List.setIfInBounds_toArray, List.set_cons_zero, List.set_cons_succ]
      refine wpAnyH_take (i := 2) (v := ?_) (by simp only [List.getElem?_toArray, List.getElem?_cons_succ, List.getElem?_cons_zero]; rfl) (by kernel_rfl) (by kernel_rfl) (by kernel_rfl) (by exact fun _ _ _ h => h) (Or.inl ⟨by rfl, ?_⟩) (by assumption) ?_
      rotate_left
      · (intro w hSw; (try dsimp only at hSw); go_simp; try (with_reducible rfl))
      try simp only [Act.put, List.setIfInBounds_toArray, List.set_cons_zero, List.set_cons_succ]
      refine wpAnyH_take (i := 3) (v := ?_) (by simp only [List.getElem?_toArray, List.getElem?_cons_succ, List.getElem?_cons_zero]; rfl) (by kernel_rfl) (by kernel_rfl) (by kernel_rfl) (by exact fun _ _ _ h => h) (Or.inl ⟨by rfl, ?_⟩) (by assumption) ?_
      rotate_left
      · (intro w hSw; (try dsimp only at hSw); go_simp; try (with_reducible rfl))
      try simp only [Act.put, List.setIfInBounds_toArray, List.set_cons_zero, List.set_cons_succ]
      refine wpAnyH_take (i := 4) (v := ?_) (by simp only [List.getElem?_toArray, List.getElem?_cons_succ, List.getElem?_cons_zero]; rfl) (by kernel_rfl) (by kernel_rfl) (by kernel_rfl) (by exact fun _ _ _ h => h) (Or.inl ⟨by rfl, ?_⟩) (by assumption) ?_
      rotate_left
      · (intro w hSw; (try dsimp only at hSw); go_simp; try (with_reducible rfl))
      try simp only [Act.put, List.setIfInBounds_toArray, List.set_cons_zero, List.set_cons_succ]
      refine wpAnyH_take (i := 5) (v := ?_) (by simp only [List.getElem?_toArray, List.getElem?_cons_succ, List.getElem?_cons_zero]; rfl) (by kernel_rfl) (by kernel_rfl) (by kernel_rfl) (by exact fun _ _ _ h => h) (Or.inl ⟨by rfl, ?_⟩) (by assumption) ?_
      rotate_left
      · (intro w hSw; (try dsimp only at hSw); go_simp; try (with_reducible rfl))
      try simp only [Act.put, List.setIfInBounds_toArray, List.set_cons_zero, List.set_cons_succ]
      refine wpAnyH_ready (rs := [6]) (by kernel_rfl) (by simp) ?_
      refine AllReadyH.cons (by simp only [List.getElem?_toArray, List.getElem?_cons_succ, List.getElem?_cons_zero]; rfl) (fun K hK => ?_) AllReadyH.nil
      go_simp
      first
        | (go_at_call 70; refine (C1.out _ H0.out.keeps.drew).mono ?_; rintro e w6 ⟨b', rfl, o6, k6⟩; have O6 : Hid (OwnN w6 X.heap.size (.slice (some ⟨b', 0, none⟩) m m) l.waits) := o6; have K6 : Hid (Keeps X w6) := (Keeps.refl X).drew.trans k6; clear o6)
      try go_wp2_with fail
      refine hK.out _ _ ?_ (fun hHeld => ?_)
      · first | exact Has.go (by assumption) (by assumption) | assumption
      clear hK K
      try simp only [Act.put, List.setIfInBounds_toArray, List.set_cons_zero, List.set_cons_succ]
      refine wpAnyH_take (i := 7) (v := ?_) (by simp only [List.getElem?_toArray, List.getElem?_cons_succ, List.getElem?_cons_zero]; rfl) (by kernel_rfl) (by kernel_rfl) (by kernel_rfl) (by exact fun _ _ _ h => h) (Or.inl ⟨by rfl, ?_⟩) (by assumption) ?_
      rotate_left
      · (intro w hSw; (try dsimp only at hSw); go_simp; try (with_reducible rfl))
      try simp only [Act.put, List.setIfInBounds_toArray, List.set_cons_zero, List.set_cons_succ]
      refine wpAnyH_take (i := 8) (v := ?_) (by simp only [List.getElem?_toArray, List.getElem?_cons_succ, List.getElem?_cons_zero]; rfl) (by kernel_rfl) (by kernel_rfl) (by kernel_rfl) (by exact fun _ _ _ h => h) (Or.inl ⟨by rfl, ?_⟩) (by assumption) ?_
      rotate_left
      · (intro w hSw; (try dsimp only at hSw); go_simp; try (with_reducible rfl))
      try simp only [Act.put, List.setIfInBounds_toArray, List.set_cons_zero, List.set_cons_succ]
      refine wpAnyH_ready (rs := [9]) (by kernel_rfl) (by simp) ?_
      refine AllReadyH.cons (by simp only [List.getElem?_toArray, List.getElem?_cons_succ, List.getElem?_cons_zero]; rfl) (fun K hK => ?_) AllReadyH.nil
      have z0 := s0.out w6 (kX.out.trans K6.out); have z1 := s1.out w6 (kX.out.trans K6.out); have z2 := s2.out w6 (kX.out.trans K6.out)
      go_simp
      try go_wp2_with fail
      refine hK.out _ _ ?_ (fun hHeld => ?_)
      · exact Has.put (by assumption) (r := w.heap.size) (Nat.le_refl _) (by omega) (k * 2) [.int .i64 l.owner, .slice (some ⟨b', 0, none⟩) m m]
      clear hK K
      try simp only [Act.put, List.setIfInBounds_toArray, List.set_cons_zero, List.set_cons_succ]
      refine wpAnyH_done (by kernel_rfl) ?_ _
      go_wp2
      have M1 := M.out.keeps (kX.out.trans K6.out)
      have hb' := O6.out.ltb b' rfl
      have sz := kX.out.size
      have hne : b' ≠ w.heap.size := by have := bl.out; omega
      refine ⟨⟨k + 1, vs.set k ⟨l.owner, some ⟨b', 0, none⟩, m, m⟩, P.set k l, by omega, by go_num, ((hK.trans (kX.out.trans K6.out)).setCell (p := ⟨w.heap.size, k * 2, none⟩) (Nat.le_refl _) _).setCell (p := ⟨w.heap.size, k * 2 + 1, none⟩) (Nat.le_refl _) _, ?_, by show _ = _; simpa using hP.out, ?_⟩, by simp only [intOf]; omega⟩
      · refine M1.swap (x := x) (y := ⟨l.owner, some ⟨b', 0, none⟩, m, m⟩) (l := l) Hx.out (M1.own.setTwo Hx.out ⟨l.owner, some ⟨b', 0, none⟩, m, m⟩) (fun b2 h1 h2 h3 => ?_) rfl ?_ (by have := K6.out.size; simp; omega) (fun b2 e => ?_)
        · have : b2 ≠ w.heap.size := fun e => h1 (by rw [e]; rfl)
          rw [heap_setCell this, heap_setCell this]
        · refine Own.base (Own.same O6.out fun b2 e => ?_) (by have := bl.out; omega)
          have e2 : b2 = b' := by simpa [Value.ownBlock] using e.symm
          rw [heap_setCell (by omega), heap_setCell (by omega)]
        · have e2 : b2 = b' := by simpa [Value.ownBlock] using e.symm
          subst e2
          exact .inl ⟨by omega, by simpa using hb'.2⟩
      · intro j m2 hj hm2
        by_cases e : j = k
        · subst e
          rw [Hl.out] at hm2
          cases hm2
          exact List.getElem?_set_self (by rw [hP.out]; exact hlt)
        · rw [List.getElem?_set_ne (Ne.symm e)]
          exact hf.out j m2 (by omega) hm2
    · have e : k = n := by omega
      subst e
      have e2 : Hid (P = ls) := by
        show _ = _
        apply List.ext_getElem?
        intro j
        rcases Nat.lt_or_ge j k with hj | hj
        · obtain ⟨m, hm⟩ := some_in (xs := ls) (k := j) (by rw [Hn.out]; exact hj)
          rw [hm]; exact hf.out j m hj hm
        · rw [List.getElem?_eq_none (by rw [hP.out]; exact hj), List.getElem?_eq_none (by rw [Hn.out]; exact hj)]
      go_wp2
      go_ret
      exact ⟨w.heap.size, vs, rfl, by have := M.out; rw [e2.out] at this; exact this, hK⟩
end Go.Proofs.Ytglemedcnapneaa
