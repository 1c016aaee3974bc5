/-
  Locks: the model's copy of them.
  Locks: the contract of the model's asking for one.
-/
import Derived.Test.YtpikopdfkhagmaaGreatDoorLockSpec3
namespace Go.Proofs.YtpikopdfkhagmaaGreatDoor
open Go.RowKit
attribute [local go_sem] Keeps.refl Keeps.alloc Keeps.drew Keeps.drewN

theorem lies_blk {α : Type} {sz : Nat} {c : α → Array Value} {w : World} {b : Nat} {y : α} (hb : Blk w b (c y)) : Lies sz c w (some ⟨b, 0, none⟩) [y] := by
  refine .inr ⟨_, _, rfl, hb.lt, fun i x hx k hk => ?_⟩
  cases i with
  | zero => simp at hx; subst hx; simpa using hb.cells k
  | succ i => simp at hx

set_option maxRecDepth 100000 in
set_option maxHeartbeats 4000000 in
theorem specCopy_any (a : Option Addr) (cap : Nat) (ls : List Lk) (w : World) (hl : sizeN ls ≤ 2097152) (hs : Lks true w a ls) :
    Calls Tryz.prog 80 #[.slice a ls.length cap] w fun e w' => ∃ v vs, e = .returned v ∧ Mine w' w.heap.size w'.heap.size v vs ls ∧ Keeps w w' := by
  have HL : Hid (sizeN ls ≤ 2097152) := hl
  have hl0 : ls.length ≤ 2097152 := by unfold sizeN at hl; omega
  clear hl
  have HS : Hid (Lks true w a ls) := hs
  clear hs
  generalize hn : ls.length = n at hl0
  have Hn : Hid (ls.length = n) := hn
  clear hn
  go_enter Tryz.func80, Tryz.ntmps80
  go_wp2
  have kz : Hid (Keeps w (w.alloc (.cells #[] 92))) := (Keeps.refl _).alloc _
  have own0 : Hid (Mine (w.alloc (.cells #[] 92)) w.heap.size (w.alloc (.cells #[] 92)).heap.size (.slice (some ⟨w.heap.size, 0, none⟩) 0 0) [] []) := Mine.none _ _ _ _ (Own.new 92 2 lvc w (Nat.le_refl _)) (fun b e => by simp [Value.ownBlock] at e; simp; omega)
  generalize w.alloc (.cells #[] 92) = W at *
  go_loopw [3, 4] (fun v i wr => ∃ (k : Nat) (vs : List Lv), k ≤ n ∧ i = .int .i64 k ∧ Hid (Mine wr w.heap.size wr.heap.size v vs (ls.take k)) ∧ Keeps w wr) (fun _ i _ => n - (intOf i).toNat)
  case atStart => exact ⟨0, [], Nat.zero_le _, rfl, by show Mine _ _ _ _ _ _; rw [List.take_zero]; exact own0.out, kz.out⟩
  case round =>
    obtain ⟨k, vs, hk, rfl, M, hK⟩ := hrel
    clear own0 kz
    by_cases hlt : k < n
    · obtain ⟨l, hl1⟩ := some_in (xs := ls) (k := k) (by rw [Hn.out]; exact hlt)
      obtain ⟨b, off, a', cap', rfl, r0, r1, hle, hns, hpl⟩ := HS.out.atp hl1
      have hlt' : (k : Int) < (n : Int) := by omega
      have Hl : Hid (ls[k]? = some l) := hl1
      have N1 : Hid (Ns w a' l.waits) := hns
      have hw1 : Hid (l.waits.length ≤ 2097152) := by show _ ≤ _; have := sumW_mem hl1; have := HL.out; unfold sizeN at this; omega
      have hvl : Hid (vs.length ≤ 2097152) := by show _ ≤ _; rw [M.out.len]; simp; omega
      obtain ⟨av, cv, ev, -, -⟩ := M.out.lks
      obtain ⟨nv, Hnv⟩ : ∃ nv, Hid ((ls.take k).length = nv) := ⟨_, rfl⟩
      rw [Hnv.out] at ev
      subst ev
      clear hl1 hle hns
      have pl := hpl rfl
      clear hpl
      obtain ⟨m, Hm⟩ : ∃ m : Nat, Hid (l.waits.length = m) := ⟨_, rfl⟩
      rw [Hm.out] at r1 pl
      rcases pl with ⟨rfl, rfl, rfl⟩ | ⟨b2, off2, rfl, hb2⟩
      · have Hw0 : Hid (l.waits = []) := List.eq_nil_of_length_eq_zero Hm.out
        go_wp2_with fail
        go_region_law (first
          | (refine step_pushNone rfl (.tmp 18) (.tmp 23) 41 rfl wr.heap.size 3 (.int .i64 0) 1 8 ic Tryz.underlying41 (by kernel_rfl) (.slice (some ⟨wr.heap.size, 0, none⟩) 0 0) [] (by simp [Act.eval]) ((Own.new 3 1 ic wr (Nat.le_refl _)).keeps (Keeps.refl _).drew) (by simp [Act.eval]) ?_)
          | (refine step_pushAll rfl (.tmp 12) (.tmp 26) 39 rfl w.heap.size 92 (.agg #[.int .i64 0, .slice none 0 0]) 2 32 lvc Tryz.underlying39 (by kernel_rfl) rfl (by decide) lvc_size lvc_one (.slice av nv cv) vs (by simp [Act.eval]) (M.out.own.keeps (((Keeps.refl wr).alloc _).alloc _).drew) (by have := hK.size; simp; omega) [⟨l.owner, some ⟨wr.heap.size, 0, none⟩, 0, 0⟩] _ 0 1 (lies_blk ((Blk.new _ _ _).keeps (Keeps.refl _).drew)) (by simp [Act.eval]) (by have := hvl.out; simp [maxLen]; omega) (by have := hvl.out; simp; omega) ?_; intro v2 w2 o2 g2 f2))
        all_goals
          have O2 : Hid (Own 92 2 lvc w2 w.heap.size v2 (vs ++ [⟨l.owner, some ⟨wr.heap.size, 0, none⟩, 0, 0⟩])) := o2
          have G2 : Hid (((wr.alloc (.cells #[] 3)).alloc (.cells #[.int .i64 l.owner, .slice (some ⟨wr.heap.size, 0, none⟩) 0 0] 92)).drew.grownBy w2 (Value.slice av nv cv).ownBlock) := g2
          clear o2 g2
          go_wp2
          refine ⟨⟨k + 1, vs ++ [⟨l.owner, some ⟨wr.heap.size, 0, none⟩, 0, 0⟩], by omega, by go_num, ?_, ?_⟩, by simp only [intOf]; omega⟩
          · show Mine _ _ _ _ _ _
            rw [List.take_add_one, Hl.out]
            have sz := G2.out.size
            simp only [World.size_drew, World.size_alloc] at sz
            refine (M.out.keeps (((Keeps.refl wr).alloc _).alloc _).drew).push O2.out G2.out rfl (by rw [Hw0.out]; exact ((Own.new 3 1 ic wr hK.size).alloc _).keeps (Keeps.refl _).drew) (fun q hq => ?_) (fun q hq => ?_) (by omega)
            · simp [Value.ownBlock] at hq
              simp only [World.size_drew, World.size_alloc]
              omega
            · have h1 := O2.out.ltb q hq
              rcases f2 q hq with h3 | h3
              · exact .inl h3
              · exact .inr ⟨by omega, h1.2⟩
          · refine Keeps.grown (((hK.alloc _).alloc _).drew) G2.out fun q hq => ?_
            exact (M.out.own.ltb q hq).1
      · go_wp2_with fail
        go_region_law (first
          | (refine step_pushAll rfl (.tmp 18) (.tmp 23) 41 rfl wr.heap.size 3 (.int .i64 0) 1 8 ic Tryz.underlying41 (by kernel_rfl) rfl (by decide) ic_size ic_one (.slice (some ⟨wr.heap.size, 0, none⟩) 0 0) [] (by simp [Act.eval]) ((Own.new 3 1 ic wr (Nat.le_refl _)).keeps (Keeps.refl _).drew) (by simp) l.waits b2 off2 cap' (N1.out.keeps ((hK.alloc _).drew)).lies (by rw [Hm.out]; simp [Act.eval]) (by have := hw1.out; unfold maxLen; simp; omega) (by have := hw1.out; simp; omega) ?_; intro v1 w1 o1 g1 f1; obtain ⟨a1, c1, e1, -, -, -⟩ := OwnN.ns (xs := [] ++ l.waits) o1; rw [List.nil_append, Hm.out] at e1; subst e1; have KV : Hid (Keeps wr w1) := ((Keeps.refl wr).alloc _).drew.grown g1 (by intro q hq; simp [Value.ownBlock] at hq; omega); have OV : Hid (Own 92 2 lvc w1 w.heap.size (.slice av nv cv) vs) := M.out.own.keeps KV.out; have kk : Keeps w w1 := hK.trans KV.out)
          | (refine step_pushAll rfl (.tmp 12) (.tmp 26) 39 rfl w.heap.size 92 (.agg #[.int .i64 0, .slice none 0 0]) 2 32 lvc Tryz.underlying39 (by kernel_rfl) rfl (by decide) lvc_size lvc_one (.slice av nv cv) vs (by simp [Act.eval]) (OV.out.alloc _) (by have := kk.size; simp; omega) [⟨l.owner, a1, m, c1⟩] _ 0 1 (lies_blk (Blk.new _ _ _)) (by simp [Act.eval]) (by have := hvl.out; simp [maxLen]; omega) (by have := hvl.out; simp; omega) ?_; intro v2 w2 o2 g2 f2))
        all_goals
          have O1 : Hid (OwnN w1 wr.heap.size (.slice a1 m c1) l.waits) := o1
          have O2 : Hid (Own 92 2 lvc w2 w.heap.size v2 (vs ++ [⟨l.owner, a1, m, c1⟩])) := o2
          have G2 : Hid ((w1.alloc (.cells #[.int .i64 l.owner, .slice a1 m c1] 92)).grownBy w2 (Value.slice av nv cv).ownBlock) := g2
          clear o1 o2 g1 g2
          go_wp2
          refine ⟨⟨k + 1, vs ++ [⟨l.owner, a1, m, c1⟩], by omega, by go_num, ?_, ?_⟩, by simp only [intOf]; omega⟩
          · show Mine _ _ _ _ _ _
            rw [List.take_add_one, Hl.out]
            refine ((M.out.keeps KV.out).keeps ((Keeps.refl w1).alloc _)).push O2.out G2.out rfl (Own.alloc (Own.base O1.out hK.size) _) (fun q hq => ?_) (fun q hq => ?_) (Nat.le_trans KV.out.size (Nat.le_trans (by simp) G2.out.size))
            · have h1 := O1.out.ltb q hq
              have h2 := G2.out.size
              simp only [World.size_alloc] at h2 ⊢
              omega
            · have h1 := O2.out.ltb q hq
              rcases f2 q hq with h3 | h3
              · exact .inl h3
              · exact .inr ⟨by omega, h1.2⟩
          · refine Keeps.grown ((hK.trans KV.out).alloc _) G2.out fun q hq => ?_
            exact (M.out.own.ltb q hq).1
    · have e : k = n := by omega
      subst e
      go_wp2
      go_ret
      refine ⟨_, vs, rfl, ?_, hK⟩
      have := M.out
      rw [← Hn.out, List.take_length] at this
      exact this
end Go.Proofs.YtpikopdfkhagmaaGreatDoor
namespace Go.Proofs.YtpikopdfkhagmaaGreatDoor
open Go.RowKit
attribute [local go_sem] Keeps.refl Keeps.alloc Keeps.drew Keeps.drewN

theorem modify_set {ls : List Lk} {i : Nat} {l : Lk} (h : ls[i]? = some l) (f : Lk → Lk) : ls.modify i f = ls.set i (f l) := by
  apply List.ext_getElem?
  intro j
  by_cases e : i = j
  · subst e
    rw [List.getElem?_modify, List.getElem?_set_self (lt_of_some h), h]
    simp
  · rw [List.getElem?_modify, List.getElem?_set_ne e]
    simp [e]
theorem waitAt_ge {ls : List Lk} {no : Int} (h : decide (0 ≤ waitAt ls no) = false) : waitAt ls no = -1 := by
  unfold waitAt at h ⊢
  split
  · rename_i i hi; rw [hi] at h; simp at h
  · rfl

set_option maxRecDepth 100000 in
set_option maxHeartbeats 8000000 in
theorem specLockAsk_any (a : Option Addr) (cap : Nat) (ls : List Lk) (i no : Int) (w : World) (hl : sizeN ls ≤ 2097152) (hs : Lks true w a ls) :
    Calls Tryz.prog 98 #[.slice a ls.length cap, .int .i64 i, .int .i64 no] w fun e w' => ∃ v vs, e = .returned (.tuple #[v, .int .i64 (askN ls i no)]) ∧ Mine w' w.heap.size w'.heap.size v vs (askL ls i no) ∧ Keeps w w' := by
  have HL : Hid (sizeN ls ≤ 2097152) := hl
  have hl0 : ls.length ≤ 2097152 := by unfold sizeN at hl; omega
  clear hl
  have HS : Hid (Lks true w a ls) := hs
  clear hs
  have HLm : Hid (ls.length ≤ maxLen) := by show _ ≤ _; unfold maxLen; omega
  have LO : Hid (∀ w', Keeps w w' → Calls Tryz.prog 86 #[.slice a ls.length cap] w' fun e w'' => e = .returned (.bool (locksB ls)) ∧ Keeps w' w'') := fun w' h => specLocksOk_any a cap ls w' HL.out (HS.out.keeps h)
  have CP : Hid (∀ w', Keeps w w' → Calls Tryz.prog 80 #[.slice a ls.length cap] w' fun e w'' => ∃ v vs, e = .returned v ∧ Mine w'' w'.heap.size w''.heap.size v vs ls ∧ Keeps w' w'') := fun w' h => specCopy_any a cap ls w' HL.out (HS.out.keeps h)
  have WA : Hid (∀ w', Keeps w w' → Calls Tryz.prog 74 #[.slice a ls.length cap, .int .i64 no] w' fun e w'' => e = .returned (.int .i64 (waitAt ls no)) ∧ Keeps w' w'') := fun w' h => specWaitAt_any a cap ls no w' HLm.out (HS.out.keeps h)
  have CO : Hid (∀ x w', Keeps w w' → Calls Tryz.prog 117 #[.slice a ls.length cap, .int .i64 x] w' fun e w'' => ∃ v, e = .returned v ∧ OwnN w'' w'.heap.size v (chainL ls x) ∧ Keeps w' w'') := fun x w' h => specChainOf_any a cap ls x w' HL.out (HS.out.keeps h)
  generalize hn : ls.length = n at hl0
  have Hn : Hid (ls.length = n) := hn
  rw [hn] at LO CP WA CO
  clear hn
  cases hb : locksB ls
  · have Hr : Hid (askN ls i no = 2) := by show _ = _; unfold askN; rw [hb]; rfl
    have Hq : Hid (askL ls i no = []) := by show _ = _; unfold askL; rw [hb]; rfl
    rw [hb] at LO
    go_enter Tryz.func98, Tryz.ntmps98
    go_wp2_with (go_at_call 86; refine (LO.out _ (Keeps.refl _)).mono ?_; rintro e w1 ⟨rfl, k1⟩)
    go_ret2
    refine ⟨_, [], by rw [Hr.out]; rfl, ?_, k1.alloc _⟩
    rw [Hq.out]
    exact Mine.none _ _ _ _ (Own.new 92 2 lvc w1 k1.size) (fun q hq => by simp [Value.ownBlock] at hq; simp; omega)
  rw [hb] at LO
  go_enter Tryz.func98, Tryz.ntmps98
  go_wp2_with (first
    | (go_at_call 86; refine (LO.out _ (Keeps.refl _)).mono ?_; rintro e w1 ⟨rfl, k1⟩)
    | fail)
  refine (CP.out _ k1).mono ?_
  rintro e w2 ⟨v, vs, rfl, M0, k2⟩
  have M : Hid (Mine w2 w.heap.size w2.heap.size v vs ls) := M0.widen k1.size (Nat.le_refl _)
  have K2 : Keeps w w2 := k1.trans k2
  clear M0 k1 k2 LO CP
  have ewrap : IntKind.i64.wrap ((n : Int) - 1) = (n : Int) - 1 := Go.IntWalk.i64_in _ (by omega)
  have bad : ∀ (h : (!inB i 0 ((n : Int) - 1) || (!inB no 1 1000 || decide (0 ≤ waitAt ls no))) = true), askN ls i no = 2 ∧ askL ls i no = ls := by
    intro h
    have e1 : askN ls i no = 2 := by unfold askN; rw [hb, Hn.out, h]; rfl
    refine ⟨e1, ?_⟩
    unfold askL
    rw [hb, e1]; rfl
  have BAD : Hid (∀ (_ : (!inB i 0 ((n : Int) - 1) || (!inB no 1 1000 || decide (0 ≤ waitAt ls no))) = true), askN ls i no = 2 ∧ askL ls i no = ls) := bad
  clear bad
  cases c1 : inB i 0 ((n : Int) - 1)
  · have Hr := BAD.out (by rw [c1]; rfl)
    have Hr1 : Hid (askN ls i no = 2) := Hr.1
    have Hr2 : Hid (askL ls i no = ls) := Hr.2
    clear Hr
    go_wp2_with (go_at_call 29; refine (l1In_any _ _ _ _).mono ?_; rintro e w' ⟨rfl, hw'⟩; have hw2 := hw'.symm; subst hw2)
    go_ret2
    exact ⟨_, vs, by rw [Hr1.out]; rfl, by rw [Hr2.out]; exact M.out, K2⟩
  cases c2 : inB no 1 1000
  · have Hr := BAD.out (by rw [c2]; simp)
    have Hr1 : Hid (askN ls i no = 2) := Hr.1
    have Hr2 : Hid (askL ls i no = ls) := Hr.2
    clear Hr
    go_wp2_with (go_at_call 29; refine (l1In_any _ _ _ _).mono ?_; rintro e w' ⟨rfl, hw'⟩; have hw2 := hw'.symm; subst hw2)
    go_ret2
    exact ⟨_, vs, by rw [Hr1.out]; rfl, by rw [Hr2.out]; exact M.out, K2⟩
  cases c3 : decide (0 ≤ waitAt ls no)
  rotate_left
  · have Hr := BAD.out (by rw [c3]; simp)
    have Hr1 : Hid (askN ls i no = 2) := Hr.1
    have Hr2 : Hid (askL ls i no = ls) := Hr.2
    clear Hr
    go_wp2_with (first
      | (go_at_call 29; refine (l1In_any _ _ _ _).mono ?_; rintro e w' ⟨rfl, hw'⟩; have hw2 := hw'.symm; subst hw2)
      | (go_at_call 74; refine (WA.out _ K2).mono ?_; rintro e w3 ⟨rfl, k3⟩))
    go_ret2
    exact ⟨_, vs, by rw [Hr1.out]; rfl, by rw [Hr2.out]; exact M.out.keeps k3 |>.widen (Nat.le_refl _) k3.size, K2.trans k3⟩
  have Hwa : Hid (waitAt ls no = -1) := waitAt_ge c3
  rw [Hwa.out] at WA
  obtain ⟨h0, h1⟩ := inB_iff.1 c1
  obtain ⟨j, rfl⟩ : ∃ j : Nat, i = (j : Int) := ⟨i.toNat, by omega⟩
  have hj : j < n := by omega
  have hj' : (j : Int) < (n : Int) := by omega
  obtain ⟨l, hl1⟩ := some_in (xs := ls) (k := j) (by rw [Hn.out]; exact hj)
  obtain ⟨b, off, a', cap', rfl, r0, r1, -, -⟩ := HS.out.at hl1
  have Hl : Hid (ls[j]? = some l) := hl1
  have Ho : Hid (ownerAt ls (j : Int).toNat = l.owner) := by show _ = _; rw [Int.toNat_natCast]; exact ownerAt_of hl1
  have go : Hid (askN ls (j : Int) no = if l.owner == no then 3 else if l.owner == 0 then 0 else if hasB (chainL ls l.owner) no then 4 else 1) := by
    show _ = _
    unfold askN
    rw [hb, Hn.out, c1, c2, c3, Ho.out]
    rfl
  clear hl1 r1 BAD h0 h1
  cases c4 : (l.owner == no)
  rotate_left
  · have Hr1 : Hid (askN ls (j : Int) no = 3) := by show _ = _; rw [go.out, c4]; rfl
    have Hr2 : Hid (askL ls (j : Int) no = ls) := by show _ = _; unfold askL; rw [hb, Hr1.out]; rfl
    go_wp2_with (first
      | (go_at_call 29; refine (l1In_any _ _ _ _).mono ?_; rintro e w' ⟨rfl, hw'⟩; have hw2 := hw'.symm; subst hw2)
      | (go_at_call 74; refine (WA.out _ K2).mono ?_; rintro e w3 ⟨rfl, k3⟩; have kk : Keeps w w3 := K2.trans k3))
    go_ret2
    exact ⟨_, vs, by rw [Hr1.out]; rfl, by rw [Hr2.out]; exact M.out.keeps k3 |>.widen (Nat.le_refl _) k3.size, kk⟩
  have Hvn : Hid (vs.length = n) := M.out.len.trans Hn.out
  obtain ⟨b3, cap3, ev⟩ := M.out.own.blk (by rw [Hvn.out]; omega)
  rw [Hvn.out] at ev
  subst ev
  obtain ⟨x, hx⟩ := some_in (xs := vs) (k := j) (by rw [Hvn.out]; exact hj)
  have Hx : Hid (vs[j]? = some x) := hx
  have O0 : Own 92 2 lvc w2 w.heap.size (.slice (some ⟨b3, 0, none⟩) vs.length cap3) vs := by rw [Hvn.out]; exact M.out.own
  have bl : Hid (b3 < w2.heap.size) := (O0.ltb b3 rfl).2
  have bl0 : Hid (w.heap.size ≤ b3) := (O0.ltb b3 rfl).1
  have s0 : ∀ w', Keeps w2 w' → w'.cell? ⟨b3, j * 2, none⟩ = some (.int .i64 x.o) := Keeps.has (O0.cellAt lvc_size (k := 0) hx (by omega))
  have s1 : ∀ w', Keeps w2 w' → w'.cell? ⟨b3, j * 2 + 1, none⟩ = some x.row := Keeps.has (O0.cellAt lvc_size (k := 1) hx (by omega))
  have s2 : ∀ w', Keeps w2 w' → ∀ o, w'.frozen? ⟨b3, o, none⟩ = false := fun w' h o => (h.frozens _ _ bl.out).trans (O0.frozenAt o)
  have X1 := (M.out.rows j x l hx Hl.out)
  have OX : Hid (∀ w', Keeps w2 w' → OwnN w' w.heap.size x.row l.waits) := fun w' h => X1.2.keeps h
  have Xb : Hid (∀ q, x.row.ownBlock = some q → q < w2.heap.size ∧ q ≠ b3) := fun q hq => ⟨(X1.2.ltb q hq).2, fun e => (M.out.inn j x q hx hq).2 (by rw [e]; rfl)⟩
  have Xo : Hid (x.o = l.owner) := X1.1
  have hw1 : Hid (l.waits.length ≤ 2097152) := by show _ ≤ _; have := sumW_mem Hl.out; have := HL.out; unfold sizeN at this; omega
  clear X1 O0 hx
  obtain ⟨xo, xa, xn, xc⟩ := x
  dsimp only at s0 s1
  cases c5 : (l.owner == 0)
  rotate_left
  · have Hr1 : Hid (askN ls (j : Int) no = 0) := by show _ = _; rw [go.out, c4, c5]; rfl
    have Hr2 : Hid (askL ls (j : Int) no = ls.set j { l with owner := no }) := by show _ = _; unfold askL; rw [hb, Hr1.out, Int.toNat_natCast, modify_set Hl.out (setOwner no)]; rfl
    go_wp2_with (first
      | (go_at_call 29; refine (l1In_any _ _ _ _).mono ?_; rintro e w' ⟨rfl, hw'⟩; have hw2 := hw'.symm; subst hw2)
      | (go_at_call 74; refine (WA.out _ K2).mono ?_; rintro e w3 ⟨rfl, k3⟩; have kk : Keeps w w3 := K2.trans k3))
    go_ret2
    refine ⟨_, vs.set j ⟨no, xa, xn, xc⟩, by rw [Hr1.out]; rfl, ?_, kk.setCell (p := ⟨b3, j * 2, none⟩) bl0.out _⟩
    rw [Hr2.out]
    have m : Mine w3 w.heap.size w3.heap.size (.slice (some ⟨b3, 0, none⟩) vs.length cap3) vs ls := by rw [Hvn.out]; exact (M.out.keeps k3).widen (Nat.le_refl _) k3.size
    have := m.setOwner Hx.out Hl.out no
    rw [List.length_set, Hvn.out] at this
    simpa using this
  cases c6 : hasB (chainL ls l.owner) no
  rotate_left
  · have Hr1 : Hid (askN ls (j : Int) no = 4) := by show _ = _; rw [go.out, c4, c5, c6]; rfl
    have Hr2 : Hid (askL ls (j : Int) no = ls) := by show _ = _; unfold askL; rw [hb, Hr1.out]; rfl
    go_wp2_with (first
      | (go_at_call 29; refine (l1In_any _ _ _ _).mono ?_; rintro e w' ⟨rfl, hw'⟩; have hw2 := hw'.symm; subst hw2)
      | (go_at_call 74; refine (WA.out _ K2).mono ?_; rintro e w3 ⟨rfl, k3⟩; have kk : Keeps w w3 := K2.trans k3)
      | (go_at_call 117; refine (CO.out _ _ kk).mono ?_; rintro e w4 ⟨v4, rfl, O4, k4⟩; have kk4 : Keeps w w4 := kk.trans k4; have k24 : Keeps w2 w4 := k3.trans k4; obtain ⟨a4, c4', e4, N4, l4, l4'⟩ := OwnN.ns O4; subst e4)
      | (go_at_call 95; refine (specHas_any a4 c4' (chainL ls l.owner) no _ (Nat.le_trans l4 l4') N4).mono ?_; rintro e w5 ⟨rfl, k5⟩; rw [c6]; have kk5 : Keeps w w5 := kk4.trans k5; have k25 : Keeps w2 w5 := k24.trans k5))
    go_ret2
    exact ⟨_, vs, by rw [Hr1.out]; rfl, by rw [Hr2.out]; exact M.out.keeps k25 |>.widen (Nat.le_refl _) k25.size, kk5⟩
  · have Hr1 : Hid (askN ls (j : Int) no = 1) := by show _ = _; rw [go.out, c4, c5, c6]; rfl
    have Hr2 : Hid (askL ls (j : Int) no = ls.set j { l with waits := l.waits ++ [no] }) := by show _ = _; unfold askL; rw [hb, Hr1.out, Int.toNat_natCast, modify_set Hl.out (addWait no)]; rfl
    go_wp2_with (first
      | (go_at_call 29; refine (l1In_any _ _ _ _).mono ?_; rintro e w' ⟨rfl, hw'⟩; have hw2 := hw'.symm; subst hw2)
      | (go_at_call 74; refine (WA.out _ K2).mono ?_; rintro e w3 ⟨rfl, k3⟩; have kk : Keeps w w3 := K2.trans k3)
      | (go_at_call 117; refine (CO.out _ _ kk).mono ?_; rintro e w4 ⟨v4, rfl, O4, k4⟩; have kk4 : Keeps w w4 := kk.trans k4; have k24 : Keeps w2 w4 := k3.trans k4; obtain ⟨a4, c4', e4, N4, l4, l4'⟩ := OwnN.ns O4; subst e4)
      | (go_at_call 95; refine (specHas_any a4 c4' (chainL ls l.owner) no _ (Nat.le_trans l4 l4') N4).mono ?_; rintro e w5 ⟨rfl, k5⟩; rw [c6]; have kk5 : Keeps w w5 := kk4.trans k5; have k25 : Keeps w2 w5 := k24.trans k5)
      | (at_builtin; (refine wpList_pushF rfl _ _ 41 rfl w.heap.size 3 (.int .i64 0) 1 8 ic Tryz.underlying41 (by kernel_rfl) rfl (by decide) ic_size ic_one _ l.waits rfl (OX.out _ (k25.alloc _)) (by have := kk5.size; simp; omega) no _ 1 (Blk.new _ _ _) rfl ?c1 ?c2 ?_)))
    case c1 => have := hw1.out; unfold maxLen; omega
    case c2 => have := hw1.out; omega
    intro v6 w6 o6 g6 f6
    obtain ⟨a6, c7, e6, -, -, -⟩ := OwnN.ns o6
    obtain ⟨m6, Hm6⟩ : ∃ m, Hid ((l.waits ++ [no]).length = m) := ⟨_, rfl⟩
    rw [Hm6.out] at e6
    subst e6
    have O6 : Hid (OwnN w6 w.heap.size (.slice a6 m6 c7) (l.waits ++ [no])) := o6
    have bl5 : Hid (b3 < w5.heap.size) := Nat.lt_of_lt_of_le bl.out k25.size
    have key : Hid (∀ q, q < w5.heap.size → (Value.slice xa xn xc).ownBlock ≠ some q → w6.heap[q]? = w5.heap[q]?) := fun q hq hne => (g6.block q (by simp; omega) (fun e => hne e.symm)).trans (Below.block ((Keeps.refl w5).alloc _) q hq)
    have h36 : w6.heap[b3]? = w5.heap[b3]? := key.out b3 bl5.out (fun e => (Xb.out b3 e).2 rfl)
    have s3 : w6.cell? ⟨b3, j * 2 + 1, none⟩ = some (.slice xa xn xc) := (World.cell?_of_block (w := w5) h36).trans (s1 _ k25)
    have s4 : ∀ o, w6.frozen? ⟨b3, o, none⟩ = false := fun o => (World.frozen?_of_block (w := w5) h36).trans (s2 _ k25 o)
    have sz6 : Hid (w5.heap.size + 1 ≤ w6.heap.size) := by have := g6.size; simp at this; exact this
    have f6' : Hid (∀ q, (Value.slice a6 m6 c7).ownBlock = some q → (Value.slice xa xn xc).ownBlock = some q ∨ q = w5.heap.size + 1) := fun q hq => by have := f6 q hq; simpa using this
    have kk6 : Hid (Keeps w w6) := Keeps.grown (kk5.alloc _) g6 (fun q hq => ((OX.out _ k25).ltb q hq).1)
    clear o6 g6 f6 s0 s1 s2
    go_wp2
    go_ret2
    refine ⟨_, vs.set j ⟨xo, a6, m6, c7⟩, by rw [Hr1.out]; rfl, ?_, kk6.out.setCell (p := ⟨b3, j * 2 + 1, none⟩) bl0.out _⟩
    rw [Hr2.out]
    have m5 : Mine w5 w.heap.size w5.heap.size (.slice (some ⟨b3, 0, none⟩) n cap3) vs ls := (M.out.keeps k25).widen (Nat.le_refl _) k25.size
    have ow6 : Own 92 2 lvc w6 w.heap.size (.slice (some ⟨b3, 0, none⟩) n cap3) vs := m5.own.same fun q hq => by
      have : q = b3 := by simp [Value.ownBlock] at hq; exact hq.symm
      rw [this]; exact h36
    refine m5.swap (x := ⟨xo, xa, xn, xc⟩) (y := ⟨xo, a6, m6, c7⟩) Hx.out (ow6.setAt lvc_size (i := j) (j := 1) (x := ⟨xo, xa, xn, xc⟩) (y := ⟨xo, a6, m6, c7⟩) (u := .slice a6 m6 c7) Hx.out (by omega) rfl) (fun q h1 h2 h3 => ?_) Xo.out ?_ (by have := sz6.out; simp; omega) (fun q hq => ?_)
    · have : q ≠ b3 := fun e => h1 (by rw [e]; rfl)
      rw [heap_setCell this]
      exact key.out q h3 h2
    · refine Own.same O6.out fun q hq => heap_setCell ?_
      rcases f6'.out q hq with h | h
      · exact (Xb.out q h).2
      · have := bl5.out; omega
    · rcases f6'.out q hq with h | h
      · exact .inr h
      · have := sz6.out
        have := O6.out.ltb q hq
        exact .inl ⟨by omega, by simp; omega⟩
end Go.Proofs.YtpikopdfkhagmaaGreatDoor
