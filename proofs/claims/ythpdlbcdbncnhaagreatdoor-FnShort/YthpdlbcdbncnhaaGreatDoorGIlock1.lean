/-
  Locks: who waits where, as a map; what is right of them by
-/
import Derived.Test.YthpdlbcdbncnhaaGreatDoorGLock2
import Derived.Test.YthpdlbcdbncnhaaGreatDoorGBase2
import Derived.Test.YthpdlbcdbncnhaaGreatDoorGItask1
import Derived.Test.YthpdlbcdbncnhaaGreatDoorGBase1
import Derived.WalkMore
import Derived.Test.YthpdlbcdbncnhaaGreatDoorGLock3
namespace Go.Proofs.YthpdlbcdbncnhaaGreatDoor
open Go.RowKit
def addW (at_ : Int) (es : List (Int × Int)) (no : Int) : List (Int × Int) := if hasM es no then es else es ++ [(no, at_)]
def addL (at_ : Int) (es : List (Int × Int)) (ws : List Int) : List (Int × Int) := ws.foldl (addW at_) es
def qaW (ls : List Lk) : Nat -> List (Int × Int)
 | 0 => []
 | k + 1 => addL k (qaW ls k) (match ls[k]? with | some l => l.waits | none => [])
def qaM (ls : List Lk) : List (Int × Int) := qaW ls ls.length
theorem qeQ {ls : List Lk} {k : Nat} {l : Lk} (h : ls[k]? = some l) : qaW ls (k + 1) = addL k (qaW ls k) l.waits := by simp [qaW, h]
theorem qjh {at_ : Int} {es : List (Int × Int)} {ws : List Int} {j : Nat} {x : Int} (h : ws[j]? = some x) : addL at_ es (ws.take (j + 1)) = addW at_ (addL at_ es (ws.take j)) x := by
 unfold addL
 rw [List.take_add_one, h, List.foldl_append]
 rfl
theorem qf9 (a : Int) (es : List (Int × Int)) (no x : Int) : qaH (addW a es no) x = (qaH es x).or (if no == x then some a else none) := by
 unfold addW hasM
 cases h : qaH es no with
 | none =>
  simp only [Option.isSome_none, Bool.false_eq_true, if_false]
  rw [qh0, qh1]
 | some v =>
  simp only [Option.isSome_some, if_true]
  by_cases e : no = x
  ·subst e; rw [h]; rfl
  ·rw [if_neg (by simpa using e)]; simp
theorem qga (a : Int) : ∀ (ws : List Int) (es : List (Int × Int)) (x : Int), qaH (addL a es ws) x = (qaH es x).or (if hasB ws x then some a else none)
 | [], es, x => by simp [addL, hasB]
 | y :: r, es, x => by
  have ih := qga a r (addW a es y) x
  unfold addL at ih ⊢
  rw [List.foldl_cons, ih, qf9]
  have e : hasB (y :: r) x = ((y == x) || hasB r x) := by simp [hasB]
  rw [e]
  cases qaH es x with
  | some v => rfl
  | none => cases c : (y == x) <;> simp
theorem qeR (ls : List Lk) : ∀ (k : Nat), k <= ls.length -> ∀ x, qaH (qaW ls k) x = (qax (ls.take k) x).map fun i : Nat => (i : Int)
 | 0, _, x => by simp [qaW, qaH, qax]
 | k + 1, hk, x => by
  obtain ⟨l, hl⟩ := qak (xs := ls) (k := k) (by omega)
  rw [qeQ hl, qga, qeR ls k (by omega) x]
  unfold qax
  rw [List.take_add_one, hl, List.findIdx?_append]
  cases h : List.findIdx? (fun l => hasB l.waits x) (ls.take k) with
  | some i => rfl
  | none =>
   simp only [Option.toList_some, List.findIdx?_singleton, Option.map_none, Option.none_or, List.length_take]
   cases hb : hasB l.waits x
   ·rfl
   ·simp; omega
theorem qgb (ls : List Lk) (x : Int) : qaH (qaM ls) x = (qax ls x).map fun i : Nat => (i : Int) := by
 have := qeR ls ls.length (Nat.le_refl _) x
 rwa [List.take_length] at this
theorem qji {ls : List Lk} {x : Int} (h : qax ls x = none) : hasM (qaM ls) x = false := by unfold hasM; rw [qgb, h]; rfl
theorem qgc {ls : List Lk} {x : Int} {i : Nat} (h : qax ls x = some i) : hasM (qaM ls) x = true /\ valM (qaM ls) x = (i : Int) := by
 unfold hasM valM
 rw [qgb, h]
 exact ⟨rfl, rfl⟩
theorem qgd (a : Int) : ∀ (ws : List Int) (es : List (Int × Int)), (addL a es ws).length <= es.length + ws.length /\ ((addL a es ws).length = es.length + ws.length ↔ (∀ x ∈ ws, qaH es x = none) /\ ws.Nodup)
 | [], es => by simp [addL]
 | y :: r, es => by
  have ih := qgd a r (addW a es y)
  have e1 : addL a es (y :: r) = addL a (addW a es y) r := rfl
  rw [e1]
  cases h : qaH es y with
  | some v =>
   have e2 : addW a es y = es := by unfold addW hasM; rw [h]; rfl
   rw [e2] at ih ⊢
   refine ⟨by simp only [List.length_cons]; omega, fun hh => ?_, fun hh => ?_⟩
   ·simp only [List.length_cons] at hh; omega
   ·have := hh.1 y (List.mem_cons_self ..); rw [h] at this; cases this
  | none =>
   have e2 : addW a es y = es ++ [(y, a)] := by unfold addW hasM; rw [h]; rfl
   have e3 : (addW a es y).length = es.length + 1 := by rw [e2]; simp
   rw [e3] at ih
   refine ⟨by simp only [List.length_cons]; omega, ?_⟩
   have e4 : (addL a (addW a es y) r).length = es.length + (y :: r).length ↔ (addL a (addW a es y) r).length = es.length + 1 + r.length := by simp only [List.length_cons]; omega
   rw [e4, ih.2, List.nodup_cons]
   have e5 : ∀ x, qaH (addW a es y) x = none ↔ qaH es x = none /\ y ≠ x := by
    intro x
    rw [qf9]
    cases qaH es x with
    | some v => simp
    | none => by_cases c : y = x <;> simp [c]
   constructor
   ·rintro ⟨h1, h2⟩
    refine ⟨fun x hx => ?_, fun hm => ((e5 y).1 (h1 y hm)).2 rfl, h2⟩
    rcases List.mem_cons.1 hx with rfl | hx
    ·exact h
    ·exact ((e5 x).1 (h1 x hx)).1
   ·rintro ⟨h1, h2, h3⟩
    exact ⟨fun x hx => (e5 x).2 ⟨h1 x (List.mem_cons_of_mem _ hx), fun e => h2 (e ▸ hx)⟩, h3⟩
theorem qge (ls : List Lk) : ∀ k, k <= ls.length -> (qaW ls k).length <= sumW (ls.take k) /\ ((qaW ls k).length = sumW (ls.take k) ↔ (allW (ls.take k)).Nodup)
 | 0, _ => by simp [qaW, sumW, allW]
 | k + 1, hk => by
  obtain ⟨l, hl⟩ := qak (xs := ls) (k := k) (by omega)
  have ih := qge ls k (by omega)
  have h2 := qgd k l.waits (qaW ls k)
  have e0 : allW (ls.take (k + 1)) = allW (ls.take k) ++ l.waits := by rw [List.take_add_one, hl, qj2]; simp [allW]
  rw [qeQ hl, qdS hl, e0, List.nodup_append]
  refine ⟨by omega, ?_⟩
  have e1 : (addL k (qaW ls k) l.waits).length = sumW (ls.take k) + l.waits.length ↔ (addL k (qaW ls k) l.waits).length = (qaW ls k).length + l.waits.length /\ (qaW ls k).length = sumW (ls.take k) := by omega
  rw [e1, h2.2, ih.2]
  have e2 : ∀ x, qaH (qaW ls k) x = none ↔ x ∉ allW (ls.take k) := by
   intro x
   rw [qeR ls k (by omega), Option.map_eq_none_iff, qgs]
  constructor
  ·rintro ⟨⟨h3, h4⟩, h5⟩
   exact ⟨h5, h4, fun a ha b hb e => (e2 b).1 (h3 b hb) (e ▸ ha)⟩
  ·rintro ⟨h3, h4, h5⟩
   exact ⟨⟨fun x hx => (e2 x).2 fun hm => h5 x hm x hx rfl, h4⟩, h3⟩
theorem qgf (ls : List Lk) : (qaM ls).length <= sumW ls /\ ((qaM ls).length = sumW ls ↔ (allW ls).Nodup) := by
 have := qge ls ls.length (Nat.le_refl _)
 rwa [List.take_length] at this
def qbd (l : Lk) : Bool := l.waits.all (fun x => inB x 1 1000) && (inB l.owner 0 1000 && (!(l.owner == 0) || l.waits.length == 0))
theorem qjj (ls : List Lk) : (decide (ls.length <= 5) && (ls.all qbd && (decide ((qaM ls).length = sumW ls) && ls.all fun l => (qao ls (ls.length + 1) l.owner).2))) = qaw ls := by
 apply Bool.eq_iff_iff.2
 rw [qdW]
 simp only [Bool.and_eq_true, decide_eq_true_eq, List.all_eq_true, (qgf ls).2, qe1]
 have atm : ∀ {j : Nat} {l : Lk}, ls[j]? = some l -> l ∈ ls := fun h => List.mem_of_getElem? h
 constructor
 ·rintro ⟨h1, h2, h3, h4⟩
  have key : ∀ l ∈ ls, (∀ x ∈ l.waits, 1 <= x /\ x <= 1000) /\ (0 <= l.owner /\ l.owner <= 1000) /\ (l.owner = 0 -> l.waits = []) := by
   intro l hl
   have := h2 l hl
   simp only [qbd, Bool.and_eq_true, List.all_eq_true, qau, Bool.or_eq_true, Bool.not_eq_true', beq_eq_false_iff_ne, beq_iff_eq, List.length_eq_zero_iff] at this
   refine ⟨this.1, this.2.1, fun e => ?_⟩
   rcases this.2.2 with h | h
   ·exact absurd e h
   ·exact h
  refine ⟨h1, fun j l hl => (key l (atm hl)).2.1, fun j l hl => (key l (atm hl)).2.2, fun j l x hl hx => (key l (atm hl)).1 x (qcE.1 hx), fun j l x hl hx => ?_, fun j l x hl hx => ?_⟩
  ·rw [qe0]; exact h3 x (qdw.2 ⟨j, l, hl, hx⟩)
  ·cases hw : qax ls x with
   | none => exact absurd (qdw.2 ⟨j, l, hl, hx⟩) (qgs.1 hw)
   | some i =>
    obtain ⟨m, hm, -, -⟩ := qc1 hw
    obtain ⟨c, hc⟩ := qe8.1 (h4 m (atm hm))
    exact ⟨_, Ends.step hw (by rw [qbK hm]; exact hc)⟩
 ·intro R
  have mem : ∀ {l : Lk}, l ∈ ls -> ∃ j : Nat, ls[j]? = some l := fun hl => by
   obtain ⟨j, hj, rfl⟩ := List.mem_iff_getElem.1 hl
   exact ⟨j, List.getElem?_eq_getElem hj⟩
  refine ⟨R.len, fun l hl => ?_, fun x hx => ?_, fun l hl => ?_⟩
  ·obtain ⟨j, hj⟩ := mem hl
   simp only [qbd, Bool.and_eq_true, List.all_eq_true, qau, Bool.or_eq_true, Bool.not_eq_true', beq_eq_false_iff_ne, beq_iff_eq, List.length_eq_zero_iff]
   refine ⟨fun x hx => R.no j l x hj (qcE.2 hx), R.owner j l hj, ?_⟩
   by_cases e : l.owner = 0
   ·exact .inr (R.free j l hj e)
   ·exact .inl e
  ·obtain ⟨j, l, hj, hx⟩ := qdw.1 hx
   rw [<- qe0]; exact R.once j l x hj hx
  ·rw [qe8]
   cases hw : qax ls l.owner with
   | none => exact ⟨_, Ends.stop hw⟩
   | some i =>
    obtain ⟨m, hm, hx, -⟩ := qc1 hw
    exact R.ends i m l.owner hm hx
variable {p : Bool}
attribute [local go_sem] Keeps.refl Keeps.alloc Keeps.drew Keeps.drewN
set_option maxRecDepth 100000 in
theorem qdR (w : World) : (zeroValue 3).run Tryz.prog w = .ok (.int .i64 0) w := by kernel_rfl
set_option maxRecDepth 100000 in
set_option maxHeartbeats 1000000 in
theorem qjk (a : Option Addr) (cap : Nat) (ls : List Lk) (w : World) (hl : qaj ls <= 2097152) (hs : Lks p w a ls) :
  Calls Tryz.prog 208 #[.slice a ls.length cap] w fun e w' => e = .returned (.int .i64 (sumW ls)) /\ Keeps w w' := by
 have HL : Hid (qaj ls <= 2097152) := hl
 have hl0 : ls.length <= 2097152 := by unfold qaj at hl; omega
 clear hl
 generalize hn : ls.length = n at hl0
 have Hn : Hid (ls.length = n) := hn
 clear hn
 go_enter Tryz.func208, Tryz.ntmps208
 go_wp2
 go_loopw [3, 8] (fun c i wr => ∃ (k q : Nat), k <= n /\ i = .int .i64 k /\ c = .int .i64 q /\ Hid (sumW (ls.take k) = q) /\ q <= 2097152 /\ Keeps w wr) (fun _ i _ => n - (intOf i).toNat)
 case atStart => exact ⟨0, 0, Nat.zero_le _, rfl, rfl, by show _ = _; simp [sumW], by omega, Keeps.refl _⟩
 case round =>
  obtain ⟨k, q, hk, rfl, rfl, Hq, hq1, hK⟩ := hrel
  by_cases hlt : k < n
  ·obtain ⟨l, hl1⟩ := qak (xs := ls) (k := k) (by rw [Hn.out]; exact hlt)
   obtain ⟨b, off, a', cap', rfl, r0, r1, hle, hns⟩ := hs.at hl1
   have hlt' : (k : Int) < (n : Int) := by omega
   have Hl : Hid (ls[k]? = some l) := hl1
   have hw2 : Hid (q + l.waits.length <= 2097152) := by
    show _ <= _
    have h1 := qdS hl1
    have h2 := qeX ls (k + 1)
    have h4 := HL.out
    rw [Hq.out] at h1
    unfold qaj at h4
    omega
   clear hl1 hle hns hs
   obtain ⟨m, Hm⟩ : ∃ m : Nat, Hid (l.waits.length = m) := ⟨_, rfl⟩
   have hm2 : q + m <= 2097152 := by rw [<- Hm.out]; exact hw2.out
   rw [Hm.out] at r1
   go_wp2
   exact ⟨⟨k + 1, q + m, by omega, by go_num, by go_num, by show _ = _; rw [qdS Hl.out, Hq.out, Hm.out], by omega, hK.alloc _⟩, by simp only [intOf]; omega⟩
  ·have e : k = n := by omega
   subst e
   have Hr : Hid (sumW ls = q) := by show _ = _; rw [<- Hq.out, <- Hn.out, List.take_length]
   go_wp2
   go_ret
   exact ⟨by rw [Hr.out]; rfl, hK⟩
set_option maxRecDepth 100000 in
set_option maxHeartbeats 4000000 in
theorem qjl (a : Option Addr) (cap : Nat) (ls : List Lk) (w : World) (hl : qaj ls <= 2097152) (hs : Lks p w a ls) :
  Calls Tryz.prog 207 #[.slice a ls.length cap] w fun e w' => e = .returned (.map (some w.heap.size)) /\ MapI w' w.heap.size (qaM ls) /\ Keeps w w' := by
 have HL : Hid (qaj ls <= 2097152) := hl
 have hl0 : ls.length <= 2097152 := by unfold qaj at hl; omega
 clear hl
 have HS : Hid (Lks p w a ls) := hs
 clear hs
 generalize hn : ls.length = n at hl0
 have Hn : Hid (ls.length = n) := hn
 clear hn
 have hmm := @run_makeMap Tryz.prog
 go_enter Tryz.func207, Tryz.ntmps207
 go_wp2
 clear hmm
 have kz : Hid (Keeps w (w.alloc (.map #[] 0))) := (Keeps.refl _).alloc _
 have M0 : Hid (MapI (w.alloc (.map #[] 0)) w.heap.size []) := MapI.made w
 generalize w.alloc (.map #[] 0) = W at *
 go_loopw [13] (fun i wr => ∃ (k : Nat), k <= n /\ i = .int .i64 k /\ Hid (MapI wr w.heap.size (qaW ls k)) /\ Keeps w wr) (fun i _ => n - (intOf i).toNat)
 case atStart => exact ⟨0, Nat.zero_le _, rfl, M0, kz.out⟩
 case round =>
  obtain ⟨k, hk, rfl, M, hK⟩ := hrel
  clear M0 kz
  by_cases hlt : k < n
  ·obtain ⟨l, hl1⟩ := qak (xs := ls) (k := k) (by rw [Hn.out]; exact hlt)
   obtain ⟨b, off, a', cap', rfl, r0, r1, hle, hns⟩ := HS.out.at hl1
   have hlt' : (k : Int) < (n : Int) := by omega
   have Hl : Hid (ls[k]? = some l) := hl1
   have hw1 : Hid (l.waits.length <= 2097152) := by show _ <= _; have := qcW hl1; have := HL.out; unfold qaj at this; omega
   clear hl1 hle
   obtain ⟨m, Hm⟩ : ∃ m : Nat, Hid (l.waits.length = m) := ⟨_, rfl⟩
   have hm1 : m <= 2097152 := by rw [<- Hm.out]; exact hw1.out
   rw [Hm.out] at r1
   have M1 : Hid (∀ o, MapI (wr.alloc o) w.heap.size (qaW ls k)) := fun o => M.out.keeps ((Keeps.refl wr).alloc o)
   go_wp2
   go_loopw [21] (fun i w2 => ∃ (j : Nat), j <= m /\ i = .int .i64 j /\ Hid (MapI w2 w.heap.size (addL k (qaW ls k) (l.waits.take j))) /\ Keeps w w2) (fun i _ => m - (intOf i).toNat)
   case atStart => exact ⟨0, Nat.zero_le _, rfl, M1.out _, hK.alloc _⟩
   case round =>
    obtain ⟨j, hj, rfl, M2, hK2⟩ := hrel
    clear M M1
    by_cases hlt2 : j < m
    ·obtain ⟨x, hx⟩ := qak (xs := l.waits) (k := j) (by rw [Hm.out]; exact hlt2)
     obtain ⟨b2, off2, rfl, x0⟩ := hns.at hx
     have hlt3 : (j : Int) < (m : Int) := by omega
     have Hx : Hid (l.waits[j]? = some x) := hx
     clear hns hx
     obtain ⟨E, HE⟩ : ∃ E, Hid (addL k (qaW ls k) (l.waits.take j) = E) := ⟨_, rfl⟩
     rw [HE.out] at M2
     have HN : Hid (addL k (qaW ls k) (l.waits.take (j + 1)) = addW k E x) := by show _ = _; rw [qjh Hx.out, HE.out]
     obtain ⟨v, Hv⟩ : ∃ v, Hid (valM E x = v) := ⟨_, rfl⟩
     cases hq : hasM E x
     ·have Hq : Hid (qaH E x = none) := by show _ = _; unfold hasM at hq; simpa using hq
      have HQ : Hid (hasM E x = false) := hq
      have HA : Hid (addW k E x = E ++ [(x, (k : Int))]) := by show _ = _; unfold addW; rw [hq]; rfl
      clear hq
      go_wp2_with (first
       | (at_lookup; refine qdP rfl _ _ 243 rfl 3 3 Tryz.underlying243 Tryz.underlying3 (qdR _) w.heap.size E rfl M2.out x rfl v false Hv.out HQ.out ?_)
       | (at_mapUpdate; refine qh3 rfl _ _ _ 243 rfl 3 3 Tryz.underlying243 Tryz.underlying3 w.heap.size E rfl M2.out x k rfl rfl Hq.out ?_; intro w5 m5 g5; have M5 : Hid (MapI w5 w.heap.size (E ++ [(x, (k : Int))])) := m5; have K5 : Hid (Keeps w w5) := hK2.grown g5 (by rintro q ⟨⟩; exact Nat.le_refl _); clear m5 g5))
      exact ⟨⟨j + 1, by omega, by go_num, by show MapI _ _ _; rw [HN.out, HA.out]; exact M5.out, K5.out⟩, by simp only [intOf]; omega⟩
     ·have HQ : Hid (hasM E x = true) := hq
      have HA : Hid (addW k E x = E) := by show _ = _; unfold addW; rw [hq]; rfl
      clear hq
      go_wp2_with (first
       | (at_lookup; refine qdP rfl _ _ 243 rfl 3 3 Tryz.underlying243 Tryz.underlying3 (qdR _) w.heap.size E rfl M2.out x rfl v true Hv.out HQ.out ?_))
      exact ⟨⟨j + 1, by omega, by go_num, by show MapI _ _ _; rw [HN.out, HA.out]; exact M2.out, hK2⟩, by simp only [intOf]; omega⟩
    ·have e : j = m := by omega
     subst e
     have HN : Hid (qaW ls (k + 1) = addL k (qaW ls k) (l.waits.take j)) := by show _ = _; rw [qeQ Hl.out, <- Hm.out, List.take_length]
     go_wp2
     exact ⟨⟨k + 1, by omega, by go_num, by show MapI _ _ _; rw [HN.out]; exact M2.out, hK2⟩, by simp only [intOf]; omega⟩
  ·have e : k = n := by omega
   subst e
   have HR : Hid (qaW ls k = qaM ls) := by show _ = _; unfold qaM; rw [Hn.out]
   rw [HR.out] at M
   go_wp2
   go_ret
   exact ⟨rfl, M.out, hK⟩
def qgg : Value -> Nat
 | .slice _ n _ => n
 | _ => 0
set_option maxRecDepth 100000 in
set_option maxHeartbeats 4000000 in
theorem qjm (B : Nat) (a : Option Addr) (cap : Nat) (ls : List Lk) (no : Int) (w : World) (hl : ls.length <= 2097152) (hs : Lks p w a ls) (hm : MapI w B (qaM ls)) :
  Calls Tryz.prog 226 #[.map (some B), .int .i64 no, .slice a ls.length cap] w fun e w' => ∃ v, e = .returned (.tuple #[v, .bool (qao ls (ls.length + 1) no).2]) /\ ((qao ls (ls.length + 1) no).2 = true -> OwnN w' w.heap.size v (qao ls (ls.length + 1) no).1) /\ Keeps w w' := by
 have HS : Hid (Lks p w a ls) := hs
 have HM : Hid (MapI w B (qaM ls)) := hm
 clear hs hm
 generalize hn : ls.length = n at hl
 have Hn : Hid (ls.length = n) := hn
 clear hn
 obtain ⟨C, HC⟩ : ∃ C, Hid (qao ls (n + 1) no = C) := ⟨_, rfl⟩
 rw [HC.out]
 go_enter Tryz.func226, Tryz.ntmps226
 go_wp2
 go_step3
 go_wp2
 go_step3
 go_wp2
 have kz : Hid (Keeps w (w.alloc (.cells #[.int .i64 no] 3))) := (Keeps.refl _).alloc _
 have own0 : Hid (OwnN (w.alloc (.cells #[.int .i64 no] 3)) w.heap.size (.slice (some ⟨w.heap.size, 0, none⟩) 1 1) ([] ++ [no])) := World.ownsRow_lit w #[.int .i64 no] 1 (Nat.le_refl _) (by unfold maxLen; omega) rfl
 generalize w.alloc (.cells #[.int .i64 no] 3) = W at *
 go_loopw [1, 8] (fun c v wr => ∃ (done : List Int) (cur : Int), done.length <= n /\ c = .int .i64 cur /\ Hid (OwnN wr w.heap.size v (done ++ [cur])) /\ Keeps w wr /\ Hid (C = (done ++ (qao ls (n + 1 - done.length) cur).1, (qao ls (n + 1 - done.length) cur).2))) (fun _ v _ => n + 1 - qgg v)
 case atStart => exact ⟨[], no, Nat.zero_le _, rfl, own0, kz.out, by show _ = _; rw [<- HC.out]; simp⟩
 case round =>
  obtain ⟨done, cur, hd, rfl, own, hK, HI⟩ := hrel
  clear own0 kz
  obtain ⟨k, Hk⟩ : ∃ k, Hid (done.length = k) := ⟨_, rfl⟩
  have hd' : k <= n := by rw [<- Hk.out]; exact hd
  clear hd
  rw [Hk.out] at HI
  obtain ⟨av, cv, ev, -, -, -⟩ := OwnN.ns own.out
  have el : Hid ((done ++ [cur]).length = k + 1) := by show _ = _; simp [Hk.out]
  rw [el.out] at ev
  subst ev
  obtain ⟨f, Hf⟩ : ∃ f, Hid (n + 1 - k = f + 1) := ⟨n - k, by show _ = _; omega⟩
  have HI2 : Hid (C = (done ++ (qao ls (f + 1) cur).1, (qao ls (f + 1) cur).2)) := by show _ = _; rw [<- Hf.out]; exact HI.out
  have MM : Hid (MapI wr B (qaM ls)) := HM.out.keeps hK
  cases hx : qax ls cur with
  | none =>
   have HQ : Hid (hasM (qaM ls) cur = false) := qji hx
   obtain ⟨v, Hv⟩ : ∃ v, Hid (valM (qaM ls) cur = v) := ⟨_, rfl⟩
   have HR : Hid (C = (done ++ [cur], true)) := by show _ = _; rw [HI2.out, qdy hx]
   go_wp2_with (first
    | (at_lookup; refine qdP rfl _ _ 243 rfl 3 3 Tryz.underlying243 Tryz.underlying3 (qdR _) B (qaM ls) rfl MM.out cur rfl v false Hv.out HQ.out ?_))
   rw [Exit.noGoto_ret]
   go_ret2
   exact ⟨_, by rw [HR.out]; rfl, fun _ => by rw [HR.out]; exact own.out, hK⟩
  | some i =>
   have HQ : Hid (hasM (qaM ls) cur = true) := (qgc hx).1
   have Hv : Hid (valM (qaM ls) cur = (i : Int)) := (qgc hx).2
   obtain ⟨l, hl1, -, -⟩ := qc1 hx
   have Hi : Hid (i < n) := by show _ < _; have := qat hl1; rw [Hn.out] at this; exact this
   have hi1 : (i : Int) < (n : Int) := by have := Hi.out; omega
   obtain ⟨b, off, a', cap', rfl, r0, r1, -, -⟩ := HS.out.at hl1
   have HR : Hid (C = ((done ++ [cur]) ++ (qao ls f l.owner).1, (qao ls f l.owner).2)) := by
    show _ = _
    rw [HI2.out, qdz hx, qbK hl1]
    simp
   clear hl1 r1
   by_cases hlt : k < n
   ·have hlt' : ¬ ((n : Int) < (k : Int) + 1) := by omega
    have hlt2 : decide ((n : Int) < (k : Int) + 1) = false := by simpa using hlt'
    go_wp2_with (first
     | (at_lookup; refine qdP rfl _ _ 243 rfl 3 3 Tryz.underlying243 Tryz.underlying3 (qdR _) B (qaM ls) rfl MM.out cur rfl (i : Int) true Hv.out HQ.out ?_)
     | (at_builtin; (refine qbk rfl _ _ 25 rfl w 3 (.int .i64 0) 1 8 ic Tryz.underlying25 (by kernel_rfl) rfl (by decide) qa3 qcP _ (done ++ [cur]) rfl wr own.out hK ((Keeps.refl _).alloc _) l.owner _ 1 (Blk.new _ _ _) rfl ?c1 ?c2 ?_)))
    case c1 => have := Hk.out; unfold maxLen; omega
    case c2 => have := Hk.out; omega
    intro v' w5 own5 k5 _
    have HO : Hid (OwnN w5 w.heap.size v' (done ++ [cur] ++ [l.owner])) := by show OwnN _ _ _ _; simpa using own5
    clear own5 own
    go_wp2
    refine ⟨⟨done ++ [cur], l.owner, by rw [el.out]; omega, rfl, HO, k5, ?_⟩, ?_⟩
    ·show _ = _
     rw [HR.out, el.out, show n + 1 - (k + 1) = f from by have := Hf.out; omega]
    ·obtain ⟨a6, c6, e6, -, -, -⟩ := OwnN.ns HO.out
     rw [e6, List.length_append, el.out]
     simp only [qgg, List.length_singleton]
     omega
   ·have e : k = n := by omega
    have hlt' : ((n : Int) < (k : Int) + 1) := by omega
    have Hff : Hid (C.2 = false) := by show _ = _; rw [HR.out, show f = 0 from by have := Hf.out; omega]; rfl
    go_wp2_with (first
     | (at_lookup; refine qdP rfl _ _ 243 rfl 3 3 Tryz.underlying243 Tryz.underlying3 (qdR _) B (qaM ls) rfl MM.out cur rfl (i : Int) true Hv.out HQ.out ?_))
    rw [Exit.noGoto_ret]
    go_ret2
    exact ⟨_, by rw [Hff.out]; rfl, fun h => (by rw [Hff.out] at h; cases h), hK⟩
variable {p : Bool}
attribute [local go_sem] Keeps.refl Keeps.alloc Keeps.drew Keeps.drewN
theorem qjn {l : Lk} {k : Nat} {x : Int} (hx : l.waits[k]? = some x) (h : inB x 1 1000 = false) : qbd l = false := by
 unfold qbd
 have : l.waits.all (fun x => inB x 1 1000) = false := by
  rw [List.all_eq_false]
  exact ⟨x, List.mem_of_getElem? hx, by rw [h]; simp⟩
 rw [this]; rfl
theorem qjo {l : Lk} (H : ∀ (j : Nat) (x : Int), l.waits[j]? = some x -> inB x 1 1000 = true) : qbd l = (inB l.owner 0 1000 && (!(l.owner == 0) || l.waits.length == 0)) := by
 unfold qbd
 have : l.waits.all (fun x => inB x 1 1000) = true := by
  rw [List.all_eq_true]
  intro x hx
  obtain ⟨j, hj, rfl⟩ := List.mem_iff_getElem.1 hx
  exact H j _ (List.getElem?_eq_getElem hj)
 rw [this]; rfl
set_option maxRecDepth 100000 in
set_option maxHeartbeats 2000000 in
theorem qjp (o : Int) (a : Option Addr) (cap : Nat) (xs : List Int) (w : World) (hl : xs.length <= maxLen) (hs : Ns w a xs) :
  Calls Tryz.prog 233 #[.agg #[.int .i64 o, .slice a xs.length cap]] w fun e w' => e = .returned (.bool (qbd ⟨o, xs⟩)) /\ Keeps w w' := by
 unfold maxLen at hl
 generalize hn : xs.length = n at hl
 have Hn : Hid (xs.length = n) := hn
 clear hn
 go_enter Tryz.func233, Tryz.ntmps233
 go_wp2
 go_loopw [8] (fun i wr => ∃ k : Nat, k <= n /\ i = .int .i64 k /\ wr = w.alloc (.cells #[.int .i64 o, .slice a n cap] 104) /\ Hid (∀ (j : Nat) (y : Int), j < k -> xs[j]? = some y -> inB y 1 1000 = true)) (fun i _ => n - (intOf i).toNat)
 case atStart => exact ⟨0, Nat.zero_le _, rfl, rfl, fun j y hj => by omega⟩
 case round =>
  obtain ⟨k, hk, rfl, rfl, H⟩ := hrel
  by_cases hlt : k < n
  ·obtain ⟨y, hy⟩ := qak (xs := xs) (k := k) (by rw [Hn.out]; exact hlt)
   obtain ⟨b, off, rfl, r0⟩ := hs.at hy
   have hlt' : (k : Int) < (n : Int) := by omega
   have Hy : Hid (xs[k]? = some y) := hy
   clear hs hy
   cases hq : inB y 1 1000
   ·have Hr : Hid (qbd ⟨o, xs⟩ = false) := qjn (l := ⟨o, xs⟩) Hy.out hq
    go_wp2_with (go_at_call 104; refine (qaO _ _ _ _).mono ?_; rintro e w' ⟨rfl, hw'⟩; have hw2 := hw'.symm; subst hw2; rw [hq])
    go_ret
    exact ⟨by rw [Hr.out]; rfl, (Keeps.refl _).alloc _⟩
   ·go_wp2_with (go_at_call 104; refine (qaO _ _ _ _).mono ?_; rintro e w' ⟨rfl, hw'⟩; have hw2 := hw'.symm; subst hw2; rw [hq])
    exact ⟨⟨k + 1, by omega, by go_num, by first | rfl | trivial, fun j s hj hs => by
     by_cases e : j = k
     ·subst e; rw [Hy.out] at hs; cases hs; exact hq
     ·exact H.out j s (by omega) hs⟩, by simp only [intOf]; omega⟩
  ·have Hr : Hid (qbd ⟨o, xs⟩ = (inB o 0 1000 && (!(o == 0) || n == 0))) := by
    show _ = _
    rw [qjo (l := ⟨o, xs⟩) fun j y hy => H.out j y (by have := qat hy; rw [Hn.out] at this; omega) hy]
    simp only [Hn.out]
   clear H
   cases hq : inB o 0 1000
   ·have Hz : Hid (qbd ⟨o, xs⟩ = false) := by show _ = _; rw [Hr.out, hq]; rfl
    go_wp2_with (go_at_call 104; refine (qaO _ _ _ _).mono ?_; rintro e w' ⟨rfl, hw'⟩; have hw2 := hw'.symm; subst hw2; rw [hq])
    go_ret
    exact ⟨by rw [Hz.out]; rfl, (Keeps.refl _).alloc _⟩
   ·have eq0 : (o == 0) = !(o != 0) := by simp [bne]
    cases h0 : (o != 0)
    ·cases h1 : ((n : Int) == 0)
     ·have Hz : Hid (qbd ⟨o, xs⟩ = false) := by show _ = _; rw [Hr.out, hq, eq0, h0]; simp at h1 ⊢; omega
      go_wp2_with (go_at_call 104; refine (qaO _ _ _ _).mono ?_; rintro e w' ⟨rfl, hw'⟩; have hw2 := hw'.symm; subst hw2; rw [hq])
      go_ret
      exact ⟨by rw [Hz.out]; rfl, (Keeps.refl _).alloc _⟩
     ·have Hz : Hid (qbd ⟨o, xs⟩ = true) := by show _ = _; rw [Hr.out, hq, eq0, h0]; simp at h1 ⊢; omega
      go_wp2_with (go_at_call 104; refine (qaO _ _ _ _).mono ?_; rintro e w' ⟨rfl, hw'⟩; have hw2 := hw'.symm; subst hw2; rw [hq])
      go_ret
      exact ⟨by rw [Hz.out]; rfl, (Keeps.refl _).alloc _⟩
    ·have Hz : Hid (qbd ⟨o, xs⟩ = true) := by show _ = _; rw [Hr.out, hq, eq0, h0]; rfl
     go_wp2_with (go_at_call 104; refine (qaO _ _ _ _).mono ?_; rintro e w' ⟨rfl, hw'⟩; have hw2 := hw'.symm; subst hw2; rw [hq])
     go_ret
     exact ⟨by rw [Hz.out]; rfl, (Keeps.refl _).alloc _⟩
def qcb (ls : List Lk) : Bool := ls.all qbd
theorem qjq {ls : List Lk} {k : Nat} {l : Lk} (hl : ls[k]? = some l) (h : qbd l = false) : qcb ls = false := by
 unfold qcb
 rw [List.all_eq_false]
 exact ⟨l, List.mem_of_getElem? hl, by rw [h]; simp⟩
theorem qjr {ls : List Lk} (H : ∀ (j : Nat) (l : Lk), ls[j]? = some l -> qbd l = true) : qcb ls = true := by
 unfold qcb
 rw [List.all_eq_true]
 intro l hl
 obtain ⟨j, hj, rfl⟩ := List.mem_iff_getElem.1 hl
 exact H j _ (List.getElem?_eq_getElem hj)
set_option maxRecDepth 100000 in
set_option maxHeartbeats 2000000 in
theorem qjs (a : Option Addr) (cap : Nat) (ls : List Lk) (w : World) (hl : ls.length <= maxLen) (hs : Lks p w a ls) :
  Calls Tryz.prog 206 #[.slice a ls.length cap] w fun e w' => e = .returned (.bool (qcb ls)) /\ Keeps w w' := by
 unfold maxLen at hl
 generalize hn : ls.length = n at hl
 have Hn : Hid (ls.length = n) := hn
 clear hn
 go_enter Tryz.func206, Tryz.ntmps206
 go_wp2
 go_loopw [7] (fun i wr => ∃ k : Nat, k <= n /\ i = .int .i64 k /\ Keeps w wr /\ Hid (∀ (j : Nat) (m : Lk), j < k -> ls[j]? = some m -> qbd m = true)) (fun i _ => n - (intOf i).toNat)
 case atStart => exact ⟨0, Nat.zero_le _, rfl, Keeps.refl _, fun j y hj => by omega⟩
 case round =>
  obtain ⟨k, hk, rfl, hK, H⟩ := hrel
  by_cases hlt : k < n
  ·obtain ⟨l, hl1⟩ := qak (xs := ls) (k := k) (by rw [Hn.out]; exact hlt)
   obtain ⟨b, off, a', cap', rfl, r0, r1, hle, hns⟩ := hs.at hl1
   have hlt' : (k : Int) < (n : Int) := by omega
   have Hl : Hid (ls[k]? = some l) := hl1
   have Hle : Hid (l.waits.length <= maxLen) := hle
   have N1 : Hid (Ns w a' l.waits) := hns
   clear hs hl1 hle hns
   obtain ⟨q, Hq⟩ : ∃ q, Hid (qbd l = q) := ⟨_, rfl⟩
   have C1 : ∀ o, Calls Tryz.prog 233 #[.agg #[.int .i64 l.owner, .slice a' l.waits.length cap']] (wr.alloc o) fun e w' => e = .returned (.bool q) /\ Keeps (wr.alloc o) w' := fun o => by
    have := qjp l.owner a' cap' l.waits (wr.alloc o) Hle.out (N1.out.keeps (hK.alloc o))
    rwa [show (⟨l.owner, l.waits⟩ : Lk) = l from rfl, Hq.out] at this
   have HC1 : Hid (∀ o, Calls Tryz.prog 233 #[.agg #[.int .i64 l.owner, .slice a' l.waits.length cap']] (wr.alloc o) fun e w' => e = .returned (.bool q) /\ Keeps (wr.alloc o) w') := C1
   clear C1
   cases q
   ·have Hr : Hid (qcb ls = false) := qjq Hl.out Hq.out
    go_wp2_with (go_at_call 233; refine (HC1.out _).mono ?_; rintro e w1 ⟨rfl, k1⟩)
    go_ret
    exact ⟨by rw [Hr.out]; rfl, (hK.alloc _).trans k1⟩
   ·go_wp2_with (go_at_call 233; refine (HC1.out _).mono ?_; rintro e w1 ⟨rfl, k1⟩)
    exact ⟨⟨k + 1, by omega, by go_num, (hK.alloc _).trans k1, fun j s hj hs => by
     by_cases e : j = k
     ·subst e; rw [Hl.out] at hs; cases hs; exact Hq.out
     ·exact H.out j s (by omega) hs⟩, by simp only [intOf]; omega⟩
  ·have Hr : Hid (qcb ls = true) := qjr fun j m hm => H.out j m (by have := qat hm; rw [Hn.out] at this; omega) hm
   go_wp2
   go_ret
   exact ⟨by rw [Hr.out]; rfl, hK⟩
def qbQ (ls : List Lk) : Bool := ls.all fun l => (qao ls (ls.length + 1) l.owner).2
theorem qjt {ls : List Lk} {k : Nat} {l : Lk} (hl : ls[k]? = some l) (h : (qao ls (ls.length + 1) l.owner).2 = false) : qbQ ls = false := by
 unfold qbQ
 rw [List.all_eq_false]
 exact ⟨l, List.mem_of_getElem? hl, by rw [h]; simp⟩
theorem qju {ls : List Lk} (H : ∀ (j : Nat) (l : Lk), ls[j]? = some l -> (qao ls (ls.length + 1) l.owner).2 = true) : qbQ ls = true := by
 unfold qbQ
 rw [List.all_eq_true]
 intro l hl
 obtain ⟨j, hj, rfl⟩ := List.mem_iff_getElem.1 hl
 exact H j _ (List.getElem?_eq_getElem hj)
set_option maxRecDepth 100000 in
set_option maxHeartbeats 2000000 in
theorem qjv (B : Nat) (a : Option Addr) (cap : Nat) (ls : List Lk) (w : World) (hl : ls.length <= 2097152) (hs : Lks p w a ls) (hm : MapI w B (qaM ls)) :
  Calls Tryz.prog 209 #[.slice a ls.length cap, .map (some B)] w fun e w' => e = .returned (.bool (qbQ ls)) /\ Keeps w w' := by
 have HS : Hid (Lks p w a ls) := hs
 have CF : Hid (∀ no w', Keeps w w' -> Calls Tryz.prog 226 #[.map (some B), .int .i64 no, .slice a ls.length cap] w' fun e w'' => ∃ v, e = .returned (.tuple #[v, .bool (qao ls (ls.length + 1) no).2]) /\ ((qao ls (ls.length + 1) no).2 = true -> OwnN w'' w'.heap.size v (qao ls (ls.length + 1) no).1) /\ Keeps w' w'') := fun no w' k => qjm B a cap ls no w' hl (hs.keeps k) (hm.keeps k)
 clear hs hm
 have HE : Hid (∀ (k : Nat) (l : Lk), ls[k]? = some l -> (qao ls (ls.length + 1) l.owner).2 = false -> qbQ ls = false) := fun k l => qjt
 have HO : Hid ((∀ (j : Nat) (l : Lk), ls[j]? = some l -> (qao ls (ls.length + 1) l.owner).2 = true) -> qbQ ls = true) := qju
 generalize hn : ls.length = n at *
 have Hn : Hid (ls.length = n) := hn
 clear hn
 go_enter Tryz.func209, Tryz.ntmps209
 go_wp2
 go_loopw [11] (fun i wr => ∃ k : Nat, k <= n /\ i = .int .i64 k /\ Keeps w wr /\ Hid (∀ (j : Nat) (m : Lk), j < k -> ls[j]? = some m -> (qao ls (n + 1) m.owner).2 = true)) (fun i _ => n - (intOf i).toNat)
 case atStart => exact ⟨0, Nat.zero_le _, rfl, Keeps.refl _, fun j y hj => by omega⟩
 case round =>
  obtain ⟨k, hk, rfl, hK, H⟩ := hrel
  by_cases hlt : k < n
  ·obtain ⟨l, hl1⟩ := qak (xs := ls) (k := k) (by rw [Hn.out]; exact hlt)
   obtain ⟨b, off, a', cap', rfl, r0, r1, -, -⟩ := HS.out.at hl1
   have hlt' : (k : Int) < (n : Int) := by omega
   have Hl : Hid (ls[k]? = some l) := hl1
   clear hl1
   obtain ⟨q, Hq⟩ : ∃ q, Hid ((qao ls (n + 1) l.owner).2 = q) := ⟨_, rfl⟩
   have C1 : Hid (∀ o, Calls Tryz.prog 226 #[.map (some B), .int .i64 l.owner, .slice (some ⟨b, off, none⟩) n cap] (wr.alloc o) fun e w' => ∃ v, e = .returned (.tuple #[v, .bool q]) /\ Keeps (wr.alloc o) w') := fun o => by
    refine (CF.out l.owner (wr.alloc o) (hK.alloc o)).mono ?_
    rintro e w' ⟨v, rfl, -, k'⟩
    rw [Hq.out]
    exact ⟨v, rfl, k'⟩
   cases q
   ·have Hr : Hid (qbQ ls = false) := HE.out k l Hl.out Hq.out
    go_wp2_with (go_at_call 226; refine (C1.out _).mono ?_; rintro e w1 ⟨v, rfl, k1⟩)
    go_ret
    exact ⟨by rw [Hr.out]; rfl, (hK.alloc _).trans k1⟩
   ·go_wp2_with (go_at_call 226; refine (C1.out _).mono ?_; rintro e w1 ⟨v, rfl, k1⟩)
    exact ⟨⟨k + 1, by omega, by go_num, (hK.alloc _).trans k1, fun j s hj hs => by
     by_cases e : j = k
     ·subst e; rw [Hl.out] at hs; cases hs; exact Hq.out
     ·exact H.out j s (by omega) hs⟩, by simp only [intOf]; omega⟩
  ·have Hr : Hid (qbQ ls = true) := HO.out fun j m hm => H.out j m (by have := qat hm; rw [Hn.out] at this; omega) hm
   go_wp2
   go_ret
   exact ⟨by rw [Hr.out]; rfl, hK⟩
theorem qjw (ls : List Lk) : (decide (ls.length <= 5) && (qcb ls && (decide ((qaM ls).length = sumW ls) && qbQ ls))) = qaw ls := qjj ls
set_option maxRecDepth 100000 in
set_option maxHeartbeats 2000000 in
theorem qjx (a : Option Addr) (cap : Nat) (ls : List Lk) (w : World) (hl : qaj ls <= 2097152) (hs : Lks p w a ls) :
  Calls Tryz.prog 174 #[.slice a ls.length cap] w fun e w' => e = .returned (.bool (qaw ls)) /\ Keeps w w' := by
 have hl0 : ls.length <= 2097152 := by unfold qaj at hl; omega
 have E1 : Hid (∀ w', Keeps w w' -> Calls Tryz.prog 206 #[.slice a ls.length cap] w' fun e w'' => e = .returned (.bool (qcb ls)) /\ Keeps w' w'') := fun w' k => qjs a cap ls w' (by unfold maxLen; omega) (hs.keeps k)
 have E2 : Hid (∀ w', Keeps w w' -> Calls Tryz.prog 207 #[.slice a ls.length cap] w' fun e w'' => e = .returned (.map (some w'.heap.size)) /\ MapI w'' w'.heap.size (qaM ls) /\ Keeps w' w'') := fun w' k => qjl a cap ls w' hl (hs.keeps k)
 have E3 : Hid (∀ w', Keeps w w' -> Calls Tryz.prog 208 #[.slice a ls.length cap] w' fun e w'' => e = .returned (.int .i64 (sumW ls)) /\ Keeps w' w'') := fun w' k => qjk a cap ls w' hl (hs.keeps k)
 have E4 : Hid (∀ B w', Keeps w w' -> MapI w' B (qaM ls) -> Calls Tryz.prog 209 #[.slice a ls.length cap, .map (some B)] w' fun e w'' => e = .returned (.bool (qbQ ls)) /\ Keeps w' w'') := fun B w' k m => qjv B a cap ls w' hl0 (hs.keeps k) m
 have HP : Hid ((decide (ls.length <= 5) && (qcb ls && (decide ((qaM ls).length = sumW ls) && qbQ ls))) = qaw ls) := qjw ls
 have Hsum : Hid (sumW ls <= 2097152) := by show _ <= _; unfold qaj at hl; omega
 have Hpl : Hid ((qaM ls).length <= sumW ls) := (qgf ls).1
 clear hl hs
 generalize hn : ls.length = n at *
 obtain ⟨g1, G1⟩ : ∃ g, Hid (qcb ls = g) := ⟨_, rfl⟩
 obtain ⟨g2, G2⟩ : ∃ g, Hid (qbQ ls = g) := ⟨_, rfl⟩
 obtain ⟨s, Hs⟩ : ∃ s, Hid (sumW ls = s) := ⟨_, rfl⟩
 obtain ⟨m, Hm⟩ : ∃ m, Hid ((qaM ls).length = m) := ⟨_, rfl⟩
 obtain ⟨E, HE⟩ : ∃ E, Hid (qaM ls = E) := ⟨_, rfl⟩
 rw [G1.out] at E1
 rw [HE.out] at E2 E4
 rw [Hs.out] at E3 Hsum
 rw [G2.out] at E4
 rw [G1.out, G2.out, Hs.out, Hm.out] at HP
 have HmE : Hid (E.length = m) := by show _ = _; rw [<- HE.out]; exact Hm.out
 have hs0 : s <= 2097152 := Hsum.out
 have hm0 : m <= 2097152 := by have := Hpl.out; rw [Hm.out, Hs.out] at this; omega
 clear hn Hpl
 by_cases h5 : n <= 5
 ·have h5' : decide ((5 : Int) < (n : Int)) = false := by simp; omega
  have d5 : decide (n <= 5) = true := decide_eq_true h5
  cases g1
  ·have Hr : Hid (qaw ls = false) := by show _ = _; rw [<- HP.out, d5]; rfl
   go_enter Tryz.func174, Tryz.ntmps174
   go_wp2_with (go_at_call 206; refine (E1.out _ (Keeps.refl _)).mono ?_; rintro e w1 ⟨rfl, k1⟩)
   go_ret
   exact ⟨by rw [Hr.out]; rfl, k1⟩
  ·by_cases hms : m = s
   ·have Hr : Hid (qaw ls = g2) := by show _ = _; rw [<- HP.out, d5, decide_eq_true hms]; rfl
    subst hms
    have hee : ((m : Int) == (m : Int)) = true := by simp
    go_enter Tryz.func174, Tryz.ntmps174
    go_wp2_with (first
     | (go_at_call 206; refine (E1.out _ (Keeps.refl _)).mono ?_; rintro e w1 ⟨rfl, k1⟩)
     | (go_at_call 207; refine (E2.out _ k1).mono ?_; rintro e w2 ⟨rfl, m2, k2⟩; have K2 : Keeps w w2 := k1.trans k2; have M2 : Hid (MapI w2 w1.heap.size E) := m2; have hlen : ∀ ty, (Builtin.len_ #[243] ty #[.map (some w1.heap.size)]).run Tryz.prog w2 = .ok (.int .i64 m) w2 := (fun ty => by have h := MapI.len m2 (P := Tryz.prog) (t := 243) Tryz.underlying243 ty; rw [HmE.out] at h; exact h); clear m2)
     | (go_at_call 208; refine (E3.out _ K2).mono ?_; rintro e w3 ⟨rfl, k3⟩; have K3 : Keeps w w3 := K2.trans k3)
     | (go_at_call 209; refine (E4.out _ _ K3 (M2.out.keeps k3)).mono ?_; rintro e w4 ⟨rfl, k4⟩))
    go_ret
    exact ⟨by rw [Hr.out]; rfl, K3.trans k4⟩
   ·have Hr : Hid (qaw ls = false) := by show _ = _; rw [<- HP.out, d5, decide_eq_false hms]; rfl
    have hne : ((m : Int) == (s : Int)) = false := by simp; omega
    go_enter Tryz.func174, Tryz.ntmps174
    go_wp2_with (first
     | (go_at_call 206; refine (E1.out _ (Keeps.refl _)).mono ?_; rintro e w1 ⟨rfl, k1⟩)
     | (go_at_call 207; refine (E2.out _ k1).mono ?_; rintro e w2 ⟨rfl, m2, k2⟩; have K2 : Keeps w w2 := k1.trans k2; have M2 : Hid (MapI w2 w1.heap.size E) := m2; have hlen : ∀ ty, (Builtin.len_ #[243] ty #[.map (some w1.heap.size)]).run Tryz.prog w2 = .ok (.int .i64 m) w2 := (fun ty => by have h := MapI.len m2 (P := Tryz.prog) (t := 243) Tryz.underlying243 ty; rw [HmE.out] at h; exact h); clear m2)
     | (go_at_call 208; refine (E3.out _ K2).mono ?_; rintro e w3 ⟨rfl, k3⟩; have K3 : Keeps w w3 := K2.trans k3))
    go_ret
    exact ⟨by rw [Hr.out]; rfl, K3⟩
 ·have h5' : (5 : Int) < (n : Int) := by omega
  have Hr : Hid (qaw ls = false) := by show _ = _; rw [<- HP.out, decide_eq_false h5]; rfl
  go_enter Tryz.func174, Tryz.ntmps174
  go_wp2
  go_ret
  exact ⟨by rw [Hr.out]; rfl, Keeps.refl _⟩
end Go.Proofs.YthpdlbcdbncnhaaGreatDoor
