/-
  copy of elements of whatever size into a row that is known whole.
-/
import Derived.Test.YtglemedcnapneaaPutC
import Derived.Test.YtglemedcnapneaaLies
import Derived.Test.YtglemedcnapneaaOwn
import Derived.Laws.CopyOwn
namespace Go.Proofs.Ytglemedcnapneaa
open Go.RowKit

/-- The block g is this row. -/
def Row (w : World) (g : Nat) (t : TypeId) (C : Array Value) : Prop := w.heap[g]? = some (.cells C t (0, 0))
theorem Row.lt {w : World} {g : Nat} {t : TypeId} {C : Array Value} (h : Row w g t C) : g < w.heap.size := by
  rcases Nat.lt_or_ge g w.heap.size with hlt | hge
  · exact hlt
  · unfold Row at h; rw [Array.getElem?_eq_none hge] at h; cases h
theorem Row.keeps {w w' : World} {g : Nat} {t : TypeId} {C : Array Value} (h : Row w g t C) (k : Keeps w w') : Row w' g t C := (Below.block k g h.lt).trans h
theorem Row.new (w : World) (C : Array Value) (t : TypeId) : Row (w.alloc (.cells C t)) w.heap.size t C := by
  show (w.heap.push (.cells C t))[w.heap.size]? = _
  simp
theorem Row.cell {w : World} {g : Nat} {t : TypeId} {C : Array Value} (h : Row w g t C) (i : Nat) : w.cell? ⟨g, i, none⟩ = C[i]? := by
  have h' : w.heap[g]? = some (.cells C t (0, 0)) := h
  by_cases hi : i < C.size
  · simp [World.cell?, h', hi]
  · simp [World.cell?, h', hi]
theorem Row.frozen {w : World} {g : Nat} {t : TypeId} {C : Array Value} (h : Row w g t C) (i : Nat) : w.frozen? ⟨g, i, none⟩ = false := by
  have h' : w.heap[g]? = some (.cells C t (0, 0)) := h
  simp [World.frozen?, h']
theorem Row.setRow {w : World} {g : Nat} {t : TypeId} {C : Array Value} (h : Row w g t C) (D : Array Value) : Row (w.setRow g D) g t D := setRow_heap w g C D t _ h
theorem Keeps.setRow {w0 w : World} {g : Nat} (h : Keeps w0 w) (hg : w0.heap.size ≤ g) (D : Array Value) : Keeps w0 (w.setRow g D) := below_setRow h hg D
theorem setL_splice (L : List Value) (C : Array Value) (k : Nat) (h : k + L.length ≤ C.size) : (C.toList.take k ++ L ++ C.toList.drop (k + L.length)).toArray = setL C k L := by
  apply Array.ext_getElem?
  intro i
  rw [setL_at _ _ _ _ h]
  simp only [List.getElem?_toArray, List.append_assoc]
  by_cases h1 : i < k
  · rw [if_neg (by omega), List.getElem?_append_left (by simp; omega)]
    simp [h1]
  · rw [List.getElem?_append_right (by simp; omega)]
    have e : min k C.size = k := by omega
    by_cases h2 : i < k + L.length
    · rw [if_pos (by omega), List.getElem?_append_left (by simp; omega)]
      simp [e]
    · rw [if_neg (by omega), List.getElem?_append_right (by simp; omega)]
      simp only [List.length_take, Array.length_toList, e, List.getElem?_drop, Array.getElem?_toList]
      congr 1
      omega
/-- A struct stored over a part of a row. -/
theorem Row.putC {g : Nat} {t : TypeId} : ∀ (L : List Value) {w : World} {C : Array Value} (k : Nat), Row w g t C → Row (putC w g k L) g t (setL C k L)
  | [], _, _, _, h => h
  | v :: r, w, C, k, h => by
    have e : w.setCell ⟨g, k, none⟩ v = w.setRow g (C.setIfInBounds k v) := setCell_eq_setRow w g k C t (0, 0) v h
    exact Row.putC r (k + 1) (by rw [e]; exact h.setRow _)

variable {P : Program}
theorem run_copy_any (w : World) (dT sT ty elem : TypeId) (sz g o dLen dCap : Nat) (a : Addr) (sLen sCap : Nat) (C : Array Value) (t : TypeId) (n : Nat) (cs : List Value)
    (hu : P.underlying dT = some (.slice elem)) (hs : (P.info? elem).map (·.size) = some sz)
    (hg : Row w g t C) (hm : n = Nat.min sLen dLen) (hn : cs.length = n * sz)
    (hsrc : ∀ j v, cs[j]? = some v → w.cell? (a.add j) = some v) (hfit : o + cs.length ≤ C.size) (h1 : ∀ v ∈ cs, v.oneCell' = true) :
    (Builtin.copy_ #[dT, sT] ty #[.slice (some ⟨g, o, none⟩) dLen dCap, .slice (some a) sLen sCap]).run P w = .ok (goInt n) (w.setRow g (setL C o cs)) := by
  have hl := run_loadCells_list (P := P) w a cs hsrc
  have hst := run_storeCells_at P g o t cs 0 C w hg (by simpa using hfit) h1
  simp only [Nat.add_zero] at hst
  rw [setL_splice cs C o hfit] at hst
  cases hq : P.info? elem with
  | none => simp [hq] at hs
  | some i =>
    have hi : i.size = sz := by simpa [hq] using hs
    simp [Builtin.copy_, run_underlying hu, Builtin.lenOf, Builtin.firstCells, sizeOf, typeInfo, hq, hi, ← hm, ← hn, hl, hst]
theorem run_copy_none_any (w : World) (dT sT ty elem : TypeId) (d a : Option Addr) (sz dLen dCap sLen sCap : Nat) (hu : P.underlying dT = some (.slice elem)) (hs : (P.info? elem).map (·.size) = some sz) (hn : Nat.min sLen dLen = 0) :
    (Builtin.copy_ #[dT, sT] ty #[.slice d dLen dCap, .slice a sLen sCap]).run P w = .ok (goInt 0) w := by
  cases hq : P.info? elem with
  | none => simp [hq] at hs
  | some i =>
    have hl : ∀ (x : Addr), (loadCells x 0).run P w = .ok #[] w := fun x => by simpa using run_loadCells_list (P := P) w x [] (by simp)
    cases d <;> cases a <;> simp [Builtin.copy_, run_underlying hu, Builtin.lenOf, Builtin.firstCells, sizeOf, typeInfo, hq, hn, storeCells, hl]
/-- What copy leaves, one statement for all ways: the elements ys go over to the place off (counted in cells) of the row. -/
theorem run_copy_lies {α : Type} (c : α → Array Value) (sz : Nat) (hc : ∀ x, (c x).size = sz) (h0 : 0 < sz) (h1 : ∀ x, ∀ u ∈ (c x).toList, u.oneCell' = true)
    (w : World) (dT sT ty elem : TypeId) (dp sp : Option Addr) (dLen dCap sLen sCap : Nat) (C : Array Value) (t : TypeId) (g off : Nat) (ys : List α)
    (hu : P.underlying dT = some (.slice elem)) (hs : (P.info? elem).map (·.size) = some sz) (hg : Row w g t C) (hn : ys.length = Nat.min sLen dLen)
    (hd : 0 < ys.length → dp = some ⟨g, off, none⟩) (hl : Lies sz c w sp ys) (hfit : off + ys.length * sz ≤ C.size) :
    (Builtin.copy_ #[dT, sT] ty #[.slice dp dLen dCap, .slice sp sLen sCap]).run P w = .ok (goInt ys.length) (w.setRow g (setL C off (flatC c ys))) := by
  rcases hl with rfl | ⟨b, o, rfl, hb, hl⟩
  · have e : setL C off (flatC c ([] : List α)) = C := rfl
    rw [e, setRow_self w g C t (0, 0) hg]
    exact run_copy_none_any w dT sT ty elem dp sp sz dLen dCap sLen sCap hu hs (by simpa using hn.symm)
  · by_cases hz : ys.length = 0
    · obtain rfl : ys = [] := List.eq_nil_of_length_eq_zero hz
      have e : setL C off (flatC c ([] : List α)) = C := rfl
      rw [e, setRow_self w g C t (0, 0) hg]
      exact run_copy_none_any w dT sT ty elem dp _ sz dLen dCap sLen sCap hu hs (by simpa using hn.symm)
    · obtain rfl := hd (by omega)
      refine run_copy_any w dT sT ty elem sz g off dLen dCap ⟨b, o, none⟩ sLen sCap C t ys.length (flatC c ys) hu hs hg hn (flatC_length hc ys) ?_ (by rw [flatC_length hc ys]; exact hfit) (flatC_one h1 ys)
      intro j u hj
      have hjl : j < ys.length * sz := by
        have := flatC_length hc ys
        rcases Nat.lt_or_ge j (ys.length * sz) with h | h
        · exact h
        · rw [List.getElem?_eq_none (by omega)] at hj; cases hj
      have hq : j / sz < ys.length := Nat.div_lt_of_lt_mul (by rw [Nat.mul_comm]; exact hjl)
      have hm : j % sz < sz := Nat.mod_lt _ h0
      have hjj : j / sz * sz + j % sz = j := by rw [Nat.mul_comm]; exact Nat.div_add_mod j sz
      have h2 := flatC_at hc ys (j / sz) ys[j / sz] (List.getElem?_eq_getElem hq) (j % sz) hm
      rw [hjj, hj] at h2
      have h3 := hl (j / sz) ys[j / sz] (List.getElem?_eq_getElem hq) (j % sz) hm
      have ea : (⟨b, o, none⟩ : Addr).add j = ⟨b, o + j, none⟩ := by unfold Addr.add; by_cases h : j = 0 <;> simp [h]
      rw [ea, ← hjj, ← Nat.add_assoc, h3, ← h2]
theorem wpList_copy_lies {α : Type} {w : World} {ops : Array Oper} {rest : List Oper} {o : Oper} {a : Act} {Q : Exit → Act → World → Prop} (hgd : o.guard = none) (d s : Operand) (dT sT : TypeId)
    (ho : o.op = .call { callee := .builtin .copy, args := #[d, s], argTypes := #[dT, sT] }) (elem : TypeId) (c : α → Array Value) (sz : Nat) (hc : ∀ x, (c x).size = sz) (h0 : 0 < sz) (h1 : ∀ x, ∀ u ∈ (c x).toList, u.oneCell' = true)
    (hu : P.underlying dT = some (.slice elem)) (hs : (P.info? elem).map (·.size) = some sz)
    (dp sp : Option Addr) (dLen dCap sLen sCap : Nat) (hd : a.eval d = .slice dp dLen dCap) (hse : a.eval s = .slice sp sLen sCap)
    (C : Array Value) (t : TypeId) (g off : Nat) (ys : List α) (hg : Row w g t C) (hn : ys.length = Nat.min sLen dLen)
    (hdp : 0 < ys.length → dp = some ⟨g, off, none⟩) (hl : Lies sz c w sp ys) (hfit : off + ys.length * sz ≤ C.size)
    (h : wpList P ops Q rest (a.put o.dst (goInt ys.length)) (w.setRow g (setL C off (flatC c ys)))) : wpList P ops Q (o :: rest) a w := by
  refine wpList_plain hgd fun K hK => ?_
  have hrun := run_copy_lies (P := P) c sz hc h0 h1 w dT sT o.type elem dp sp dLen dCap sLen sCap C t g off ys hu hs hg hn hdp hl hfit
  unfold Oper.wp
  simp [execOp, ho, resolve, invoke, builtin, hd, hse, hrun, Result.andThen]
  exact hK _ _ h
/-- The same as one step of a region that draws its order. -/
theorem step_copy_lies {α : Type} {ops : Array Oper} {o : Oper} {a : Act} {w : World} {K : Act → World → Prop} {Q : Exit → Act → World → Prop} {E : Prop} (hgd : o.guard = none) (d s : Operand) (dT sT : TypeId)
    (ho : o.op = .call { callee := .builtin .copy, args := #[d, s], argTypes := #[dT, sT] }) (elem : TypeId) (c : α → Array Value) (sz : Nat) (hc : ∀ x, (c x).size = sz) (h0 : 0 < sz) (h1 : ∀ x, ∀ u ∈ (c x).toList, u.oneCell' = true)
    (hu : P.underlying dT = some (.slice elem)) (hs : (P.info? elem).map (·.size) = some sz)
    (dp sp : Option Addr) (dLen dCap sLen sCap : Nat) (hd : a.eval d = .slice dp dLen dCap) (hse : a.eval s = .slice sp sLen sCap)
    (C : Array Value) (t : TypeId) (g off : Nat) (ys : List α) (hg : Row w g t C) (hn : ys.length = Nat.min sLen dLen)
    (hdp : 0 < ys.length → dp = some ⟨g, off, none⟩) (hl : Lies sz c w sp ys) (hfit : off + ys.length * sz ≤ C.size)
    (h : K (a.put o.dst (goInt ys.length)) (w.setRow g (setL C off (flatC c ys)))) : if Region.wanted o (yielded ops a.tmps) = true then Oper.wp P o a w K Q else E := by
  have hw : Region.wanted o (yielded ops a.tmps) = true := by simp [Region.wanted, hgd]
  rw [if_pos hw]
  have hrun := run_copy_lies (P := P) c sz hc h0 h1 w dT sT o.type elem dp sp dLen dCap sLen sCap C t g off ys hu hs hg hn hdp hl hfit
  unfold Oper.wp
  simp [execOp, ho, resolve, invoke, builtin, hd, hse, hrun, Result.andThen]
  exact h
/-- A row that holds the cells of xs is one's own. -/
theorem Row.own {α : Type} {c : α → Array Value} {sz : Nat} (hc : ∀ x, (c x).size = sz) {w : World} {g : Nat} {t : TypeId} {xs : List α} (h : Row w g t (flatC c xs).toArray) {base : Nat} (hb : base ≤ g) (hm : xs.length ≤ maxLen) :
    Own t sz c w base (.slice (some ⟨g, 0, none⟩) xs.length xs.length) xs :=
  ⟨flatC_length hc xs, .inr ⟨g, xs.length, _, rfl, hb, h, Nat.le_refl _, hm, by simp [flatC_length hc xs], by rw [← flatC_length hc xs]; simp⟩⟩
/-- Three stretches that fill a row. -/
theorem setL_three (Z : Array Value) (A B D : List Value) (h : Z.size = A.length + B.length + D.length) : setL (setL (setL Z 0 A) A.length B) (A.length + B.length) D = (A ++ (B ++ D)).toArray := by
  apply Array.ext_getElem?
  intro i
  rw [setL_at _ _ _ _ (by rw [setL_size, setL_size]; omega), setL_at _ _ _ _ (by rw [setL_size]; omega), setL_at _ _ _ _ (by omega)]
  simp only [List.getElem?_toArray]
  by_cases h1 : i < A.length
  · rw [if_neg (by omega), if_neg (by omega), if_pos (by omega), List.getElem?_append_left h1]; simp
  · rw [List.getElem?_append_right (by omega)]
    by_cases h2 : i < A.length + B.length
    · rw [if_neg (by omega), if_pos (by omega), List.getElem?_append_left (by omega)]
    · rw [List.getElem?_append_right (by omega)]
      by_cases h3 : i < A.length + B.length + D.length
      · rw [if_pos (by omega)]; congr 1; omega
      · rw [if_neg (by omega), if_neg (by omega), if_neg (by omega), Array.getElem?_eq_none (by omega), List.getElem?_eq_none (by omega)]
end Go.Proofs.Ytglemedcnapneaa
