/-
  Maps from numbers to numbers that the call makes, told by the list of their entries: laws at each operation, for every number.
-/
import Derived.Test.YtglemedcnapneaaBase
import Derived.Maps.OwnSet
namespace Go.Proofs.Ytglemedcnapneaa
open Go.RowKit

/-- What lies at a key. -/
def lookM : List (Int × Int) → Int → Option Int
  | [], _ => none
  | p :: r, k => if p.1 == k then some p.2 else lookM r k
def hasM (es : List (Int × Int)) (k : Int) : Bool := (lookM es k).isSome
def valM (es : List (Int × Int)) (k : Int) : Int := (lookM es k).getD 0
def delM (es : List (Int × Int)) (k : Int) : List (Int × Int) := es.eraseP fun p => p.1 == k
theorem lookM_append (es fs : List (Int × Int)) (k : Int) : lookM (es ++ fs) k = (lookM es k).or (lookM fs k) := by
  induction es with
  | nil => rfl
  | cons p r ih =>
    simp only [List.cons_append, lookM, ih]
    split <;> rfl
theorem lookM_one (a b k : Int) : lookM [(a, b)] k = if a == k then some b else none := rfl
/-- No key stands twice. -/
def Once (es : List (Int × Int)) : Prop := (es.map Prod.fst).Nodup
theorem lookM_none {es : List (Int × Int)} {k : Int} : lookM es k = none ↔ k ∉ es.map Prod.fst := by
  induction es with
  | nil => simp [lookM]
  | cons p r ih =>
    simp only [lookM, List.map_cons, List.mem_cons, not_or]
    by_cases e : p.1 = k
    · subst e; simp
    · rw [if_neg (by simpa using e), ih]
      exact ⟨fun h => ⟨fun e' => e e'.symm, h⟩, fun h => h.2⟩
theorem lookM_del {es : List (Int × Int)} (h : Once es) (k x : Int) : lookM (delM es k) x = if k == x then none else lookM es x := by
  induction es with
  | nil => simp [delM, lookM]
  | cons p r ih =>
    have h2 : Once r := (List.nodup_cons.1 h).2
    have h1 : p.1 ∉ r.map Prod.fst := (List.nodup_cons.1 h).1
    have ih := ih h2
    unfold delM at ih ⊢
    by_cases e : p.1 = k
    · rw [List.eraseP_cons_of_pos (by simpa using e)]
      by_cases e2 : k = x
      · rw [if_pos (by simpa using e2), ← e2, ← e]; exact lookM_none.2 h1
      · rw [if_neg (by simpa using e2)]
        simp only [lookM]
        rw [if_neg (by rw [e]; simpa using e2)]
    · rw [List.eraseP_cons_of_neg (by simpa using e)]
      simp only [lookM, ih]
      by_cases e2 : k = x
      · have c1 : (k == x) = true := by simpa using e2
        have c2 : (p.1 == x) = false := by rw [← e2]; simpa using e
        simp [c1, c2]
      · have c1 : (k == x) = false := by simpa using e2
        simp [c1]

/-- Block b is a map with these entries. -/
def MapI (w : World) (b : Nat) (es : List (Int × Int)) : Prop :=
  ∃ (xs : Array MapEntry) (clock : Nat), w.heap[b]? = some (.map xs clock) ∧ xs.toList.map (fun e => (e.key, e.val)) = es.map fun p => ((.int .i64 p.1, .int .i64 p.2) : Value × Value)
theorem MapI.made (w : World) : MapI (w.alloc (.map #[] 0)) w.heap.size [] := ⟨#[], 0, (MapKept.heap_alloc w _).1, rfl⟩
theorem MapI.lt {w : World} {b : Nat} {es : List (Int × Int)} (h : MapI w b es) : b < w.heap.size := by
  obtain ⟨xs, c, hb, _⟩ := h
  exact (Array.getElem?_eq_some_iff.1 hb).1
theorem MapI.same {w w' : World} {b : Nat} {es : List (Int × Int)} (h : MapI w b es) (k : w'.heap[b]? = w.heap[b]?) : MapI w' b es := by
  obtain ⟨xs, c, hb, r⟩ := h
  exact ⟨xs, c, k.trans hb, r⟩
theorem MapI.keeps {w w' : World} {b : Nat} {es : List (Int × Int)} (h : MapI w b es) (k : Keeps w w') : MapI w' b es := h.same (Below.block k b h.lt)

theorem find_ents (k : Int) : ∀ (xs : List MapEntry) (es : List (Int × Int)) (i : Nat), xs.map (fun e => (e.key, e.val)) = es.map (fun p => ((.int .i64 p.1, .int .i64 p.2) : Value × Value)) →
    (lookM es k = none ∧ Instr.findNow (.int .i64) (.int .i64 k) xs i = some none) ∨
    ∃ (j : Nat) (v : Int), lookM es k = some v ∧ Instr.findNow (.int .i64) (.int .i64 k) xs i = some (some (i + j, .int .i64 v)) ∧ es.eraseIdx j = delM es k
  | [], [], _, _ => .inl ⟨rfl, rfl⟩
  | [], p :: r, _, h => by simp at h
  | e :: xs, [], _, h => by simp at h
  | e :: xs, p :: r, i, h => by
    simp only [List.map_cons, List.cons.injEq, Prod.mk.injEq] at h
    obtain ⟨⟨h1, h2⟩, h3⟩ := h
    have hs : Instr.sameNow (.int .i64) (.int .i64 k) e.key = some (k == p.1) := by rw [h1]; simp [Instr.sameNow]
    by_cases c : p.1 = k
    · refine .inr ⟨0, p.2, by simp [lookM, c], ?_, ?_⟩
      · simp only [Instr.findNow, hs, c, h2]; simp
      · unfold delM; rw [List.eraseP_cons_of_pos (by simpa using c)]; rfl
    · have c1 : (k == p.1) = false := by simpa using fun e => c e.symm
      have c2 : (p.1 == k) = false := by simpa using c
      rcases find_ents k xs r (i + 1) h3 with ⟨g1, g2⟩ | ⟨j, v, g1, g2, g3⟩
      · exact .inl ⟨by simp [lookM, c2, g1], by simp [Instr.findNow, hs, c1, g2]⟩
      · refine .inr ⟨j + 1, v, by simp [lookM, c2, g1], ?_, ?_⟩
        · simp only [Instr.findNow, hs, c1, g2]; simp; omega
        · unfold delM at g3 ⊢; rw [List.eraseP_cons_of_neg (by simpa using c), ← g3]; rfl

section
variable {P : Program} {w : World} {b : Nat} {es : List (Int × Int)} {t k e : TypeId}
theorem MapI.look (h : MapI w b es) (ht : P.underlying t = some (.map k e)) (hk : P.underlying k = some (.int .i64)) (hz : (zeroValue e).run P w = .ok (.int .i64 0) w) (x : Int) :
    (Instr.lookup t (.map (some b)) (.int .i64 x) true).run P w = .ok (.tuple #[.int .i64 (valM es x), .bool (hasM es x)]) w := by
  obtain ⟨xs, clock, hb, r⟩ := h
  have ck : ∀ em, (Instr.checkKey em 10000 k (.int .i64 x)).run P w = .ok () w := fun em => MapKept.run_checkKey hk (by simp [MapKept.IsKey]) em 9999
  rcases find_ents x xs.toList es 0 r with ⟨g1, g2⟩ | ⟨j, v, g1, g2, -⟩
  · simp [Instr.lookup, run_underlying ht, MapKept.run_getObj_map hb, ck, MapKept.run_findKey hk g2, hz, Result.andThen, valM, hasM, g1]
  · simp [Instr.lookup, run_underlying ht, MapKept.run_getObj_map hb, ck, MapKept.run_findKey hk g2, Result.andThen, valM, hasM, g1]
theorem MapI.len (h : MapI w b es) (ht : P.underlying t = some (.map k e)) (ty : TypeId) : (Builtin.len_ #[t] ty #[.map (some b)]).run P w = .ok (.int .i64 es.length) w := by
  obtain ⟨xs, clock, hb, r⟩ := h
  have : xs.size = es.length := by have := congrArg List.length r; simpa using this
  rw [← this]
  simp [Builtin.len_, run_underlying ht, MapKept.run_getObj_map hb, goInt, Result.andThen]
theorem grown_set {o o' : Obj} (hb : w.heap[b]? = some o) : w.grownBy { w with heap := w.heap.setIfInBounds b o' } (some b) :=
  ⟨rfl, rfl, rfl, by simp, fun i _ hi => (MapKept.heap_set hb).2 i (fun e => hi (by rw [e]))⟩
/-- A new key is stored. -/
theorem MapI.put (h : MapI w b es) (ht : P.underlying t = some (.map k e)) (hk : P.underlying k = some (.int .i64)) {x : Int} (y : Int) (hx : lookM es x = none) :
    ∃ w', (Instr.mapUpdate t (.map (some b)) (.int .i64 x) (.int .i64 y)).run P w = .ok () w' ∧ MapI w' b (es ++ [(x, y)]) ∧ w.grownBy w' (some b) := by
  obtain ⟨xs, clock, hb, r⟩ := h
  have ck : ∀ em, (Instr.checkKey em 10000 k (.int .i64 x)).run P w = .ok () w := fun em => MapKept.run_checkKey hk (by simp [MapKept.IsKey]) em 9999
  rcases find_ents x xs.toList es 0 r with ⟨g1, g2⟩ | ⟨j, v, g1, -, -⟩
  · refine ⟨{ w with heap := w.heap.setIfInBounds b (.map (xs.push ⟨.int .i64 x, .int .i64 y, clock⟩) (clock + 1)) }, ?_, ⟨_, _, (MapKept.heap_set hb).1, by simp [r]⟩, grown_set hb⟩
    simp [Instr.mapUpdate, run_underlying ht, MapKept.run_getObj_map hb, ck, MapKept.run_findKey hk g2, MapKept.run_setObj_map _ hb, Result.andThen]
  · rw [hx] at g1; cases g1
theorem MapI.del (h : MapI w b es) (ht : P.underlying t = some (.map k e)) (hk : P.underlying k = some (.int .i64)) (x : Int) (ty : TypeId) :
    ∃ w', (Builtin.delete_ #[t, k] ty #[.map (some b), .int .i64 x]).run P w = .ok (.tuple #[]) w' ∧ MapI w' b (delM es x) ∧ w.grownBy w' (some b) := by
  obtain ⟨xs, clock, hb, r⟩ := h
  have ck : ∀ em, (Instr.checkKey em 10000 k (.int .i64 x)).run P w = .ok () w := fun em => MapKept.run_checkKey hk (by simp [MapKept.IsKey]) em 9999
  rcases find_ents x xs.toList es 0 r with ⟨g1, g2⟩ | ⟨j, v, g1, g2, g3⟩
  · have e0 : delM es x = es := by
      unfold delM
      refine List.eraseP_of_forall_not fun p hp => ?_
      intro hpx
      exact lookM_none.1 g1 (List.mem_map.2 ⟨p, hp, by simpa using hpx⟩)
    refine ⟨{ w with heap := w.heap.setIfInBounds b (.map xs clock) }, ?_, ⟨xs, clock, (MapKept.heap_set hb).1, by rw [e0]; exact r⟩, grown_set hb⟩
    simp [Builtin.delete_, run_underlying ht, MapKept.run_getObj_map hb, ck, MapKept.run_findKey hk g2, MapKept.run_setObj_map _ hb, Result.andThen]
  · rw [Nat.zero_add] at g2
    have hsub : (xs.eraseIdxIfInBounds j).toList = xs.toList.eraseIdx j := by
      unfold Array.eraseIdxIfInBounds
      split
      · simp
      · rename_i hn; rw [List.eraseIdx_of_length_le (by simpa using hn)]
    refine ⟨{ w with heap := w.heap.setIfInBounds b (.map (xs.eraseIdxIfInBounds j) clock) }, ?_, ⟨_, clock, (MapKept.heap_set hb).1, ?_⟩, grown_set hb⟩
    · simp [Builtin.delete_, run_underlying ht, MapKept.run_getObj_map hb, ck, MapKept.run_findKey hk g2, MapKept.run_setObj_map _ hb, Result.andThen]
    · rw [hsub, ← g3, ChangeMaps.map_eraseIdx, ChangeMaps.map_eraseIdx, r]
end

section
variable {P : Program} {w : World} {ops : Array Oper} {rest : List Oper} {o : Oper} {a : Act} {Q : Exit → Act → World → Prop}
theorem wpList_lookI (hg : o.guard = none) (m x : Operand) (t : TypeId) (hop : o.op = Op.lookup t m x true) (k e : TypeId) (ht : P.underlying t = some (.map k e)) (hk : P.underlying k = some (.int .i64))
    (hz : (zeroValue e).run P w = .ok (.int .i64 0) w) (b : Nat) (es : List (Int × Int)) (hm : a.eval m = .map (some b)) (h : MapI w b es) (z : Int) (hx : a.eval x = .int .i64 z) (v : Int) (ok : Bool) (hv : valM es z = v) (hok : hasM es z = ok)
    (hK : wpList P ops Q rest (a.put o.dst (.tuple #[.int .i64 v, .bool ok])) w) : wpList P ops Q (o :: rest) a w := by
  refine wpList_plain hg fun K' hK' => ?_
  have hrun := h.look ht hk hz z
  rw [hv, hok] at hrun
  unfold Oper.wp
  simp [execOp, hop, hm, hx, hrun, Result.andThen]
  exact hK' _ _ hK
theorem wpList_putI (hg : o.guard = none) (m x y : Operand) (t : TypeId) (hop : o.op = Op.mapUpdate t m x y) (k e : TypeId) (ht : P.underlying t = some (.map k e)) (hk : P.underlying k = some (.int .i64))
    (b : Nat) (es : List (Int × Int)) (hm : a.eval m = .map (some b)) (h : MapI w b es) (z v : Int) (hx : a.eval x = .int .i64 z) (hy : a.eval y = .int .i64 v) (hn : lookM es z = none)
    (hK : ∀ w', MapI w' b (es ++ [(z, v)]) → w.grownBy w' (some b) → wpList P ops Q rest (a.put o.dst undef) w') : wpList P ops Q (o :: rest) a w := by
  refine wpList_plain hg fun K' hK' => ?_
  obtain ⟨w', hrun, r1, r2⟩ := h.put ht hk v hn
  unfold Oper.wp
  simp [execOp, hop, hm, hx, hy, hrun, Result.andThen]
  exact hK' _ _ (hK w' r1 r2)
theorem wpList_delI (hg : o.guard = none) (m x : Operand) (t k : TypeId) (hop : o.op = Op.call { callee := Callee.builtin Builtin.delete, args := #[m, x], argTypes := #[t, k] }) (e : TypeId) (ht : P.underlying t = some (.map k e)) (hk : P.underlying k = some (.int .i64))
    (b : Nat) (es : List (Int × Int)) (hm : a.eval m = .map (some b)) (h : MapI w b es) (z : Int) (hx : a.eval x = .int .i64 z)
    (hK : ∀ w', MapI w' b (delM es z) → w.grownBy w' (some b) → wpList P ops Q rest (a.put o.dst (.tuple #[])) w') : wpList P ops Q (o :: rest) a w := by
  refine wpList_plain hg fun K' hK' => ?_
  obtain ⟨w', hrun, r1, r2⟩ := h.del ht hk z o.type
  unfold Oper.wp
  simp [execOp, hop, resolve, invoke, builtin, hm, hx, hrun, Result.andThen]
  exact hK' _ _ (hK w' r1 r2)
theorem wpList_lenI (hg : o.guard = none) (m : Operand) (t : TypeId) (hop : o.op = Op.call { callee := Callee.builtin Builtin.len, args := #[m], argTypes := #[t] }) (k e : TypeId) (ht : P.underlying t = some (.map k e))
    (b : Nat) (es : List (Int × Int)) (hm : a.eval m = .map (some b)) (h : MapI w b es) (n : Nat) (hn : es.length = n)
    (hK : wpList P ops Q rest (a.put o.dst (.int .i64 n)) w) : wpList P ops Q (o :: rest) a w := by
  refine wpList_plain hg fun K' hK' => ?_
  have hrun := h.len ht o.type
  rw [hn] at hrun
  unfold Oper.wp
  simp [execOp, hop, resolve, invoke, builtin, hm, hrun, Result.andThen]
  exact hK' _ _ hK
end
end Go.Proofs.Ytglemedcnapneaa
