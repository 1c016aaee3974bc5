/-
  A row of one's own that grows by append: elements of one size, each told by its cells.
  The system, as a plain record, and what chapter 9 asks of it.
  A trace as a plain list: what was used and what was idle are all its turns.
  An element of a row of one's own is written over.
  Rows of ghosts and of turns: the laws' own helpers.
  A task is put among others: the contract of the model's TaskPut.
-/
import Derived.Test.YtpikopdfkhagmaaGreatDoorCur
import Derived.Deep.AppendLies
import Derived.Laws.OwnMore
import Derived.Test.YtpikopdfkhagmaaGreatDoorPickPure
import Derived.Test.YtpikopdfkhagmaaGreatDoorSum
import Derived.Test.YtpikopdfkhagmaaGreatDoorPutC
import Derived.Test.YtpikopdfkhagmaaGreatDoorLockPure
import Derived.Deep.RegionHeld3
import Derived.Test.YtpikopdfkhagmaaGreatDoorTasksOkS
namespace Go.Proofs.YtpikopdfkhagmaaGreatDoor
open Go.RowKit

/-- The cells of a list, one element behind the other. -/
def flatC {α : Type} (c : α → Array Value) (xs : List α) : List Value := xs.flatMap fun x => (c x).toList
theorem flatC_append {α : Type} (c : α → Array Value) (xs ys : List α) : flatC c (xs ++ ys) = flatC c xs ++ flatC c ys := by simp [flatC]
theorem flatC_length {α : Type} {c : α → Array Value} {sz : Nat} (hc : ∀ x, (c x).size = sz) (xs : List α) : (flatC c xs).length = xs.length * sz := by
  induction xs with
  | nil => simp [flatC]
  | cons x r ih =>
    have e : flatC c (x :: r) = (c x).toList ++ flatC c r := rfl
    rw [e, List.length_append, ih, List.length_cons, Nat.add_mul, Nat.one_mul, Array.length_toList, hc, Nat.add_comm]
theorem flatC_at {α : Type} {c : α → Array Value} {sz : Nat} (hc : ∀ x, (c x).size = sz) : ∀ (xs : List α) (i : Nat) (x : α), xs[i]? = some x → ∀ k, k < sz → (flatC c xs)[i * sz + k]? = (c x)[k]?
  | [], i, x, h, _, _ => by simp at h
  | y :: r, 0, x, h, k, hk => by
    simp at h
    subst h
    have e : flatC c (y :: r) = (c y).toList ++ flatC c r := rfl
    rw [e, Nat.zero_mul, Nat.zero_add, List.getElem?_append_left (by simp [hc, hk])]
    simp
  | y :: r, i + 1, x, h, k, hk => by
    have ih := flatC_at hc r i x (by simpa using h) k hk
    have e : flatC c (y :: r) = (c y).toList ++ flatC c r := rfl
    rw [e, List.getElem?_append_right (by simp only [Array.length_toList, hc, Nat.add_mul, Nat.one_mul]; omega), ← ih]
    congr 1
    simp only [Array.length_toList, hc, Nat.add_mul, Nat.one_mul]
    omega
theorem flatC_one {α : Type} {c : α → Array Value} (h1 : ∀ x, ∀ u ∈ (c x).toList, u.oneCell' = true) (xs : List α) : ∀ u ∈ flatC c xs, u.oneCell' = true := by
  intro u hu
  simp only [flatC, List.mem_flatMap] at hu
  obtain ⟨x, _, hx⟩ := hu
  exact h1 x u hx

/-- The row v of xs is the call's own: it lies at or above base. -/
def Own {α : Type} (e : TypeId) (sz : Nat) (c : α → Array Value) (w : World) (base : Nat) (v : Value) (xs : List α) : Prop := w.ownsRow base e sz v xs.length (flatC c xs)
theorem Own.new {α : Type} (e : TypeId) (sz : Nat) (c : α → Array Value) (w : World) {base : Nat} (hb : base ≤ w.heap.size) : Own e sz c (w.alloc (.cells #[] e)) base (.slice (some ⟨w.heap.size, 0, none⟩) 0 0) [] :=
  World.ownsRow_made w #[] 0 hb (by simp) (by simp)
theorem Own.keeps {α : Type} {e : TypeId} {sz : Nat} {c : α → Array Value} {w w' : World} {base : Nat} {v : Value} {xs : List α} (h : Own e sz c w base v xs) (k : Keeps w w') : Own e sz c w' base v xs := by
  obtain ⟨h1, h2⟩ := h
  refine ⟨h1, ?_⟩
  rcases h2 with h2 | ⟨b, cap, cur, hv, hb, hh, r⟩
  · exact .inl h2
  · refine .inr ⟨b, cap, cur, hv, hb, ?_, r⟩
    have hlt : b < w.heap.size := by
      rcases Nat.lt_or_ge b w.heap.size with hlt | hge
      · exact hlt
      · rw [Array.getElem?_eq_none hge] at hh; cases hh
    rw [Below.block k b hlt]; exact hh
theorem Own.alloc {α : Type} {e : TypeId} {sz : Nat} {c : α → Array Value} {w : World} {base : Nat} {v : Value} {xs : List α} (h : Own e sz c w base v xs) (o : Obj) : Own e sz c (w.alloc o) base v xs := h.keeps ((Keeps.refl w).alloc o)
theorem Own.base {α : Type} {e : TypeId} {sz : Nat} {c : α → Array Value} {w : World} {base base' : Nat} {v : Value} {xs : List α} (h : Own e sz c w base v xs) (hb : base' ≤ base) : Own e sz c w base' v xs := by
  obtain ⟨h1, h2⟩ := h
  refine ⟨h1, ?_⟩
  rcases h2 with h2 | ⟨b, cap, cur, hv, hg, r⟩
  · exact .inl h2
  · exact .inr ⟨b, cap, cur, hv, Nat.le_trans hb hg, r⟩
/-- What it is as a slice, and what lies there. -/
theorem Own.slice {α : Type} {e : TypeId} {sz : Nat} {c : α → Array Value} {w : World} {base : Nat} {v : Value} {xs : List α} (h : Own e sz c w base v xs) (hc : ∀ x, (c x).size = sz) :
    ∃ a cap, v = .slice a xs.length cap ∧ Lies sz c w a xs ∧ xs.length ≤ cap ∧ cap ≤ maxLen := by
  obtain ⟨_, ⟨rfl, hn⟩ | ⟨b, cap, cur, rfl, hb, hh, hl, hm, hs, hx⟩⟩ := h
  · have : xs = [] := List.length_eq_zero_iff.1 hn
    subst this
    exact ⟨none, 0, rfl, .inl rfl, by simp, by simp⟩
  · have hlt : b < w.heap.size := by
      rcases Nat.lt_or_ge b w.heap.size with hlt | hge
      · exact hlt
      · rw [Array.getElem?_eq_none hge] at hh; cases hh
    refine ⟨_, cap, rfl, .inr ⟨b, 0, rfl, hlt, fun i x hx' k hk => ?_⟩, hl, hm⟩
    have hi : i < xs.length := by
      rcases Nat.lt_or_ge i xs.length with h | h
      · exact h
      · simp [List.getElem?_eq_none h] at hx'
    have hj : i * sz + k < xs.length * sz := by
      have h1 : (i + 1) * sz ≤ xs.length * sz := Nat.mul_le_mul_right sz hi
      rw [Nat.add_mul, Nat.one_mul] at h1
      omega
    rw [Nat.zero_add, ← flatC_at hc xs i x hx' k hk, ← hx]
    simp [World.cell?, hh, hj]
/-- Nothing old has turned where such a row has grown. -/
theorem Keeps.grown {w a b : World} {row : Option Nat} (h : Keeps w a) (hg : a.grownBy b row) (hr : ∀ k, row = some k → w.heap.size ≤ k) : Keeps w b :=
  ⟨hg.os.trans h.os, hg.tape.trans h.tape, hg.output.trans h.output, Nat.le_trans h.size hg.size, fun k hk => (hg.block k (Nat.lt_of_lt_of_le hk h.size) (fun e => by have := hr k e.symm; omega)).trans (h.block k hk)⟩

variable {P : Program}
/-- An append of elements that lie somewhere onto a row of one's own. -/
theorem wpList_pushAll {α : Type} {w : World} {ops : Array Oper} {rest : List Oper} {o : Oper} {a : Act} {Q : Exit → Act → World → Prop} (hgd : o.guard = none) (s x : Operand) (t : TypeId)
    (ho : o.op = .call { callee := .builtin .append, args := #[s, x], argTypes := #[t, t] })
    (W0 : World) (e : TypeId) (z : Value) (sz bytes : Nat) (c : α → Array Value) (ht : P.underlying t = some (.slice e)) (hinfo : (P.info? e).map (fun i => (i.zero, i.size, i.bytes)) = some (some z, sz, bytes))
    (hzs : z.cells.size = sz) (hsz : 0 < sz) (hc : ∀ x, (c x).size = sz) (h1 : ∀ x, ∀ u ∈ (c x).toList, u.oneCell' = true)
    (v : Value) (xs : List α) (hs : a.eval s = v) (hown : Own e sz c w W0.heap.size v xs) (hk : Keeps W0 w)
    (b off cp : Nat) (ys : List α) (hx : a.eval x = .slice (some ⟨b, off, none⟩) ys.length cp) (hl : Lies sz c w (some ⟨b, off, none⟩) ys)
    (h63 : xs.length + ys.length ≤ maxLen) (hbytes : (xs.length + ys.length) * bytes ≤ 140737488355328)
    (h : ∀ v' w', Own e sz c w' W0.heap.size v' (xs ++ ys) → Keeps W0 w' → (∀ k, k < w.heap.size → some k ≠ v.ownBlock → w'.heap[k]? = w.heap[k]?) → wpList P ops Q rest (a.put o.dst v') w') : wpList P ops Q (o :: rest) a w := by
  obtain ⟨i, hi, hzz⟩ := Option.map_eq_some_iff.1 hinfo
  simp only [Prod.mk.injEq] at hzz
  obtain ⟨hz0, hz1, hz2⟩ := hzz
  refine wpList_append_own _ hgd s x t ho W0.heap.size e i z sz bytes ht hi hz0 hz1 hz2 hzs hsz v xs.length (flatC c xs) hs hown ⟨b, off, none⟩ ys.length cp (flatC c ys) hx (flatC_length hc ys) ?_ (flatC_one h1 ys) h63 hbytes hk.size ?_
  · intro j u hj
    have hjl : j < ys.length * sz := by
      have := flatC_length hc ys
      rcases Nat.lt_or_ge j (ys.length * sz) with h | h
      · exact h
      · rw [List.getElem?_eq_none (by omega)] at hj; cases hj
    have hq : j / sz < ys.length := Nat.div_lt_of_lt_mul (by rw [Nat.mul_comm]; exact hjl)
    have hm : j % sz < sz := Nat.mod_lt _ hsz
    have hjj : j / sz * sz + j % sz = j := by rw [Nat.mul_comm]; exact Nat.div_add_mod j sz
    have h2 := flatC_at hc ys (j / sz) ys[j / sz] (List.getElem?_eq_getElem hq) (j % sz) hm
    rw [hjj, hj] at h2
    rcases hl with hl | ⟨b', off', e', hb', hl⟩
    · rw [hl] at hq; simp at hq
    · simp only [Option.some.injEq, Addr.mk.injEq] at e'
      obtain ⟨rfl, rfl, -⟩ := e'
      have h3 := hl (j / sz) ys[j / sz] (List.getElem?_eq_getElem hq) (j % sz) hm
      have ea : (⟨b, off, none⟩ : Addr).add j = ⟨b, off + j, none⟩ := by unfold Addr.add; by_cases h : j = 0 <;> simp [h]
      rw [ea, ← hjj, ← Nat.add_assoc, h3, ← h2]
  · intro v' w' ho' hg _
    refine h v' w' ?_ (hk.grown hg fun k hk' => (hown.lt k hk').1) hg.block
    unfold Own
    rw [flatC_append, List.length_append]
    exact ho'
/-- An append of one element that lies in a block of its own. -/
theorem wpList_push {α : Type} {w : World} {ops : Array Oper} {rest : List Oper} {o : Oper} {a : Act} {Q : Exit → Act → World → Prop} (hgd : o.guard = none) (s x : Operand) (t : TypeId)
    (ho : o.op = .call { callee := .builtin .append, args := #[s, x], argTypes := #[t, t] })
    (W0 : World) (e : TypeId) (z : Value) (sz bytes : Nat) (c : α → Array Value) (ht : P.underlying t = some (.slice e)) (hinfo : (P.info? e).map (fun i => (i.zero, i.size, i.bytes)) = some (some z, sz, bytes))
    (hzs : z.cells.size = sz) (hsz : 0 < sz) (hc : ∀ x, (c x).size = sz) (h1 : ∀ x, ∀ u ∈ (c x).toList, u.oneCell' = true)
    (v : Value) (xs : List α) (hs : a.eval s = v) (wo : World) (hown : Own e sz c wo W0.heap.size v xs) (hk : Keeps W0 wo) (ko : Keeps wo w)
    (y : α) (b cp : Nat) (hb : Blk w b (c y)) (hx : a.eval x = .slice (some ⟨b, 0, none⟩) 1 cp)
    (h63 : xs.length + 1 ≤ maxLen) (hbytes : (xs.length + 1) * bytes ≤ 140737488355328)
    (h : ∀ v' w', Own e sz c w' W0.heap.size v' (xs ++ [y]) → Keeps W0 w' → (∀ k, k < wo.heap.size → some k ≠ v.ownBlock → w'.heap[k]? = wo.heap[k]?) → wpList P ops Q rest (a.put o.dst v') w') : wpList P ops Q (o :: rest) a w := by
  refine wpList_pushAll hgd s x t ho W0 e z sz bytes c ht hinfo hzs hsz hc h1 v xs hs (hown.keeps ko) (hk.trans ko) b 0 cp [y] hx ?_ h63 hbytes (fun v' w' h2 h3 h4 => h v' w' h2 h3 fun k hk hne => ?_)
  · refine .inr ⟨_, _, rfl, hb.lt, fun i x hx k hk => ?_⟩
    cases i with
    | zero => simp at hx; subst hx; simpa using hb.cells k
    | succ i => simp at hx
  · rw [h4 k (Nat.lt_of_lt_of_le hk ko.size) hne]
    exact Below.block ko k hk
end Go.Proofs.YtpikopdfkhagmaaGreatDoor
namespace Go.Proofs.YtpikopdfkhagmaaGreatDoor
open Go.RowKit

/-- A part of time that is still counted. -/
structure Gh where
  cpu : Int
  q : Int
  p : Int
  til : Int
/-- A turn. -/
structure Tn where
  cpu : Int
  ctx : Int
  exe : Int
/-- A system. -/
structure Sy where
  now : Int
  cpus : Int
  tasks : List Tsk
  locks : List Lk
  ghosts : List Gh
  floors : List Int
  seq : Int
  missed : Int
  trace : List Tn
def Gh.zero : Gh := ⟨0, 0, 0, 0⟩
def Tn.zero : Tn := ⟨0, 0, 0⟩
def Sy.zero : Sy := ⟨0, 0, [], [], [], [], 0, 0, []⟩
/-- Who waits for the lock is a task of the processor cpu. -/
def onCpu (ts : List Tsk) (cpu : Int) (x : Int) : Bool := thereB ts x && (tAt ts x).cpu == cpu
def lockOnB (ts : List Tsk) (l : Lk) : Bool := l.owner == 0 || (thereB ts l.owner && l.waits.all (onCpu ts (tAt ts l.owner).cpu))
def sysLocksB (s : Sy) : Bool := s.locks.length == 5 && (locksB s.locks && s.locks.all (lockOnB s.tasks))
/-- A task with a deadline of that processor. -/
def dueOn (cpu : Int) (t : Tsk) : Bool := t.cpu == cpu && t.cls == 1
def partT (t : Tsk) : Int × Int := (t.q, t.p)
def ghOn (cpu : Int) (g : Gh) : Bool := g.cpu == cpu
def partG (g : Gh) : Int × Int := (g.q, g.p)
def sharesL (s : Sy) (cpu : Int) : List (Int × Int) := (s.tasks.filter (dueOn cpu)).map partT ++ (s.ghosts.filter (ghOn cpu)).map partG
def ghB (cpus : Int) (g : Gh) : Bool := inB g.cpu 0 (cpus - 1) && (okB g.q g.p && inB g.til 0 100040)
def ghostsB (s : Sy) : Bool := s.ghosts.all (ghB s.cpus) && decide (s.ghosts.length ≤ 12)
def fitsL (xs : List (Int × Int)) : Bool := canSumB xs && decide ((Plain.sumI xs).1 ≤ (Plain.sumI xs).2)
def headSB (s : Sy) : Bool := inB s.now 0 100000 && (inB s.cpus 1 4 && (tasksB s.tasks && (sysLocksB s && (ghostsB s && ((s.floors.length : Int) == s.cpus && (inB s.seq 0 1000000 && (inB s.missed 0 100000 && decide (s.trace.length ≤ 400))))))))
def floorI (s : Sy) (cpu : Int) : Int := if inB cpu 0 ((s.floors.length : Int) - 1) then s.floors.getD cpu.toNat 0 else 0
def cpuB (s : Sy) (cpu : Nat) : Bool := inB (s.floors.getD cpu 0) 0 100000000 && fitsL (sharesL s cpu)
def sysB (s : Sy) : Bool := headSB s && (s.tasks.all (fun t => decide (t.cpu < s.cpus)) && (List.range s.cpus.toNat).all (cpuB s))
def newS (cpus : Int) : Sy := if inB cpus 1 4 then { Sy.zero with cpus := cpus, locks := List.replicate 5 ⟨0, []⟩, floors := List.replicate cpus.toNat 0 } else Sy.zero
def sameB (s : Sy) (i no : Int) : Bool := inB i 0 ((s.locks.length : Int) - 1) && (thereB s.tasks no && (ownerAt s.locks i.toNat == 0 || (thereB s.tasks (ownerAt s.locks i.toNat) && (tAt s.tasks (ownerAt s.locks i.toNat)).cpu == (tAt s.tasks no).cpu)))
end Go.Proofs.YtpikopdfkhagmaaGreatDoor
namespace Go.Proofs.YtpikopdfkhagmaaGreatDoor
open Go.RowKit

def turnIn (t : Tn) : Prop := (0 ≤ t.cpu ∧ t.cpu < 4) ∧ 0 ≤ t.ctx ∧ t.ctx ≤ 40
end Go.Proofs.YtpikopdfkhagmaaGreatDoor
namespace Go.Proofs.YtpikopdfkhagmaaGreatDoor
open Go.RowKit

/-- From the place k on stand these values. -/
def setLs (xs : List Value) (k : Nat) : List Value → List Value
  | [] => xs
  | v :: r => setLs (xs.set k v) (k + 1) r
theorem setLs_right (A : List Value) : ∀ (L B : List Value) (k : Nat), setLs (A ++ B) (A.length + k) L = A ++ setLs B k L
  | [], _, _ => rfl
  | v :: r, B, k => by
    rw [setLs, setLs, List.set_append_right _ _ (by omega), Nat.add_assoc, show A.length + k - A.length = k by omega]
    exact setLs_right A r (B.set k v) (k + 1)
theorem setLs_all : ∀ (L A B : List Value), A.length = L.length → setLs (A ++ B) 0 L = L ++ B
  | [], A, B, h => by
    have : A = [] := List.length_eq_zero_iff.1 h
    subst this
    rfl
  | v :: r, [], B, h => by simp at h
  | v :: r, a :: A, B, h => by
    have h1 := setLs_right [v] r (A ++ B) 0
    have h2 := setLs_all r A B (by simpa using h)
    rw [setLs]
    simp only [List.cons_append, List.set_cons_zero, List.nil_append, List.length_singleton, Nat.add_zero, Nat.zero_add] at h1 ⊢
    rw [h1, h2]
theorem setLs_flat {α : Type} {c : α → Array Value} {sz : Nat} (hc : ∀ x, (c x).size = sz) (x : α) : ∀ (xs : List α) (i : Nat), i < xs.length → setLs (flatC c xs) (i * sz) (c x).toList = flatC c (xs.set i x)
  | [], i, h => by simp at h
  | y :: r, 0, _ => by
    have e : flatC c (y :: r) = (c y).toList ++ flatC c r := rfl
    have e' : flatC c ((y :: r).set 0 x) = (c x).toList ++ flatC c r := rfl
    rw [e, e', Nat.zero_mul]
    exact setLs_all _ _ _ (by simp [hc])
  | y :: r, i + 1, h => by
    have e : flatC c (y :: r) = (c y).toList ++ flatC c r := rfl
    have e' : flatC c ((y :: r).set (i + 1) x) = (c y).toList ++ flatC c (r.set i x) := rfl
    have hl : (i + 1) * sz = (c y).toList.length + i * sz := by rw [Array.length_toList, hc, Nat.add_mul, Nat.one_mul, Nat.add_comm]
    rw [e, e', hl, setLs_right, setLs_flat hc x r i (by simpa using h)]
theorem ownsRow_putC {base : Nat} {e : TypeId} {size g n cap : Nat} : ∀ (L : List Value) (w : World) (k : Nat) (xs : List Value), w.ownsRow base e size (.slice (some ⟨g, 0, none⟩) n cap) n xs →
    (putC w g k L).ownsRow base e size (.slice (some ⟨g, 0, none⟩) n cap) n (setLs xs k L)
  | [], _, _, _, h => h
  | v :: r, _, k, _, h => ownsRow_putC r _ (k + 1) _ (h.stored k v).1
/-- The element i is another one now. -/
theorem Own.put {α : Type} {e : TypeId} {sz : Nat} {c : α → Array Value} {w : World} {base b cap : Nat} {xs : List α} (hc : ∀ x, (c x).size = sz) (h : Own e sz c w base (.slice (Option.some ⟨b, 0, none⟩) xs.length cap) xs) {i : Nat} (hi : i < xs.length) (x : α) :
    Own e sz c (putC w b (i * sz) (c x).toList) base (.slice (Option.some ⟨b, 0, none⟩) (xs.set i x).length cap) (xs.set i x) := by
  unfold Own at h ⊢
  rw [← setLs_flat hc x xs i hi, List.length_set]
  exact ownsRow_putC _ _ _ _ h
end Go.Proofs.YtpikopdfkhagmaaGreatDoor
namespace Go.Proofs.YtpikopdfkhagmaaGreatDoor
open Go.RowKit
attribute [local go_sem] Keeps.refl Keeps.alloc Keeps.drew Keeps.drewN

abbrev ghc (g : Gh) : Array Value := #[.int .i64 g.cpu, .int .i64 g.q, .int .i64 g.p, .int .i64 g.til]
abbrev tnc (t : Tn) : Array Value := #[.int .i64 t.cpu, .int .i64 t.ctx, .int .i64 t.exe]
theorem ghc_size (g : Gh) : (ghc g).size = 4 := rfl
theorem tnc_size (t : Tn) : (tnc t).size = 3 := rfl
theorem ghc_one (g : Gh) : ∀ u ∈ (ghc g).toList, u.oneCell' = true := by
  intro u hu
  simp at hu
  rcases hu with rfl | rfl | rfl | rfl <;> rfl
theorem tnc_one (t : Tn) : ∀ u ∈ (tnc t).toList, u.oneCell' = true := by
  intro u hu
  simp at hu
  rcases hu with rfl | rfl | rfl <;> rfl
/-- The ghosts gs lie there; the turns rs lie there. -/
abbrev Gs (w : World) (a : Option Addr) (gs : List Gh) : Prop := Lies 4 ghc w a gs
abbrev Rs (w : World) (a : Option Addr) (rs : List Tn) : Prop := Lies 3 tnc w a rs
/-- What make lays is a row of zero values. -/
theorem flat_zeros {α : Type} {c : α → Array Value} {sz : Nat} (hc : ∀ x, (c x).size = sz) (hsz : 0 < sz) (z : α) (n : Nat) : (madeCells (c z) (n * sz)).toList = flatC c (List.replicate n z) := by
  apply List.ext_getElem?
  intro j
  by_cases hj : j < n * sz
  · have hq : j / sz < n := Nat.div_lt_of_lt_mul (by rw [Nat.mul_comm]; exact hj)
    have hm : j % sz < sz := Nat.mod_lt _ hsz
    have hjj : j / sz * sz + j % sz = j := by rw [Nat.mul_comm]; exact Nat.div_add_mod j sz
    have h := flatC_at hc (List.replicate n z) (j / sz) z (by simp [hq]) (j % sz) hm
    rw [hjj] at h
    rw [h]
    simp only [madeCells, Array.getElem?_toList, Array.getElem?_map, Array.getElem?_range, hj, if_true, Option.map_some, hc]
    rw [Array.getElem?_eq_getElem (by rw [hc]; exact hm)]
    simp [hc, hm]
  · rw [List.getElem?_eq_none (by simpa [madeCells] using hj), List.getElem?_eq_none]
    have := flatC_length hc (List.replicate n z)
    simp at this
    omega
theorem Own.zeros {α : Type} {e : TypeId} {c : α → Array Value} {sz : Nat} (hc : ∀ x, (c x).size = sz) (hsz : 0 < sz) (z : α) (w : World) (n : Nat) (hn : n ≤ maxLen) :
    Own e sz c (w.alloc (.cells (madeCells (c z) (n * sz)) e)) w.heap.size (.slice (Option.some ⟨w.heap.size, 0, none⟩) n n) (List.replicate n z) := by
  have h := World.ownsRow_lit (e := e) (size := sz) (base := w.heap.size) w (madeCells (c z) (n * sz)) n (Nat.le_refl _) hn (size_madeCells _ _)
  rw [flat_zeros hc hsz] at h
  unfold Own
  rw [List.length_replicate]
  exact h
end Go.Proofs.YtpikopdfkhagmaaGreatDoor
namespace Go.Proofs.YtpikopdfkhagmaaGreatDoor
open Go.RowKit
attribute [local go_sem] Keeps.refl Keeps.alloc Keeps.drew Keeps.drewN

/-- The task t ahead of the first whose number is not below its own. -/
def ins (t : Tsk) : List Tsk → List Tsk
  | [] => [t]
  | x :: r => if decide (t.no ≤ x.no) then t :: x :: r else x :: ins t r
theorem ins_length (t : Tsk) (ts : List Tsk) : (ins t ts).length = ts.length + 1 := by
  induction ts with
  | nil => rfl
  | cons x r ih => simp only [ins]; split <;> simp [ih]
/-- The list that comes of it, and whether. -/
def putL (ts : List Tsk) (t : Tsk) : List Tsk := if tasksB ts then (if tasksB (ins t ts) then ins t ts else ts) else []
def putB (ts : List Tsk) (t : Tsk) : Bool := tasksB ts && tasksB (ins t ts)
theorem tasksB_len {ts : List Tsk} (h : tasksB ts = true) : ts.length ≤ 12 := by
  simp only [tasksB, Bool.and_eq_true, decide_eq_true_eq] at h; exact h.2

theorem tc_size (t : Tsk) : (tc t).size = 14 := rfl
theorem tc_one (t : Tsk) : ∀ u ∈ (tc t).toList, u.oneCell' = true := by
  intro u hu
  simp at hu
  rcases hu with rfl | rfl | rfl | rfl | rfl | rfl | rfl | rfl | rfl | rfl | rfl | rfl | rfl | rfl <;> rfl
/-- A row of tasks of one's own. -/
abbrev OwnT (w : World) (base : Nat) (v : Value) (ts : List Tsk) : Prop := Own 90 14 tc w base v ts

set_option maxRecDepth 100000 in
set_option maxHeartbeats 4000000 in
theorem specTaskPut_any (ba off cap : Nat) (ts : List Tsk) (t : Tsk) (w : World) (hl : ts.length ≤ maxLen) (hs : Ts w (some ⟨ba, off, none⟩) ts) :
    Calls Tryz.prog 93 #[.slice (some ⟨ba, off, none⟩) ts.length cap, tk t] w fun e w' => ∃ v, e = .returned (.tuple #[v, .bool (putB ts t)]) ∧ OwnT w' w.heap.size v (putL ts t) ∧ Keeps w w' := by
  generalize hn : ts.length = n at *
  have Hn : Hid (ts.length = n) := hn
  clear hn
  go_enter Tryz.func93, Tryz.ntmps93
  go_wp2_with fail
  have kW : Keeps w (w.alloc (.cells (tc t) 90)) := (Keeps.refl _).alloc _
  have B0 := Blk.new w (tc t) 90
  have hs0 := hs.keeps kW
  refine ((Hn.out ▸ specTasksOk_any (some ⟨ba, off, none⟩) cap ts _ (by rw [Hn.out]; exact hl) hs0 : Calls _ _ _ _ _)).mono ?_
  rintro e w1 ⟨rfl, k1⟩
  have B1 := B0.keeps k1
  have hs1 := hs0.keeps k1
  have kw1 := kW.trans k1
  clear kW B0 hs0 k1 hs
  cases hb : tasksB ts
  · have Hb : Hid (putB ts t = false) := by show _ = _; simp [putB, hb]
    have Hp : Hid (putL ts t = []) := by show _ = _; simp [putL, hb]
    go_wp2
    go_ret2
    exact ⟨_, by rw [Hb.out]; rfl, by rw [Hp.out]; exact Own.new 90 14 tc w1 kw1.size, kw1.alloc _⟩
  · have h12 : n ≤ 12 := by rw [← Hn.out]; exact tasksB_len hb
    have Hts : Hid (tasksB ts = true) := hb
    clear hb
    go_wp2_with fail
    have kz : Keeps w1 (w1.alloc (.cells #[] 90)) := (Keeps.refl _).alloc _
    have own0 : OwnT (w1.alloc (.cells #[] 90)) w1.heap.size (.slice (some ⟨w1.heap.size, 0, none⟩) 0 0) [] := Own.new 90 14 tc w1 (Nat.le_refl _)
    generalize w1.alloc (.cells #[] 90) = W at *
    have b0 : ∀ w', Keeps w1 w' → ∀ k, w'.cell? ⟨w.heap.size, k, none⟩ = (tc t)[k]? := fun w' h => (B1.keeps h).cells
    clear B1
    go_loopw [6, 7, 8] (fun v p i wr => ∃ (k : Nat) (put : Bool) (xs : List Tsk), k ≤ n ∧ i = .int .i64 k ∧ p = .bool put ∧ OwnT wr w1.heap.size v xs ∧ Keeps w1 wr ∧ Hid (xs ++ (if put then ts.drop k else ins t (ts.drop k)) = ins t ts)) (fun _ _ i _ => n - (intOf i).toNat)
    case atStart => exact ⟨0, false, [], Nat.zero_le _, rfl, rfl, own0, kz, by show _ = _; simp⟩
    case round =>
      obtain ⟨k, put, xs, hk', rfl, rfl, hown, hk, HI⟩ := hrel
      clear own0 kz
      have hxl : xs.length ≤ 13 := by
        have := congrArg List.length HI.out
        rw [List.length_append, ins_length, Hn.out] at this
        omega
      by_cases hlt : k < n
      · obtain ⟨x, hx⟩ := some_at (xs := ts) (k := k) (by rw [Hn.out]; exact hlt)
        have Hd : Hid (ts.drop k = x :: ts.drop (k + 1)) := by
          show _ = _
          rw [List.drop_eq_getElem_cons (by rw [Hn.out]; exact hlt)]
          congr 1
          rw [List.getElem?_eq_getElem (by rw [Hn.out]; exact hlt)] at hx
          simpa using hx
        obtain ⟨ba', off', e', r0, r1⟩ := hs1.at hx (by omega)
        simp only [Option.some.injEq, Addr.mk.injEq] at e'
        obtain ⟨rfl, rfl, -⟩ := e'
        have hlt' : (k : Int) < (n : Int) := by omega
        have HS : Hid (Lies 14 tc w1 (some ⟨ba, off, none⟩) ts) := hs1
        clear hx hs1
        cases put
        · cases hd : decide (t.no ≤ x.no)
          · go_wp2
            refine wp_region_held_drew (S := (fun w' => Keeps w1 w')) (by kernel_rfl) ?_ (fun hHeld => ?_)
            · exact Keeps.drew (by assumption)
            refine Plan.go [0, 1, 2, 3, 4, 5, 6, 7, 8, 9, 10, 11] ?_
            iterate 12 (refine takeL (by simp only [opsAt]; rfl) (by kernel_rfl) (by exact fun _ _ _ h => h) (by rfl) (by assumption) (fun w _ => by go_simp; try (with_reducible rfl)) ?_; try simp only [putAtH])
            refine Plan.nil ?_
            refine wpAnyH_done (by kernel_rfl) ?_ _
            go_wp2_with (at_builtin; (refine wpList_push rfl _ _ 38 rfl w1 90 (tk Tsk.zero) 14 112 tc Tryz.underlying38 (by kernel_rfl) rfl (by decide) tc_size tc_one _ xs rfl wr hown hk (((Keeps.refl _).alloc _).drew) x _ 1 ((Blk.new _ _ _).keeps (Keeps.refl _).drew) rfl ?c1 ?c2 ?_))
            case c1 => unfold maxLen; omega
            case c2 => omega
            intro v' w5 hown5 k5 _
            have HO : Hid (OwnT w5 w1.heap.size v' (xs ++ [x])) := hown5
            clear hown5 hown
            go_wp2
            refine ⟨⟨k + 1, false, xs ++ [x], by omega, by go_num, rfl, HO.out, k5, ?_⟩, by simp only [intOf]; omega⟩
            show _ = _
            rw [← HI.out, Hd.out]
            simp [ins, hd]
          · go_wp2
            refine wp_region_held_drew (S := (fun w' => Keeps w1 w')) (by kernel_rfl) ?_ (fun hHeld => ?_)
            · exact Keeps.drew (by assumption)
            refine Plan.go [0, 1, 2, 3, 4, 5, 6, 7, 8, 9, 10, 11] ?_
            iterate 12 (refine takeL (by simp only [opsAt]; rfl) (by kernel_rfl) (by exact fun _ _ _ h => h) (by rfl) (by assumption) (fun w _ => by go_simp; try (with_reducible rfl)) ?_; try simp only [putAtH])
            refine Plan.nil ?_
            refine wpAnyH_done (by kernel_rfl) ?_ _
            go_wp2_with (at_builtin; (refine wpList_push rfl _ _ 38 rfl w1 90 (tk Tsk.zero) 14 112 tc Tryz.underlying38 (by kernel_rfl) rfl (by decide) tc_size tc_one _ xs rfl wr hown hk (((Keeps.refl _).alloc _).drew) t _ 1 ((Blk.new _ _ _).keeps (Keeps.refl _).drew) rfl ?c1 ?c2 ?_))
            case c1 => unfold maxLen; omega
            case c2 => omega
            intro v' w5 hown5 k5 _
            have HO : Hid (OwnT w5 w1.heap.size v' (xs ++ [t])) := hown5
            clear hown
            go_wp2_with (at_builtin; (refine wpList_push rfl _ _ 38 rfl w1 90 (tk Tsk.zero) 14 112 tc Tryz.underlying38 (by kernel_rfl) rfl (by decide) tc_size tc_one _ (xs ++ [t]) rfl w5 hown5 k5 ((Keeps.refl _).alloc _) x _ 1 (Blk.new _ _ _) rfl ?c1 ?c2 ?_))
            case c1 => unfold maxLen; simp; omega
            case c2 => simp; omega
            intro v6 w6 hown6 k6 _
            have HO6 : Hid (OwnT w6 w1.heap.size v6 (xs ++ [t, x])) := hown6
            clear hown5 hown6
            go_wp2
            refine ⟨⟨k + 1, true, xs ++ [t, x], by omega, by go_num, rfl, HO6.out, k6, ?_⟩, by simp only [intOf]; omega⟩
            show _ = _
            rw [← HI.out, Hd.out]
            simp [ins, hd]
        · go_wp2
          refine wp_region_held_drew (S := (fun w' => Keeps w1 w')) (by kernel_rfl) ?_ (fun hHeld => ?_)
          · exact Keeps.drew (by assumption)
          refine Plan.go [0, 1, 2] ?_
          iterate 3 (refine takeL (by simp only [opsAt]; rfl) (by kernel_rfl) (by exact fun _ _ _ h => h) (by rfl) (by assumption) (fun w _ => by go_simp; try (with_reducible rfl)) ?_; try simp only [putAtH])
          refine Plan.nil ?_
          refine Plan.go [3, 4, 5, 6, 7, 8, 9, 10] ?_
          iterate 8 (refine skipL (by simp only [opsAt]; rfl) (by kernel_rfl) (by exact fun _ _ _ h => h) (by rfl) (by assumption) ?_; try simp only [putAtH])
          refine Plan.nil ?_
          refine takeH 11 (v := ?_) (by simp only [opsAt]; rfl) (by kernel_rfl) (by exact fun _ _ _ h => h) (by rfl) (by assumption) ?_ ?_
          rotate_left
          · (intro w _; go_simp; try (with_reducible rfl))
          try simp only [putAtH]
          refine wpAnyH_done (by kernel_rfl) ?_ _
          go_wp2_with (at_builtin; (refine wpList_push rfl _ _ 38 rfl w1 90 (tk Tsk.zero) 14 112 tc Tryz.underlying38 (by kernel_rfl) rfl (by decide) tc_size tc_one _ xs rfl wr hown hk (((Keeps.refl _).alloc _).drew) x _ 1 ((Blk.new _ _ _).keeps (Keeps.refl _).drew) rfl ?c1 ?c2 ?_))
          case c1 => unfold maxLen; omega
          case c2 => omega
          intro v' w5 hown5 k5 _
          have HO : Hid (OwnT w5 w1.heap.size v' (xs ++ [x])) := hown5
          clear hown5 hown
          go_wp2
          refine ⟨⟨k + 1, true, xs ++ [x], by omega, by go_num, rfl, HO.out, k5, ?_⟩, by simp only [intOf]; omega⟩
          show _ = _
          rw [← HI.out, Hd.out]
          simp
      · have e : k = n := by omega
        subst e
        have hdn : ts.drop k = [] := List.drop_eq_nil_of_le (by rw [Hn.out]; exact Nat.le_refl _)
        have hI := HI.out
        rw [hdn] at hI
        clear hdn HI hk' hlt
        cases put
        · have HI : Hid (xs ++ [t] = ins t ts) := by
            show _ = _
            simpa [ins] using hI
          clear hI
          go_wp2_with (at_builtin; (refine wpList_push rfl _ _ 38 rfl w1 90 (tk Tsk.zero) 14 112 tc Tryz.underlying38 (by kernel_rfl) rfl (by decide) tc_size tc_one _ xs rfl wr hown hk ((Keeps.refl _).alloc _) t _ 1 (Blk.new _ _ _) rfl ?c1 ?c2 ?_))
          case c1 => unfold maxLen; omega
          case c2 => omega
          intro v2 w2 hown2 hk2 _
          clear hown hk
          have hown := hown2
          have hk := hk2
          obtain ⟨ys, HY⟩ : ∃ ys, Hid (ys = xs ++ [t]) := ⟨_, rfl⟩
          rw [← HY.out] at hown
          have HX0 : Hid (ys = ins t ts) := HY.out.trans HI.out
          clear hown2 hk2 HI HY hxl xs
          revert HX0
          revert hown
          generalize ys = xs
          intro hown HX
          obtain ⟨av, cv, rfl, hlies, hcv, hmv⟩ := hown.slice tc_size
          have hxl : Hid (xs.length = ts.length + 1) := by show _ = _; rw [HX.out, ins_length]
          go_wp2_with fail
          refine (specTasksOk_any av cv xs _ (by rw [hxl.out, Hn.out]; unfold maxLen; omega) hlies).mono ?_
          rintro e w3 ⟨rfl, k3⟩
          have hown3 := hown.keeps k3
          have kw3 := hk.trans k3
          have hX := HX.out
          subst hX
          cases hq : tasksB (ins t ts)
          · have Hb : Hid (putB ts t = false) := by show _ = _; simp [putB, hq]
            have Hp : Hid (putL ts t = ts) := by show _ = _; simp [putL, hq, Hts.out]
            clear hown hown3 hlies
            have hts3 := hs1.keeps kw3
            go_wp2_with (at_builtin; (refine wpList_pushAll rfl _ _ 38 rfl w3 90 (tk Tsk.zero) 14 112 tc Tryz.underlying38 (by kernel_rfl) rfl (by decide) tc_size tc_one _ [] rfl (Own.new 90 14 tc w3 (Nat.le_refl _)) ((Keeps.refl _).alloc _) ba off cap ts (by rw [Hn.out]; rfl) (hts3.keeps ((Keeps.refl _).alloc _)) ?c1 ?c2 ?_))
            case c1 => rw [Hn.out]; unfold maxLen; simp; omega
            case c2 => rw [Hn.out]; simp; omega
            intro v' w5 hown5 k5 _
            have HO : Hid (OwnT w5 w3.heap.size v' ([] ++ ts)) := hown5
            clear hown5
            go_wp2
            go_ret2
            exact ⟨_, by rw [Hb.out]; rfl, by rw [Hp.out]; exact Own.base HO.out (kw1.trans kw3).size, (kw1.trans kw3).trans k5⟩
          · have Hb : Hid (putB ts t = true) := by show _ = _; simp [putB, hq, Hts.out]
            have Hp : Hid (putL ts t = ins t ts) := by show _ = _; simp [putL, hq, Hts.out]
            go_wp2
            go_ret2
            exact ⟨_, by rw [Hb.out]; rfl, by rw [Hp.out]; exact Own.base hown3 kw1.size, kw1.trans kw3⟩
        · have HX : Hid (xs = ins t ts) := by
            show _ = _
            simpa using hI
          clear hI hxl
          obtain ⟨av, cv, rfl, hlies, hcv, hmv⟩ := hown.slice tc_size
          have hxl : Hid (xs.length = ts.length + 1) := by show _ = _; rw [HX.out, ins_length]
          go_wp2_with fail
          refine (specTasksOk_any av cv xs _ (by rw [hxl.out, Hn.out]; unfold maxLen; omega) hlies).mono ?_
          rintro e w3 ⟨rfl, k3⟩
          have hown3 := hown.keeps k3
          have kw3 := hk.trans k3
          have hX := HX.out
          subst hX
          cases hq : tasksB (ins t ts)
          · have Hb : Hid (putB ts t = false) := by show _ = _; simp [putB, hq]
            have Hp : Hid (putL ts t = ts) := by show _ = _; simp [putL, hq, Hts.out]
            clear hown hown3 hlies
            have hts3 := hs1.keeps kw3
            go_wp2_with (at_builtin; (refine wpList_pushAll rfl _ _ 38 rfl w3 90 (tk Tsk.zero) 14 112 tc Tryz.underlying38 (by kernel_rfl) rfl (by decide) tc_size tc_one _ [] rfl (Own.new 90 14 tc w3 (Nat.le_refl _)) ((Keeps.refl _).alloc _) ba off cap ts (by rw [Hn.out]; rfl) (hts3.keeps ((Keeps.refl _).alloc _)) ?c1 ?c2 ?_))
            case c1 => rw [Hn.out]; unfold maxLen; simp; omega
            case c2 => rw [Hn.out]; simp; omega
            intro v' w5 hown5 k5 _
            have HO : Hid (OwnT w5 w3.heap.size v' ([] ++ ts)) := hown5
            clear hown5
            go_wp2
            go_ret2
            exact ⟨_, by rw [Hb.out]; rfl, by rw [Hp.out]; exact Own.base HO.out (kw1.trans kw3).size, (kw1.trans kw3).trans k5⟩
          · have Hb : Hid (putB ts t = true) := by show _ = _; simp [putB, hq, Hts.out]
            have Hp : Hid (putL ts t = ins t ts) := by show _ = _; simp [putL, hq, Hts.out]
            go_wp2
            go_ret2
            exact ⟨_, by rw [Hb.out]; rfl, by rw [Hp.out]; exact Own.base hown3 kw1.size, kw1.trans kw3⟩
end Go.Proofs.YtpikopdfkhagmaaGreatDoor
