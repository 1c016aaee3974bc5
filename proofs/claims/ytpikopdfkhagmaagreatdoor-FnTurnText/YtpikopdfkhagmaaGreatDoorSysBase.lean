/-
  Where a system lies: its nine cells, and its five rows.
  A row is copied: append onto an empty row of one's own.
  A task is put among none: the model's TaskPut of no row at all.
  A system of one's own: one row of it is another one now, the others are as they were.
-/
import Derived.Test.YtpikopdfkhagmaaGreatDoorSum
import Derived.Test.YtpikopdfkhagmaaGreatDoorPickSpec2
import Derived.Test.YtpikopdfkhagmaaGreatDoorTasksOkS
import Derived.Test.YtpikopdfkhagmaaGreatDoorLockSpec3
namespace Go.Proofs.YtpikopdfkhagmaaGreatDoor
open Go.RowKit

/-- A row as a slice. -/
structure Rw where
  a : Option Addr
  n : Nat
  cap : Nat
abbrev Rw.val (x : Rw) : Value := .slice x.a x.n x.cap
/-- The rows of a system. -/
structure Sv where
  t : Rw
  l : Rw
  g : Rw
  f : Rw
  r : Rw
abbrev syc (s : Sy) (v : Sv) : Array Value := #[.int .i64 s.now, .int .i64 s.cpus, .slice v.t.a v.t.n v.t.cap, .slice v.l.a v.l.n v.l.cap, .slice v.g.a v.g.n v.g.cap, .slice v.f.a v.f.n v.f.cap, .int .i64 s.seq, .int .i64 s.missed, .slice v.r.a v.r.n v.r.cap]
/-- How many there are, of all kinds. -/
def sizeS (s : Sy) : Nat := s.tasks.length + sizeN s.locks + s.ghosts.length + s.floors.length + s.trace.length
/-- A system as it is handed to a law. -/
structure SysLay (p : Bool) (w : World) (v : Sv) (s : Sy) : Prop where
  tl : s.tasks.length = v.t.n
  tm : v.t.n ≤ maxLen
  t : Ts w v.t.a s.tasks
  ll : s.locks.length = v.l.n
  lm : v.l.n ≤ maxLen
  l : Lks p w v.l.a s.locks
  gl : s.ghosts.length = v.g.n
  gm : v.g.n ≤ maxLen
  g : Gs w v.g.a s.ghosts
  fl : s.floors.length = v.f.n
  fm : v.f.n ≤ maxLen
  f : Ns w v.f.a s.floors
  rl : s.trace.length = v.r.n
  rm : v.r.n ≤ maxLen
  r : Rs w v.r.a s.trace
theorem SysLay.keeps {p : Bool} {w w' : World} {v : Sv} {s : Sy} (h : SysLay p w v s) (k : Keeps w w') : SysLay p w' v s :=
  ⟨h.tl, h.tm, h.t.keeps k, h.ll, h.lm, h.l.keeps k, h.gl, h.gm, h.g.keeps k, h.fl, h.fm, h.f.keeps k, h.rl, h.rm, h.r.keeps k⟩
/-- A system as it is handed on. -/
structure SysOn (w : World) (v : Sv) (s : Sy) : Prop where
  lay : SysLay true w v s
  tc : Plain w v.t.a v.t.n v.t.cap
  lc : Plain w v.l.a v.l.n v.l.cap
  gc : Plain w v.g.a v.g.n v.g.cap
  fc : Plain w v.f.a v.f.n v.f.cap
  rc : Plain w v.r.a v.r.n v.r.cap
  size : sizeS s ≤ 2000000
theorem SysOn.keeps {w w' : World} {v : Sv} {s : Sy} (h : SysOn w v s) (k : Keeps w w') : SysOn w' v s := ⟨h.lay.keeps k, h.tc.keeps k, h.lc.keeps k, h.gc.keeps k, h.fc.keeps k, h.rc.keeps k, h.size⟩
theorem SysOn.onT {w : World} {v : Sv} {s : Sy} (h : SysOn w v s) : OnT w v.t.a v.t.n v.t.cap s.tasks := ⟨h.lay.tl, by rw [h.lay.tl]; exact h.lay.tm, h.lay.t⟩
theorem SysOn.onL {w : World} {v : Sv} {s : Sy} (h : SysOn w v s) : On w v.l.a v.l.n v.l.cap s.locks := ⟨h.lay.ll, by have := h.size; unfold sizeS at this; omega, h.lay.l, h.lc⟩
/-- Which blocks are of which kind. -/
def ofKind (v : Sv) (vs : List Lv) : Nat → Nat → Prop
  | 0, b => v.t.val.ownBlock = some b
  | 1, b => v.l.val.ownBlock = some b ∨ ∃ x ∈ vs, x.row.ownBlock = some b
  | 2, b => v.g.val.ownBlock = some b
  | 3, b => v.f.val.ownBlock = some b
  | 4, b => v.r.val.ownBlock = some b
  | _, _ => False
/-- A system of one's own: no row lies in another one's block. -/
structure OwnS (w : World) (lo : Nat) (v : Sv) (vs : List Lv) (s : Sy) : Prop where
  t : Own 90 14 tc w lo v.t.val s.tasks
  l : Mine w lo w.heap.size v.l.val vs s.locks
  g : Own 129 4 ghc w lo v.g.val s.ghosts
  f : OwnN w lo v.f.val s.floors
  r : Own 71 3 tnc w lo v.r.val s.trace
  ap : ∀ i j b, ofKind v vs i b → ofKind v vs j b → i = j
theorem OwnS.keeps {w w' : World} {lo : Nat} {v : Sv} {vs : List Lv} {s : Sy} (h : OwnS w lo v vs s) (k : Keeps w w') : OwnS w' lo v vs s :=
  ⟨h.t.keeps k, (h.l.keeps k).widen (Nat.le_refl _) k.size, h.g.keeps k, h.f.keeps k, h.r.keeps k, h.ap⟩
theorem OwnS.base {w : World} {lo lo' : Nat} {v : Sv} {vs : List Lv} {s : Sy} (h : OwnS w lo v vs s) (k : lo' ≤ lo) : OwnS w lo' v vs s :=
  ⟨h.t.base k, h.l.widen k (Nat.le_refl _), h.g.base k, h.f.base k, h.r.base k, h.ap⟩
theorem Plain.le {w : World} {a : Option Addr} {n cap : Nat} (h : Plain w a n cap) : n ≤ cap := by
  rcases h with ⟨-, rfl, rfl⟩ | ⟨_, _, _, _, h⟩
  · exact Nat.le_refl _
  · exact h
theorem Own.row {α : Type} {e : TypeId} {sz : Nat} {c : α → Array Value} {w : World} {base : Nat} {x : Rw} {xs : List α} (h : Own e sz c w base x.val xs) (hc : ∀ x, (c x).size = sz) : xs.length = x.n ∧ Lies sz c w x.a xs ∧ Plain w x.a x.n x.cap ∧ x.n ≤ maxLen := by
  have hb := h.ltb
  have hp : Plain w x.a x.n x.cap := by
    obtain ⟨_, ⟨e, _⟩ | ⟨b, cap, cur, e, _, _, hl, _⟩⟩ := h
    · simp only [Rw.val, Value.slice.injEq] at e
      exact .inl e
    · simp only [Rw.val, Value.slice.injEq] at e
      obtain ⟨e1, e2, e3⟩ := e
      refine .inr ⟨b, 0, e1, (hb b ?_).2, ?_⟩
      · show (Value.slice x.a x.n x.cap).ownBlock = _
        rw [e1]; rfl
      · rw [e2, e3]; exact hl
  obtain ⟨a, cap, e, l, h1, h2⟩ := h.slice hc
  simp only [Rw.val, Value.slice.injEq] at e
  obtain ⟨e1, e2, e3⟩ := e
  refine ⟨e2.symm, by rw [e1]; exact l, hp, ?_⟩
  rw [e2]; omega
theorem OwnS.on {w : World} {lo : Nat} {v : Sv} {vs : List Lv} {s : Sy} (h : OwnS w lo v vs s) (hs : sizeS s ≤ 2000000) : SysOn w v s := by
  obtain ⟨t1, t2, t3, t4⟩ := h.t.row tc_size
  obtain ⟨g1, g2, g3, g4⟩ := h.g.row ghc_size
  obtain ⟨f1, f2, f3, f4⟩ := h.f.row ic_size
  obtain ⟨r1, r2, r3, r4⟩ := h.r.row tnc_size
  obtain ⟨a, cap, e, l1, l2, l3⟩ := h.l.args
  simp only [Rw.val, Value.slice.injEq] at e
  obtain ⟨e1, e2, e3⟩ := e
  rw [← e1] at l1 l2
  rw [← e2] at l2 l3
  rw [← e3] at l2
  exact ⟨⟨t1, t4, t2, e2.symm, l3, l1, g1, g4, g2, f1, f4, Ns.of_lies f2, r1, r4, r2⟩, t3, l2, g3, f3, r3, hs⟩
/-- Five fresh rows, one behind the other: no two share a block. -/
theorem apart_of {v : Sv} {vs : List Lv} (b0 b1 b2 b3 b4 b5 : Nat) (h0 : ∀ b, v.t.val.ownBlock = some b → b0 ≤ b ∧ b < b1) (h1 : ∀ b, (v.l.val.ownBlock = some b ∨ ∃ x ∈ vs, x.row.ownBlock = some b) → b1 ≤ b ∧ b < b2)
    (h2 : ∀ b, v.g.val.ownBlock = some b → b2 ≤ b ∧ b < b3) (h3 : ∀ b, v.f.val.ownBlock = some b → b3 ≤ b ∧ b < b4) (h4 : ∀ b, v.r.val.ownBlock = some b → b4 ≤ b ∧ b < b5) (l2 : b1 ≤ b2) (l3 : b2 ≤ b3) (l4 : b3 ≤ b4) :
    ∀ i j b, ofKind v vs i b → ofKind v vs j b → i = j := by
  have key : ∀ i b, ofKind v vs i b → (i = 0 ∧ b0 ≤ b ∧ b < b1) ∨ (i = 1 ∧ b1 ≤ b ∧ b < b2) ∨ (i = 2 ∧ b2 ≤ b ∧ b < b3) ∨ (i = 3 ∧ b3 ≤ b ∧ b < b4) ∨ (i = 4 ∧ b4 ≤ b ∧ b < b5) := by
    intro i b h
    match i, h with
    | 0, h => exact .inl ⟨rfl, h0 b h⟩
    | 1, h => exact .inr (.inl ⟨rfl, h1 b h⟩)
    | 2, h => exact .inr (.inr (.inl ⟨rfl, h2 b h⟩))
    | 3, h => exact .inr (.inr (.inr (.inl ⟨rfl, h3 b h⟩)))
    | 4, h => exact .inr (.inr (.inr (.inr ⟨rfl, h4 b h⟩)))
    | n + 5, h => exact h.elim
  intro i j b hi hj
  have := key i b hi
  have := key j b hj
  omega
end Go.Proofs.YtpikopdfkhagmaaGreatDoor
namespace Go.Proofs.YtpikopdfkhagmaaGreatDoor
open Go.RowKit

theorem wpList_copy {α : Type} {P : Program} {w : World} {ops : Array Oper} {rest : List Oper} {o : Oper} {a : Act} {Q : Exit → Act → World → Prop} (hgd : o.guard = none) (s x : Operand) (t : TypeId)
    (hop : o.op = .call { callee := .builtin .append, args := #[s, x], argTypes := #[t, t] })
    (base : Nat) (e : TypeId) (z : Value) (sz bytes : Nat) (c : α → Array Value) (ht : P.underlying t = some (.slice e)) (hinfo : (P.info? e).map (fun i => (i.zero, i.size, i.bytes)) = some (some z, sz, bytes))
    (hzs : z.cells.size = sz) (hsz : 0 < sz) (hc : ∀ x, (c x).size = sz) (h1 : ∀ x, ∀ u ∈ (c x).toList, u.oneCell' = true)
    (v : Value) (hs : a.eval s = v) (hown : Own e sz c w base v []) (hbase : base ≤ w.heap.size)
    (ys : List α) (r : Rw) (hpl : Plain w r.a r.n r.cap) (hl : Lies sz c w r.a ys) (hn : ys.length = r.n) (hx : a.eval x = .slice r.a r.n r.cap)
    (h63 : ys.length ≤ 2097152) (hbytes : bytes ≤ 1000)
    (h : ∀ v' w', Own e sz c w' base v' ys → w.grownBy w' v.ownBlock → (∀ k, v'.ownBlock = some k → v.ownBlock = some k ∨ k = w.heap.size) → wpList P ops Q rest (a.put o.dst v') w') : wpList P ops Q (o :: rest) a w := by
  refine wpList_plain hgd fun K hK => ?_
  rcases hpl with ⟨e1, e2, e3⟩ | ⟨b, off, e1, hb, hle⟩
  · have hy : ys = [] := List.eq_nil_of_length_eq_zero (hn.trans e2)
    subst hy
    rw [e1, e2, e3] at hx
    obtain ⟨i, hi, hzz⟩ := Option.map_eq_some_iff.1 hinfo
    have hrun := run_append_owned_none (P := P) w base t o.type e i sz ht hi v ([] : List α).length (flatC c ([] : List α)) hown
    unfold Oper.wp
    simp [execOp, hop, resolve, invoke, builtin, hs, hx, hrun, Result.andThen]
    exact hK _ _ (h v w hown (World.grownBy.refl w v.ownBlock) fun k e => .inl e)
  · rw [e1, ← hn] at hx
    rw [e1] at hl
    have hb2 : (0 + ys.length) * bytes ≤ 140737488355328 := by
      have : ys.length * bytes ≤ 2097152 * 1000 := Nat.mul_le_mul h63 hbytes
      rw [Nat.zero_add]; omega
    obtain ⟨v', w', hrun, r1, r2, r3⟩ := run_push (P := P) w base t o.type e z sz bytes c ht hinfo hzs hsz hc h1 v [] hown hbase ys b off r.cap hl (by simp [maxLen]; omega) hb2
    unfold Oper.wp
    simp [execOp, hop, resolve, invoke, builtin, hs, hx, hrun, Result.andThen]
    exact hK _ _ (h v' w' (by simpa using r1) r2 r3)
end Go.Proofs.YtpikopdfkhagmaaGreatDoor
namespace Go.Proofs.YtpikopdfkhagmaaGreatDoor
open Go.RowKit
attribute [local go_sem] Keeps.refl Keeps.alloc Keeps.drew Keeps.drewN

set_option maxRecDepth 100000 in
set_option maxHeartbeats 4000000 in
theorem specTaskPut_nil (t : Tsk) (w : World) :
    Calls Tryz.prog 93 #[.slice none 0 0, tk t] w fun e w' => ∃ v, e = .returned (.tuple #[v, .bool (putB [] t)]) ∧ OwnT w' w.heap.size v (putL [] t) ∧ Keeps w w' := by
  go_enter Tryz.func93, Tryz.ntmps93
  go_wp2_with fail
  have kW : Keeps w (w.alloc (.cells (tc t) 90)) := (Keeps.refl _).alloc _
  have B0 := Blk.new w (tc t) 90
  refine (specTasksOk_any none 0 [] _ (by unfold maxLen; simp) (.inl rfl)).mono ?_
  rintro e w1 ⟨rfl, k1⟩
  have B1 := B0.keeps k1
  have kw1 := kW.trans k1
  clear kW B0 k1
  have hb : tasksB [] = true := by rfl
  rw [hb]
  go_wp2_with fail
  have kz : Keeps w1 (w1.alloc (.cells #[] 90)) := (Keeps.refl _).alloc _
  have own0 : OwnT (w1.alloc (.cells #[] 90)) w1.heap.size (.slice (some ⟨w1.heap.size, 0, none⟩) 0 0) [] := Own.new 90 14 tc w1 (Nat.le_refl _)
  generalize w1.alloc (.cells #[] 90) = W at *
  have b0 : ∀ w', Keeps w1 w' → ∀ k, w'.cell? ⟨w.heap.size, k, none⟩ = (tc t)[k]? := fun w' h => (B1.keeps h).cells
  clear B1
  go_loopw [6, 7, 8] (fun v p i wr => v = .slice (some ⟨w1.heap.size, 0, none⟩) 0 0 ∧ i = .int .i64 0 ∧ p = .bool false ∧ wr = W) (fun _ _ _ _ => 0)
  case atStart => exact ⟨rfl, rfl, rfl, rfl⟩
  case round =>
    obtain ⟨rfl, rfl, rfl, rfl⟩ := hrel
    go_wp2_with (at_builtin; (refine wpList_push rfl _ _ 38 rfl w1 90 (tk Tsk.zero) 14 112 tc Tryz.underlying38 (by kernel_rfl) rfl (by decide) tc_size tc_one _ [] rfl wr own0 kz ((Keeps.refl _).alloc _) t _ 1 (Blk.new _ _ _) rfl ?c1 ?c2 ?_))
    case c1 => unfold maxLen; simp
    case c2 => simp
    intro v2 w2 hown2 hk2 _
    have hown : OwnT w2 w1.heap.size v2 [t] := hown2
    clear hown2
    obtain ⟨av, cv, rfl, hlies, hcv, hmv⟩ := hown.slice tc_size
    go_wp2_with fail
    refine (specTasksOk_any av cv [t] _ (by unfold maxLen; simp) hlies).mono ?_
    rintro e w3 ⟨rfl, k3⟩
    have hown3 := hown.keeps k3
    have kw3 := hk2.trans k3
    cases hq : tasksB [t]
    · have Hb : Hid (putB [] t = false) := by show _ = _; simp [putB, ins, hq]
      have Hp : Hid (putL [] t = []) := by show _ = _; simp [putL, ins, hq]
      clear hown hown3 hlies
      go_wp2_with (at_builtin; (refine wpList_copy rfl _ _ 38 rfl w3.heap.size 90 (tk Tsk.zero) 14 112 tc Tryz.underlying38 (by kernel_rfl) rfl (by decide) tc_size tc_one (.slice (some ⟨w3.heap.size, 0, none⟩) 0 0) rfl (Own.new 90 14 tc w3 (Nat.le_refl _)) (by simp) [] ⟨none, 0, 0⟩ (.inl ⟨rfl, rfl, rfl⟩) (.inl rfl) rfl rfl (by simp) (by decide) ?_))
      intro v5 w5 o5 g5 f5
      have HO : Hid (OwnT w5 w3.heap.size v5 []) := o5
      have K5 : Keeps w3 w5 := ((Keeps.refl w3).alloc _).grown g5 (by intro q hq; simp [Value.ownBlock] at hq; omega)
      clear o5 g5 f5
      go_wp2
      go_ret2
      exact ⟨_, by rw [Hb.out]; rfl, by rw [Hp.out]; exact Own.base HO.out (kw1.trans kw3).size, (kw1.trans kw3).trans K5⟩
    · have Hb : Hid (putB [] t = true) := by show _ = _; simp [putB, ins, hq, hb]
      have Hp : Hid (putL [] t = [t]) := by show _ = _; simp [putL, ins, hq, hb]
      go_wp2
      go_ret2
      exact ⟨_, by rw [Hb.out]; rfl, by rw [Hp.out]; exact Own.base hown3 kw1.size, kw1.trans kw3⟩
end Go.Proofs.YtpikopdfkhagmaaGreatDoor
namespace Go.Proofs.YtpikopdfkhagmaaGreatDoor
open Go.RowKit

/-- The blocks of a list of locks. -/
def LkBlk (v : Value) (vs : List Lv) (b : Nat) : Prop := v.ownBlock = some b ∨ ∃ x ∈ vs, x.row.ownBlock = some b
theorem Mine.sameB {w w' : World} {lo hi : Nat} {v : Value} {vs : List Lv} {ls : List Lk} (h : Mine w lo hi v vs ls) (k : ∀ b, LkBlk v vs b → w'.heap[b]? = w.heap[b]?) : Mine w' lo hi v vs ls :=
  ⟨h.len, h.own.same fun b e => k b (.inl e), h.out, fun i x l hx hl => ⟨(h.rows i x l hx hl).1, (h.rows i x l hx hl).2.same fun b e => k b (.inr ⟨x, List.mem_of_getElem? hx, e⟩)⟩, h.inn, h.apart⟩
theorem Mine.blkLt {w : World} {lo hi : Nat} {v : Value} {vs : List Lv} {ls : List Lk} (h : Mine w lo hi v vs ls) {b : Nat} (hb : LkBlk v vs b) : lo ≤ b ∧ b < w.heap.size := by
  rcases hb with e | ⟨x, hx, e⟩
  · exact h.own.ltb b e
  · obtain ⟨i, hi⟩ := List.mem_iff_getElem?.1 hx
    obtain ⟨l, hl⟩ := some_in (xs := ls) (k := i) (by rw [← h.len]; exact lt_of_some hi)
    exact (h.rows i x l hi hl).2.ltb b e
theorem OwnS.blkLt {w : World} {lo : Nat} {v : Sv} {vs : List Lv} {s : Sy} (h : OwnS w lo v vs s) {i b : Nat} (hb : ofKind v vs i b) : lo ≤ b ∧ b < w.heap.size := by
  match i, hb with
  | 0, hb => exact h.t.ltb b hb
  | 1, hb => exact h.l.blkLt hb
  | 2, hb => exact h.g.ltb b hb
  | 3, hb => exact h.f.ltb b hb
  | 4, hb => exact h.r.ltb b hb
/-- Where the kind i alone has turned. -/
theorem OwnS.others {w w' : World} {lo : Nat} {v : Sv} {vs : List Lv} {s : Sy} (h : OwnS w lo v vs s) (i : Nat) (k : ∀ b, b < w.heap.size → ¬ ofKind v vs i b → w'.heap[b]? = w.heap[b]?) {j b : Nat} (hj : j ≠ i) (hb : ofKind v vs j b) : w'.heap[b]? = w.heap[b]? :=
  k b (h.blkLt hb).2 fun hi => hj (h.ap j i b hb hi)
theorem apart_new {w : World} {lo : Nat} {v v' : Sv} {vs vs' : List Lv} {s : Sy} (h : OwnS w lo v vs s) (i : Nat) (hi : ∀ b, ofKind v' vs' i b → ofKind v vs i b ∨ w.heap.size ≤ b) (ho : ∀ j b, j ≠ i → ofKind v' vs' j b → ofKind v vs j b) :
    ∀ j k b, ofKind v' vs' j b → ofKind v' vs' k b → j = k := by
  intro j k b hj hk
  by_cases ej : j = i
  · by_cases ek : k = i
    · omega
    · have h2 := ho k b ek hk
      rw [ej] at hj
      rcases hi b hj with h1 | h1
      · rw [ej]; exact h.ap i k b h1 h2
      · have := (h.blkLt h2).2; omega
  · have h1 := ho j b ej hj
    by_cases ek : k = i
    · rw [ek] at hk
      rcases hi b hk with h2 | h2
      · rw [ek]; exact h.ap j i b h1 h2
      · have := (h.blkLt h1).2; omega
    · exact h.ap j k b h1 (ho k b ek hk)
/-- The row of tasks is another one now: it lies where it lay, or in a new block. -/
theorem OwnS.setT {w w' : World} {lo : Nat} {v : Sv} {vs : List Lv} {s : Sy} (h : OwnS w lo v vs s) (hz : w.heap.size ≤ w'.heap.size) (k : ∀ b, b < w.heap.size → ¬ ofKind v vs 0 b → w'.heap[b]? = w.heap[b]?) (x : Rw) (xs : List Tsk) (O : Own 90 14 tc w' lo x.val xs) (hx : ∀ b, x.val.ownBlock = some b → v.t.val.ownBlock = some b ∨ w.heap.size ≤ b) :
    OwnS w' lo { v with t := x } vs { s with tasks := xs } :=
  ⟨O, (h.l.sameB fun b e => h.others 0 k (j := 1) (by decide) e).widen (Nat.le_refl _) hz, h.g.same fun b e => h.others 0 k (j := 2) (by decide) e, h.f.same fun b e => h.others 0 k (j := 3) (by decide) e, h.r.same fun b e => h.others 0 k (j := 4) (by decide) e, apart_new h 0 hx (by
      intro j b hj hb
      match j, hb with
      | 0, hb => exact absurd rfl hj
      | 1, hb => exact hb
      | 2, hb => exact hb
      | 3, hb => exact hb
      | 4, hb => exact hb)⟩
/-- The row of ghosts is another one now: it lies where it lay, or in a new block. -/
theorem OwnS.setG {w w' : World} {lo : Nat} {v : Sv} {vs : List Lv} {s : Sy} (h : OwnS w lo v vs s) (hz : w.heap.size ≤ w'.heap.size) (k : ∀ b, b < w.heap.size → ¬ ofKind v vs 2 b → w'.heap[b]? = w.heap[b]?) (x : Rw) (xs : List Gh) (O : Own 129 4 ghc w' lo x.val xs) (hx : ∀ b, x.val.ownBlock = some b → v.g.val.ownBlock = some b ∨ w.heap.size ≤ b) :
    OwnS w' lo { v with g := x } vs { s with ghosts := xs } :=
  ⟨h.t.same fun b e => h.others 2 k (j := 0) (by decide) e, (h.l.sameB fun b e => h.others 2 k (j := 1) (by decide) e).widen (Nat.le_refl _) hz, O, h.f.same fun b e => h.others 2 k (j := 3) (by decide) e, h.r.same fun b e => h.others 2 k (j := 4) (by decide) e, apart_new h 2 hx (by
      intro j b hj hb
      match j, hb with
      | 0, hb => exact hb
      | 1, hb => exact hb
      | 2, hb => exact absurd rfl hj
      | 3, hb => exact hb
      | 4, hb => exact hb)⟩
/-- The row of floors is another one now: it lies where it lay, or in a new block. -/
theorem OwnS.setF {w w' : World} {lo : Nat} {v : Sv} {vs : List Lv} {s : Sy} (h : OwnS w lo v vs s) (hz : w.heap.size ≤ w'.heap.size) (k : ∀ b, b < w.heap.size → ¬ ofKind v vs 3 b → w'.heap[b]? = w.heap[b]?) (x : Rw) (xs : List Int) (O : OwnN w' lo x.val xs) (hx : ∀ b, x.val.ownBlock = some b → v.f.val.ownBlock = some b ∨ w.heap.size ≤ b) :
    OwnS w' lo { v with f := x } vs { s with floors := xs } :=
  ⟨h.t.same fun b e => h.others 3 k (j := 0) (by decide) e, (h.l.sameB fun b e => h.others 3 k (j := 1) (by decide) e).widen (Nat.le_refl _) hz, h.g.same fun b e => h.others 3 k (j := 2) (by decide) e, O, h.r.same fun b e => h.others 3 k (j := 4) (by decide) e, apart_new h 3 hx (by
      intro j b hj hb
      match j, hb with
      | 0, hb => exact hb
      | 1, hb => exact hb
      | 2, hb => exact hb
      | 3, hb => exact absurd rfl hj
      | 4, hb => exact hb)⟩
/-- The row of trace is another one now: it lies where it lay, or in a new block. -/
theorem OwnS.setR {w w' : World} {lo : Nat} {v : Sv} {vs : List Lv} {s : Sy} (h : OwnS w lo v vs s) (hz : w.heap.size ≤ w'.heap.size) (k : ∀ b, b < w.heap.size → ¬ ofKind v vs 4 b → w'.heap[b]? = w.heap[b]?) (x : Rw) (xs : List Tn) (O : Own 71 3 tnc w' lo x.val xs) (hx : ∀ b, x.val.ownBlock = some b → v.r.val.ownBlock = some b ∨ w.heap.size ≤ b) :
    OwnS w' lo { v with r := x } vs { s with trace := xs } :=
  ⟨h.t.same fun b e => h.others 4 k (j := 0) (by decide) e, (h.l.sameB fun b e => h.others 4 k (j := 1) (by decide) e).widen (Nat.le_refl _) hz, h.g.same fun b e => h.others 4 k (j := 2) (by decide) e, h.f.same fun b e => h.others 4 k (j := 3) (by decide) e, O, apart_new h 4 hx (by
      intro j b hj hb
      match j, hb with
      | 0, hb => exact hb
      | 1, hb => exact hb
      | 2, hb => exact hb
      | 3, hb => exact hb
      | 4, hb => exact absurd rfl hj)⟩
/-- The locks are others now: they lie where they lay, or in new blocks. -/
theorem OwnS.setL {w w' : World} {lo : Nat} {v : Sv} {vs vs' : List Lv} {s : Sy} (h : OwnS w lo v vs s) (k : ∀ b, b < w.heap.size → ¬ ofKind v vs 1 b → w'.heap[b]? = w.heap[b]?) (x : Rw) (ls : List Lk) (L : Mine w' lo w'.heap.size x.val vs' ls) (hx : ∀ b, LkBlk x.val vs' b → LkBlk v.l.val vs b ∨ w.heap.size ≤ b) :
    OwnS w' lo { v with l := x } vs' { s with locks := ls } :=
  ⟨h.t.same fun b e => h.others 1 k (j := 0) (by decide) e, L, h.g.same fun b e => h.others 1 k (j := 2) (by decide) e, h.f.same fun b e => h.others 1 k (j := 3) (by decide) e, h.r.same fun b e => h.others 1 k (j := 4) (by decide) e, apart_new h 1 hx (by
      intro j b hj hb
      match j, hb with
      | 0, hb => exact hb
      | 1, hb => exact absurd rfl hj
      | 2, hb => exact hb
      | 3, hb => exact hb
      | 4, hb => exact hb)⟩
/-- The numbers are others now. -/
theorem OwnS.nums {w : World} {lo : Nat} {v : Sv} {vs : List Lv} {s : Sy} (h : OwnS w lo v vs s) (now cpus seq missed : Int) : OwnS w lo v vs { s with now := now, cpus := cpus, seq := seq, missed := missed } := ⟨h.t, h.l, h.g, h.f, h.r, h.ap⟩
end Go.Proofs.YtpikopdfkhagmaaGreatDoor
