/-
  A scope whose labels are jumped to a few times.
-/
import Derived.Test.YtdndgacaohmdnaaBase
import Derived.WalkMore
namespace Go.Proofs.Ytdndgacaohmdnaa
open Go.RowKit

/-- By a goto: on from its label, with one jump less to go; by any other way out: Q. -/
def goes (P : Program) (c : Code) (Q : Exit → Act → World → Prop) : Nat → Exit → Act → World → Prop
  | 0, .goto _, _, _ => False
  | n + 1, .goto l, a, w => ∃ rest, findLabel c l = some rest ∧ rest.wp P (goes P c Q n) a w
  | _, .normal, a, w => Q .normal a w
  | _, .exit id, a, w => Q (.exit id) a w
  | _, .ret, a, w => Q .ret a w
  | _, .panic ch, a, w => Q (.panic ch) a w
  | _, .outgrown, a, w => Q .outgrown a w
section
variable {P : Program} {c : Code} {Q : Exit → Act → World → Prop} {a : Act} {w : World} {n : Nat}
theorem goes_goto (l : Nat) : goes P c Q (n + 1) (.goto l) a w = ∃ rest, findLabel c l = some rest ∧ rest.wp P (goes P c Q n) a w := rfl
theorem goes_normal : goes P c Q n .normal a w = Q .normal a w := by cases n <;> rfl
theorem goes_ret : goes P c Q n .ret a w = Q .ret a w := by cases n <;> rfl
theorem goes_panic (ch : List PanicEntry) : goes P c Q n (.panic ch) a w = Q (.panic ch) a w := by cases n <;> rfl
theorem goes_exit (id : Nat) : goes P c Q n (.exit id) a w = Q (.exit id) a w := by cases n <;> rfl
theorem goes_outgrown : goes P c Q n .outgrown a w = Q .outgrown a w := by cases n <;> rfl

theorem wp_scope_goes (n : Nat) (h : c.wp P (goes P c Q n) a w) : (Code.scope c).wp P Q a w := by
  intro b k cs
  have key : ∀ n (d : Code) a w, d.wp P (goes P c Q n) a w → ∃ e a' w', Q e a' w' ∧ Arrives P (lone (b.at a (.code d :: .inScope c :: k)) cs w) b k cs e a' w' := by
    intro n
    induction n with
    | zero =>
      intro d a w h
      obtain ⟨e, a₁, w₁, hq, harr⟩ := h b (.inScope c :: k) cs
      cases e with
      | normal => exact ⟨.normal, a₁, w₁, hq, Steps.trans harr (.one step_inScope)⟩
      | exit id => exact ⟨.exit id, a₁, w₁, hq, fun k' hk => harr k' (by simp [exitTo, hk])⟩
      | goto l' => exact hq.elim
      | ret => exact ⟨_, a₁, w₁, hq, harr⟩
      | panic ch => exact ⟨_, a₁, w₁, hq, harr⟩
      | outgrown => exact ⟨_, a₁, w₁, hq, harr⟩
    | succ n ih =>
      intro d a w h
      obtain ⟨e, a₁, w₁, hq, harr⟩ := h b (.inScope c :: k) cs
      cases e with
      | normal => exact ⟨.normal, a₁, w₁, hq, Steps.trans harr (.one step_inScope)⟩
      | exit id => exact ⟨.exit id, a₁, w₁, hq, fun k' hk => harr k' (by simp [exitTo, hk])⟩
      | goto l' =>
        obtain ⟨rest, hf, hr⟩ := hq
        have hg : gotoIn l' (.inScope c :: k) = some (.code rest :: .inScope c :: k) := by simp [gotoIn, hf]
        obtain ⟨e₂, a₂, w₂, hq₂, harr₂⟩ := ih rest a₁ w₁ hr
        exact ⟨e₂, a₂, w₂, hq₂, .of_steps (harr _ hg) harr₂⟩
      | ret => exact ⟨_, a₁, w₁, hq, harr⟩
      | panic ch => exact ⟨_, a₁, w₁, hq, harr⟩
      | outgrown => exact ⟨_, a₁, w₁, hq, harr⟩
  obtain ⟨e, a₁, w₁, hq, harr⟩ := key n c a w h
  exact ⟨e, a₁, w₁, hq, .of_steps (.one step_scope) harr⟩
/-- A jump, inside of what else. -/
theorem wp_goto_goes {l : Nat} {K : Act → World → Prop} {rest : Code} (hf : findLabel c l = some rest) (h : rest.wp P (goes P c Q n) a w) : (Code.goto l).wp P (Exit.then K (goes P c Q (n + 1))) a w := wp_goto ⟨rest, hf, h⟩
theorem then_goes_ret {K : Act → World → Prop} (h : Q .ret a w) : Exit.then K (goes P c Q n) .ret a w := by
  show goes P c Q n .ret a w
  rw [goes_ret]; exact h
end
end Go.Proofs.Ytdndgacaohmdnaa
