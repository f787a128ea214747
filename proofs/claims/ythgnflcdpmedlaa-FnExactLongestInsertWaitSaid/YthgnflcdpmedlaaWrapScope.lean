/-
  A scope with labels that the run jumps to from each other: a law of one's own, after the library's for one label.
-/
import Derived.Test.YthgnflcdpmedlaaBase
import Derived.ScopeJumps
import Derived.WalkMore
namespace Go.Proofs.Ythgnflcdpmedlaa
section
variable {P : Program} {a : Act} {w : World} {Q : Exit → Act → World → Prop}
/-- What holds where a code within a scope is left: J of the label, where it is left by a goto; else Q. -/
def ManyE (J : Nat → Act → World → Prop) (Q : Exit → Act → World → Prop) (e : Exit) (a : Act) (w : World) : Prop :=
  match e with
  | .goto l => J l a w
  | e => Q e a w
theorem manyE_ret {J : Nat → Act → World → Prop} : ManyE J Q .ret a w = Q .ret a w := rfl
theorem manyE_else {J : Nat → Act → World → Prop} {e : Exit} (he : ¬ ∃ l, e = .goto l) (h : ManyE J Q e a w) : Q e a w := by
  cases e <;> first | exact h | exact absurd ⟨_, rfl⟩ he
/-- Behind a scope's end one stands where one stood within it, a goto apart. -/
theorem out_of_scope {m : Machine} {b : Frame} {c : Code} {k : List Item} {cs : List Frame} {e : Exit} (he : ¬ ∃ l, e = .goto l) (h : Arrives P m b (.inScope c :: k) cs e a w) : Arrives P m b k cs e a w := by
  cases e
  case goto l => exact absurd ⟨l, rfl⟩ he
  case normal => exact Steps.trans h (.one step_inScope)
  case exit id => exact fun k' hk => h k' (by simp [exitTo, hk])
  all_goals exact h
/-- A scope that is left, or gone on with at a label whose number is less each time. -/
theorem scope_runs {c : Code} {b : Frame} {k : List Item} {cs : List Frame} {J : Nat → Act → World → Prop} {μ : Nat → Act → World → Nat}
    (pass : ∀ l a w, J l a w → ∃ rest, findLabel c l = some rest ∧ rest.wp P (ManyE (fun l' a' w' => J l' a' w' ∧ μ l' a' w' < μ l a w) Q) a w) (n : Nat) :
    ∀ e a w m, ManyE (fun l a w => J l a w ∧ μ l a w < n) Q e a w → Arrives P m b (.inScope c :: k) cs e a w → ∃ e' a' w', Q e' a' w' ∧ Arrives P m b k cs e' a' w' := by
  induction n using Nat.strongRecOn with
  | _ n less =>
    intro e a w m hq hm
    by_cases he : ∃ l, e = .goto l
    · obtain ⟨l, rfl⟩ := he
      have hq' : J l a w ∧ μ l a w < n := hq
      obtain ⟨rest, hf, hrest⟩ := pass l a w hq'.1
      obtain ⟨e1, a1, w1, hq1, hm1⟩ := hrest b (.inScope c :: k) cs
      obtain ⟨e2, a2, w2, hq2, hm2⟩ := less _ hq'.2 e1 a1 w1 _ hq1 hm1
      have hg : gotoIn l (.inScope c :: k) = some (.code rest :: .inScope c :: k) := by simp [gotoIn, hf]
      exact ⟨e2, a2, w2, hq2, .of_steps (hm _ hg) hm2⟩
    · exact ⟨e, a, w, manyE_else he hq, out_of_scope he hm⟩
theorem wp_scope_many {c : Code} (J : Nat → Act → World → Prop) (μ : Nat → Act → World → Nat) (first : c.wp P (ManyE J Q) a w)
    (pass : ∀ l a w, J l a w → ∃ rest, findLabel c l = some rest ∧ rest.wp P (ManyE (fun l' a' w' => J l' a' w' ∧ μ l' a' w' < μ l a w) Q) a w) : (Code.scope c).wp P Q a w := by
  intro b k cs
  obtain ⟨e, a1, w1, hq, hm⟩ := first b (.inScope c :: k) cs
  have hm' : Arrives P (lone (b.at a (.code (.scope c) :: k)) cs w) b (.inScope c :: k) cs e a1 w1 := .of_steps (.one step_scope) hm
  by_cases he : ∃ l, e = .goto l
  · obtain ⟨l, rfl⟩ := he
    exact scope_runs pass (μ l a1 w1 + 1) (.goto l) a1 w1 _ ⟨hq, Nat.lt_succ_self _⟩ hm'
  · exact ⟨e, a1, w1, manyE_else he hq, out_of_scope he hm'⟩
/-- What holds where a code within a scope is left, which jumps n times at most: where it is left by a goto, the code from the label on. -/
def FwdE (P : Program) (c : Code) (Q : Exit → Act → World → Prop) : Nat → Exit → Act → World → Prop
  | 0, e, a, w => (¬ ∃ l, e = .goto l) ∧ Q e a w
  | n + 1, e, a, w => match e with
    | .goto l => ∃ rest, findLabel c l = some rest ∧ rest.wp P (FwdE P c Q n) a w
    | e => Q e a w
theorem fwdE_else {c : Code} {n : Nat} {e : Exit} (he : ¬ ∃ l, e = .goto l) (h : FwdE P c Q n e a w) : Q e a w := by
  cases n with
  | zero => exact h.2
  | succ n => cases e <;> first | exact h | exact absurd ⟨_, rfl⟩ he
theorem fwd_runs {c : Code} {b : Frame} {k : List Item} {cs : List Frame} (n : Nat) :
    ∀ e a w m, FwdE P c Q n e a w → Arrives P m b (.inScope c :: k) cs e a w → ∃ e' a' w', Q e' a' w' ∧ Arrives P m b k cs e' a' w' := by
  induction n with
  | zero =>
    intro e a w m hq hm
    exact ⟨e, a, w, hq.2, out_of_scope hq.1 hm⟩
  | succ n ih =>
    intro e a w m hq hm
    by_cases he : ∃ l, e = .goto l
    · obtain ⟨l, rfl⟩ := he
      obtain ⟨rest, hf, hrest⟩ := hq
      obtain ⟨e1, a1, w1, hq1, hm1⟩ := hrest b (.inScope c :: k) cs
      obtain ⟨e2, a2, w2, hq2, hm2⟩ := ih e1 a1 w1 _ hq1 hm1
      have hg : gotoIn l (.inScope c :: k) = some (.code rest :: .inScope c :: k) := by simp [gotoIn, hf]
      exact ⟨e2, a2, w2, hq2, .of_steps (hm _ hg) hm2⟩
    · exact ⟨e, a, w, fwdE_else he hq, out_of_scope he hm⟩
theorem wp_scope_fwd {c : Code} (n : Nat) (h : c.wp P (FwdE P c Q n) a w) : (Code.scope c).wp P Q a w := by
  intro b k cs
  obtain ⟨e, a1, w1, hq, hm⟩ := h b (.inScope c :: k) cs
  have hm' : Arrives P (lone (b.at a (.code (.scope c) :: k)) cs w) b (.inScope c :: k) cs e a1 w1 := .of_steps (.one step_scope) hm
  exact fwd_runs n e a1 w1 _ hq hm'
theorem fwdE_ret {c : Code} {n : Nat} : FwdE P c Q (n + 1) .ret a w = Q .ret a w := rfl
end
end Go.Proofs.Ythgnflcdpmedlaa
