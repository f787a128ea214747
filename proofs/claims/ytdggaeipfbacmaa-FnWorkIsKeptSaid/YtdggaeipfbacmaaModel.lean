/-
  A line of the model: its cells; what waits; the tick at which one can begin; one begins.
-/
import Derived.Test.YtdggaeipfbacmaaMathLine
import Derived.Test.YtdggaeipfbacmaaHeld
namespace Go.Proofs.Ytdggaeipfbacmaa
open Go.RowKit
set_option maxRecDepth 100000
set_option linter.unusedVariables false

theorem Acc.far {E : TypeId} {w w' : World} {lo a b : Nat} {v : Value} {l : List Int} (h : Acc E w lo v l) (hg : Wr a b w w') (hlo : b ≤ lo) : Acc E w' lo v l := by
  have h0 := h
  rcases h.2 with ⟨rfl, hn⟩ | ⟨g, c, cur, rfl, hgl, _⟩
  · exact ⟨h.1, .inl ⟨rfl, hn⟩⟩
  · exact row_far h0 hg (.inr (by omega))
/-- Job i waits. -/
def wtB (js : List Jb) (sp : List Int) (now : Int) (i : Nat) : Bool := decide (sp.getD i 0 < 0) && decide (js[i]!.t ≤ now)
/-- Some job waits. -/
def someB (js : List Jb) (sp : List Int) (now : Int) : Nat → Bool
  | 0 => false
  | m + 1 => someB js sp now m || wtB js sp now m
theorem someB_at {js : List Jb} {sp : List Int} {now : Int} {m k : Nat} (hk : k < m) (h : wtB js sp now k = true) : someB js sp now m = true := by
  induction m with
  | zero => omega
  | succ m ih =>
    rw [someB]
    by_cases e : k = m
    · rw [← e, h, Bool.or_true]
    · rw [ih (by omega), Bool.true_or]
theorem someB_no {js : List Jb} {sp : List Int} {now : Int} {m : Nat} (h : ∀ j, j < m → wtB js sp now j = false) : someB js sp now m = false := by
  induction m with
  | zero => rfl
  | succ m ih => rw [someB, ih (fun j hj => h j (by omega)), h m (by omega)]; rfl
def lsT (a b : Int) : Int := if a < b then a else b
/-- The least tick of those that have not begun, of the first m. -/
def leastT (js : List Jb) (sp : List Int) : Nat → Int
  | 0 => 5000
  | m + 1 => if sp.getD m 0 < 0 then lsT (leastT js sp m) js[m]!.t else leastT js sp m
theorem leastT_le (js : List Jb) (sp : List Int) (hb : ∀ i, i < js.length → 0 ≤ js[i]!.t ∧ js[i]!.t ≤ 1000) (m : Nat) (hm : m ≤ js.length) : 0 ≤ leastT js sp m ∧ leastT js sp m ≤ 5000 := by
  induction m with
  | zero => simp [leastT]
  | succ m ih =>
    have := ih (by omega)
    have := hb m (by omega)
    rw [leastT]
    split
    · unfold lsT; split <;> omega
    · omega
/-- Since the ticks do not fall it is the first one's. -/
theorem leastT_is {js : List Jb} {sp : List Int} {u n : Nat} (hs : ∀ i j, i ≤ j → j < n → js[i]!.t ≤ js[j]!.t) (hb : ∀ i, i < n → js[i]!.t ≤ 1000) (hu : u < n) (h1 : sp.getD u 0 < 0) (h2 : ∀ j, j < u → ¬ sp.getD j 0 < 0) : leastT js sp n = js[u]!.t := by
  have key : ∀ m, m ≤ n → (m ≤ u → leastT js sp m = 5000) ∧ (u < m → leastT js sp m = js[u]!.t) := by
    intro m
    induction m with
    | zero => intro _; exact ⟨fun _ => rfl, fun h => absurd h (by omega)⟩
    | succ m ih =>
      intro hm
      obtain ⟨i1, i2⟩ := ih (by omega)
      constructor
      · intro h
        rw [leastT, if_neg (h2 m (by omega)), i1 (by omega)]
      · intro h
        by_cases e : u = m
        · subst e
          rw [leastT, if_pos h1, i1 (Nat.le_refl _), lsT, if_neg]
          have := hb u hu
          omega
        · rw [leastT, i2 (by omega)]
          split
          · unfold lsT
            split
            · rfl
            · have := hs u m (by omega) (by omega)
              omega
          · rfl
  exact (key n (Nat.le_refl _)).2 hu
/-- The tick behind 'skip'. -/
def skipT (js : List Jb) (sp : List Int) (now done : Int) : Int := if someB js sp now js.length || decide (done = js.length) then now else leastT js sp js.length
end Go.Proofs.Ytdggaeipfbacmaa
