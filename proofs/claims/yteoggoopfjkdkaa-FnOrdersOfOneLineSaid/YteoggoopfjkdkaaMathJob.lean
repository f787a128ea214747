/-
  Jobs as data: the conditions and the numbers that both sides give.
-/
import Derived.Test.YteoggoopfjkdkaaIn
namespace Go.Proofs.Yteoggoopfjkdkaa
open Go.RowKit
set_option maxRecDepth 100000

/-- A job as data. -/
structure Jb where
  t : Int
  c : Int
  l : Int
instance : Inhabited Jb := ⟨⟨0, 0, 0⟩⟩
def JbV (x : Jb) : Value := .agg #[.int .i64 x.t, .int .i64 x.c, .int .i64 x.l]
/-- A job is within bounds, and comes at e or later. -/
def jobOk (e : Int) (x : Jb) : Bool := wi x.t e 1000 && (wi x.c 0 7 && wi x.l 1 20)
/-- The jobs from here on, the one before them coming at e. -/
def jobsFrom : Int → List Jb → Bool
  | _, [] => true
  | e, x :: l => jobOk e x && jobsFrom x.t l
def areJb (l : List Jb) : Bool := decide (l.length ≤ 20) && jobsFrom 0 l
theorem areJb_long {l : List Jb} (h : 20 < l.length) : areJb l = false := by simp [areJb]; omega
theorem areJb_short {l : List Jb} (h : l.length ≤ 20) : areJb l = jobsFrom 0 l := by simp [areJb, h]
theorem jobsFrom_all {e : Int} {l : List Jb} (h : jobsFrom e l = true) : ∀ x ∈ l, e ≤ x.t ∧ x.t ≤ 1000 ∧ 0 ≤ x.c ∧ x.c ≤ 7 ∧ 1 ≤ x.l ∧ x.l ≤ 20 := by
  induction l generalizing e with
  | nil => intro x hx; cases hx
  | cons y l ih =>
    have h1 : jobOk e y = true ∧ jobsFrom y.t l = true := by simpa [jobsFrom] using h
    have h2 : (e ≤ y.t ∧ y.t ≤ 1000) ∧ (0 ≤ y.c ∧ y.c ≤ 7) ∧ (1 ≤ y.l ∧ y.l ≤ 20) := by simpa [jobOk, wi] using h1.1
    intro x hx
    rcases List.mem_cons.1 hx with rfl | hx
    · omega
    · have := ih h1.2 x hx
      omega
theorem jobsFrom_sorted {e : Int} {l : List Jb} (h : jobsFrom e l = true) : l.Pairwise fun x y => x.t ≤ y.t := by
  induction l generalizing e with
  | nil => exact .nil
  | cons y l ih =>
    have h1 : jobOk e y = true ∧ jobsFrom y.t l = true := by simpa [jobsFrom] using h
    exact List.pairwise_cons.2 ⟨fun x hx => (jobsFrom_all h1.2 x hx).1, ih h1.2⟩
theorem areJb_in {l : List Jb} (h : areJb l = true) : l.length ≤ 20 ∧ (∀ x ∈ l, 0 ≤ x.t ∧ x.t ≤ 1000 ∧ 0 ≤ x.c ∧ x.c ≤ 7 ∧ 1 ≤ x.l ∧ x.l ≤ 20) ∧ l.Pairwise fun x y => x.t ≤ y.t := by
  have h1 : l.length ≤ 20 ∧ jobsFrom 0 l = true := by simpa [areJb] using h
  exact ⟨h1.1, jobsFrom_all h1.2, jobsFrom_sorted h1.2⟩
end Go.Proofs.Yteoggoopfjkdkaa
