/-
  Whether starts are a schedule: the program's side.
-/
import Derived.Test.YtdggaeipfbacmaaOrderOf
namespace Go.Proofs.Ytdggaeipfbacmaa
open Go.RowKit
set_option maxRecDepth 100000
set_option linter.unusedVariables false

/-- When the line is free behind the first k. -/
def FreeAt (js : List Jb) (ss d : List Int) (k : Nat) (f : Int) : Prop := (k = 0 → f = 0) ∧ ∀ q, q + 1 = k → f = sk ss (d.getD q 0) + js[(d.getD q 0).toNat]!.l
/-- The cells of jobs and starts. -/
theorem job_cells {w : World} {B : Nat} {v : Value} {js : List Jb} (h : RJbS w B v js) (hp : 0 < js.length) : ∃ b off c, v = .slice (some ⟨b, off, none⟩) js.length c ∧ b < B ∧
    ∀ i, i < js.length → w.cell? ⟨b, off + i * 3, none⟩ = some (.int .i64 js[i]!.t) ∧ w.cell? ⟨b, off + i * 3 + 1, none⟩ = some (.int .i64 js[i]!.c) ∧ w.cell? ⟨b, off + i * 3 + 2, none⟩ = some (.int .i64 js[i]!.l) := by
  have h0 := h
  obtain ⟨A, c, rfl, _⟩ := h
  obtain ⟨_, _, _, hc⟩ := h0.parts
  obtain ⟨b, off, rfl, hb, hcell⟩ := hc hp
  exact ⟨b, off, c, rfl, hb, hcell⟩

theorem given_no_len {js : List Jb} {ss : List Int} (h : js.length ≠ ss.length) : givenB js ss = false := by simp [givenB, h]
end Go.Proofs.Ytdggaeipfbacmaa
