/-
  What the rows' frames share: an argument that is a slice of slices of ints is opened to what the walks ask of it; marks above those of a first argument.
-/
import Derived.Test.YtgkpdlicgllcoaaFrame
import Derived.Test.YtgkpdlicgllcoaaWordsSS
import Derived.Deep.Matrix
namespace Go.Proofs.Ytgkpdlicgllcoaa
open Go.ChangeShapes Go.WideShapes Go.ChangeAt Go.RowKit Go.Deep
set_option maxRecDepth 100000
set_option linter.unusedVariables false
/-- Cells of rows: the slice reads as the lists. -/
theorem rs_of_cells {w : World} {base : Nat} {a : Addr} {len cap : Nat} {A : Nat → Option Addr} {L C : Nat → Nat} {Z : Nat → List Int} (hl : len ≤ cap) (hm : cap ≤ maxLen)
    (h : ∀ r, r < cap → w.cell? (a.add r) = some (.slice (A r) (L r) (C r)) ∧ L r ≤ C r ∧ C r ≤ maxLen ∧ (Z r).length = C r ∧ (∀ n ∈ Z r, (Lit.int .i64 n).wf = true) ∧ (A r = none → C r = 0) ∧
        ∀ a', A r = some a' → base ≤ a'.block ∧ ∀ c, c < C r → w.cell? (a'.add c) = some (.int .i64 ((Z r).getD c 0))) :
    RS w w.heap.size (.slice (some a) len cap) ((List.range len).map fun r => (Z r).take (L r)) := by
  have e : ((List.range len).map fun r => (Z r).take (L r)).length = len := by simp
  refine ⟨(List.range len).map fun r => .slice (A r) (L r) (C r), some a, cap, by rw [e], by simp, ⟨by omega, hm, fun h => by cases h⟩, fun h0 => ?_, fun j hj => ?_⟩
  · rw [e] at h0
    obtain ⟨b, off, spot⟩ := a
    have hc0 := (h 0 (by omega)).1
    have hspot : spot = none := by simpa [Addr.add] using World.cell?_spot hc0
    subst hspot
    refine ⟨b, off, rfl, ?_, fun j hj => ?_⟩
    · have hc1 : w.cell? ⟨b, off, none⟩ = some (.slice (A 0) (L 0) (C 0)) := by simpa [Addr.add] using hc0
      unfold World.cell? at hc1
      cases hb : w.heap[b]? with
      | none => simp [hb] at hc1
      | some o => exact (Array.getElem?_eq_some_iff.1 hb).1
    · rw [e] at hj
      have hcj := (h j (by omega)).1
      rw [add_plain] at hcj
      rw [hcj]
      simp [List.getD, hj]
  · rw [e] at hj
    obtain ⟨_, h1, h2, h3, _, h5, h6⟩ := h j (by omega)
    have e1 : ((List.range len).map fun r => Value.slice (A r) (L r) (C r)).getD j undef = .slice (A j) (L j) (C j) := by simp [List.getD, hj]
    have e2 : ((List.range len).map fun r => (Z r).take (L r)).getD j [] = (Z j).take (L j) := by simp [List.getD, hj]
    rw [e1, e2]
    cases hA : A j with
    | none =>
      have hc := h5 hA
      have hl0 : L j = 0 := by omega
      rw [hl0, hc]
      simp only [List.take_zero]
      exact RI.of_nil (by simp) (fun _ => rfl)
    | some a' =>
      have h7 := (h6 a' hA).2
      exact ri_of_cells (by omega) h3 h2 (fun i hi => h7 i (by omega))
theorem open_rows9 {H : Type} {enc : TypeId × Value → H} {P : Program} {w : World} {base : Nat} {held : Bool} {t e q : TypeId} {fuel : Nat} {v : Value} {x : DataW H × List MemPlace} (ht : P.underlying t = some (.slice e)) (he : P.underlying e = some (.slice q)) (hq : P.underlying q = some (.int .i64))
    (ce : P.cellsOf e = 1) (cq : P.cellsOf q = 1) (hv : ∃ A l c, v = .slice A l c) (h : DataW.trod enc P w base (fun _ => true) held fuel t v.cells.toList = some x) : ∃ L, RS w w.heap.size v L := by
  obtain ⟨A0, l0, c0, rfl⟩ := hv
  rcases open_int_rows ht he hq ce cq h with ⟨hcs, _⟩ | ⟨a, len, cap, A, L, C, Z, hcs, _, hl, hm, _, hr⟩
  · simp [Value.cells] at hcs
    obtain ⟨rfl, rfl, rfl⟩ := hcs
    exact ⟨[], [], none, 0, rfl, rfl, ⟨by simp, by simp, fun _ => rfl⟩, fun h => absurd h (by simp), fun j hj => absurd hj (by simp)⟩
  · simp [Value.cells] at hcs
    obtain ⟨rfl, rfl, rfl⟩ := hcs
    exact ⟨_, rs_of_cells hl hm hr⟩
end Go.Proofs.Ytgkpdlicgllcoaa
