/-
  Rows of ints that are made by the call: what they hold, and what a store leaves.
-/
import Derived.Test.YtehmhkbiofndaaaAcc
import Derived.Test.YtehmhkbiofndaaaHeld
namespace Go.Proofs.Ytehmhkbiofndaaa
open Go.RowKit
set_option maxRecDepth 100000
set_option linter.unusedVariables false

/-- Block g is a row of the ints L, with room for c. -/
def RC (w : World) (g c : Nat) (L : List Int) : Prop := w.ownsRow g 3 1 (.slice (some ⟨g, 0, none⟩) L.length c) L.length (ics L)
theorem RC.of {w : World} {lo g c n : Nat} {L : List Int} (h : w.ownsRow lo 3 1 (.slice (some ⟨g, 0, none⟩) n c) n (ics L)) (hl : L.length = n) : RC w g c L := by
  subst hl
  obtain ⟨h1, h2, h3, h4, cur, h5, h6, h7⟩ := row_parts h
  exact ⟨h.1, .inr ⟨g, c, cur, rfl, Nat.le_refl _, h5, h3, h4, h6, h7⟩⟩
theorem RC.lt {w : World} {g c : Nat} {L : List Int} (h : RC w g c L) : g < w.heap.size := (row_parts h).2.1
theorem RC.cap {w : World} {g c : Nat} {L : List Int} (h : RC w g c L) : L.length ≤ c ∧ c ≤ maxLen := ⟨(row_parts h).2.2.1, (row_parts h).2.2.2.1⟩
theorem RC.cell {w : World} {g c : Nat} {L : List Int} (h : RC w g c L) (k : Nat) (hk : k < L.length) : w.cell? ⟨g, k, none⟩ = some (.int .i64 (L.getD k 0)) := by
  rw [World.ownsRow.cellAt h k (by omega), ics_get L k (by omega)]
theorem RC.free {w : World} {g c : Nat} {L : List Int} (h : RC w g c L) (k : Nat) : w.frozen? ⟨g, k, none⟩ = false := World.ownsRow.frozenAt h k
theorem RC.far {w w' : World} {g c a b : Nat} {L : List Int} (h : RC w g c L) (hg : Wr a b w w') (hne : g < a ∨ b ≤ g) : RC w' g c L := row_far h hg hne
theorem RC.step {w w' : World} {g c : Nat} {L : List Int} (h : RC w g c L) (hb : Below w.heap.size w w') : RC w' g c L := h.far (Wr.of_below hb w.heap.size w.heap.size) (.inl h.lt)
theorem RC.alloc {w : World} {g c : Nat} {L : List Int} (h : RC w g c L) (o : Obj) : RC (w.alloc o) g c L := h.step ((Below.refl _ _).alloc (Nat.le_refl _) o)
theorem RC.set {w : World} {g c : Nat} {L : List Int} (h : RC w g c L) (k : Nat) (x : Int) : RC (w.setCell ⟨g, k, none⟩ (.int .i64 x)) g c (L.set k x) := by
  have h1 := (World.ownsRow.stored h k (.int .i64 x)).1
  have e : (ics L).set k (.int .i64 x) = ics (L.set k x) := by simp [ics, List.map_set]
  rw [e] at h1
  unfold RC
  rw [List.length_set]
  exact h1
theorem RC.other {w : World} {g c : Nat} {L : List Int} (h : RC w g c L) (p : Addr) (v : Value) (hp : p.block ≠ g) : RC (w.setCell p v) g c L := by
  obtain ⟨h1, h2, h3, h4, cur, h5, h6, h7⟩ := row_parts h
  refine ⟨h.1, .inr ⟨g, c, cur, rfl, Nat.le_refl _, ?_, h3, h4, h6, h7⟩⟩
  have : (w.setCell p v).heap[g]? = w.heap[g]? := by
    unfold World.setCell
    simp [Array.getElem?_modify, hp]
  rw [this]
  exact h5
theorem RC.oi {w : World} {g c lo hi : Nat} {L : List Int} (h : RC w g c L) (hl : lo ≤ g) (hs : w.heap.size ≤ hi) : OI 3 w lo hi (.slice (some ⟨g, 0, none⟩) L.length c) L := (OI.of_row h).wide hl hs
theorem RC.ri {w : World} {g c B : Nat} {L : List Int} (h : RC w g c L) (hB : g < B) : RI w B (.slice (some ⟨g, 0, none⟩) L.length c) L := by
  obtain ⟨h1, h2, h3, h4, cur, h5, h6, h7⟩ := row_parts h
  exact ⟨_, _, rfl, ⟨h3, h4, by simp⟩, fun _ => ⟨g, 0, rfl, hB, fun j hj => by have := h.cell j hj; simpa using this⟩⟩
theorem RC.made {w : World} {lo g c n : Nat} (h : w.ownsRow lo 3 1 (.slice (some ⟨g, 0, none⟩) n c) n (madeCells (Value.int IntKind.i64 0).cells (n * 1)).toList) : RC w g c (List.replicate n 0) := by
  have h1 : (Value.int IntKind.i64 0).cells = #[Value.int IntKind.i64 0] := rfl
  rw [Nat.mul_one, h1, toList_madeCells_one] at h
  exact RC.of (by simpa [ics] using h) (by simp)
end Go.Proofs.Ytehmhkbiofndaaa
