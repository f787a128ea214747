/-
  Words on memory that the contracts of this seat share: a slice of ints that reads as a list, one that the call owns. No dump is imported.
-/
import Derived.WalkKit
import Derived.Laws.OwnMore
import Derived.Deep.Draws
import Derived.Lib.Hide
namespace Go.Proofs.Ytaokdocflbabjaa
open Go.RowKit

/-- The cells of a list of ints. -/
def ics (l : List Int) : List Value := l.map (Value.int .i64)

/-- The slice value v reads as the ints l, and lies below block B. -/
def RI (w : World) (B : Nat) (v : Value) (l : List Int) : Prop :=
  ∃ A c, v = .slice A l.length c ∧ (0 < l.length → ∃ b off, A = some ⟨b, off, none⟩ ∧ b < B ∧ ∀ j, j < l.length → w.cell? ⟨b, off + j, none⟩ = some (.int .i64 (l.getD j 0)))

/-- The slice value v owns the ints l, in a block from lo on (or is nil). -/
def OI (E : TypeId) (w : World) (lo : Nat) (v : Value) (l : List Int) : Prop := w.ownsRow lo E 1 v l.length (ics l)

theorem ics_length (l : List Int) : (ics l).length = l.length := by simp [ics]
theorem ics_get (l : List Int) (j : Nat) (h : j < l.length) : (ics l)[j]? = some (.int .i64 (l.getD j 0)) := by
  simp [ics, h]

section
variable {w w' : World} {B B' : Nat} {v : Value} {l : List Int}
theorem RI.keep (h : RI w B v l) (hk : ∀ b o, b < B → w'.cell? ⟨b, o, none⟩ = w.cell? ⟨b, o, none⟩) : RI w' B v l := by
  obtain ⟨A, c, hv, hc⟩ := h
  refine ⟨A, c, hv, fun hl => ?_⟩
  obtain ⟨b, off, hA, hb, hcell⟩ := hc hl
  exact ⟨b, off, hA, hb, fun j hj => (hk _ _ hb).trans (hcell j hj)⟩
theorem RI.below (h : RI w B v l) (hb : Below B w w') : RI w' B v l := h.keep fun _ _ hp => hb.cell (p := ⟨_, _, none⟩) hp
theorem RI.more (h : RI w B v l) (hB : B ≤ B') : RI w B' v l := by
  obtain ⟨A, c, hv, hc⟩ := h
  refine ⟨A, c, hv, fun hl => ?_⟩
  obtain ⟨b, off, hA, hb, hcell⟩ := hc hl
  exact ⟨b, off, hA, by omega, hcell⟩
/-- Behind a step that leaves all old blocks as they were. -/
theorem RI.next (h : RI w w.heap.size v l) (hb : Below w.heap.size w w') : RI w' w'.heap.size v l := (h.below hb).more hb.size
/-- Behind writes to one row alone, which is another one. -/
theorem RI.other {row : Option Nat} (h : RI w B v l) (hg : w.grownBy w' row) (hB : B ≤ w.heap.size) (hr : ∀ g, row = some g → B ≤ g) : RI w' B v l :=
  h.keep fun b o hb => World.cell?_of_block (hg.block b (by omega) (fun e => by have := hr _ e.symm; omega))
end

section
variable {E : TypeId} {w w' : World} {lo lo' : Nat} {v : Value} {l : List Int}
theorem OI.form (h : OI E w lo v l) : (v = .slice none 0 0 ∧ l = []) ∨ ∃ g c, v = .slice (some ⟨g, 0, none⟩) l.length c ∧ lo ≤ g ∧ g < w.heap.size ∧ l.length ≤ c := by
  rcases h.2 with ⟨hv, hn⟩ | ⟨g, c, cur, hv, hg, hh, hc, _⟩
  · exact .inl ⟨hv, List.eq_nil_of_length_eq_zero hn⟩
  · exact .inr ⟨g, c, hv, hg, (Array.getElem?_eq_some_iff.1 hh).1, hc⟩
theorem OI.ri (h : OI E w lo v l) : RI w w.heap.size v l := by
  rcases h.form with ⟨hv, rfl⟩ | ⟨g, c, rfl, hg, hlt, hc⟩
  · exact ⟨none, 0, hv, fun h => absurd h (by simp)⟩
  · refine ⟨some ⟨g, 0, none⟩, c, rfl, fun _ => ⟨g, 0, rfl, hlt, fun j hj => ?_⟩⟩
    have := World.ownsRow.cellAt h j (by omega)
    rw [Nat.zero_add, this, ics_get l j hj]
theorem OI.lower (h : OI E w lo v l) (hlo : lo' ≤ lo) : OI E w lo' v l := by
  refine ⟨h.1, ?_⟩
  rcases h.2 with h | ⟨g, c, cur, hv, hg, r⟩
  · exact .inl h
  · exact .inr ⟨g, c, cur, hv, by omega, r⟩
theorem OI.next (h : OI E w lo v l) (hb : Below w.heap.size w w') : OI E w' lo v l := by
  refine ⟨h.1, ?_⟩
  rcases h.2 with h | ⟨g, c, cur, hv, hg, hh, r⟩
  · exact .inl h
  · exact .inr ⟨g, c, cur, hv, hg, by rw [hb.block g (Array.getElem?_eq_some_iff.1 hh).1]; exact hh, r⟩
theorem OI.other {row : Option Nat} (h : OI E w lo v l) (hg : w.grownBy w' row) (hr : ∀ g, row = some g → g < lo) : OI E w' lo v l := by
  refine World.ownsRow.kept h hg ?_
  rcases h.form with ⟨rfl, rfl⟩ | ⟨g, c, rfl, hlo, _⟩
  · left; rfl
  · right
    intro e
    simp only [Value.ownBlock] at e
    have := hr g e.symm
    omega
/-- The block that it owns lies from lo on. -/
theorem OI.row (h : OI E w lo v l) : ∀ g, v.ownBlock = some g → lo ≤ g ∧ g < w.heap.size := World.ownsRow.lt h
end
theorem below_drewN {B : Nat} {a w : World} (h : Below B a w) (n : Nat) : Below B a (w.drewN n) := ⟨h.os, h.tape, h.output, h.size, h.block⟩
/-- Writes to a row of the call's own leave all below it as it was. -/
theorem below_row {B : Nat} {w w' : World} {row : Option Nat} (hg : w.grownBy w' row) (hB : B ≤ w.heap.size) (hr : ∀ g, row = some g → B ≤ g) : Below B w w' :=
  (Below.refl _ _).grown hg hB hr

theorem grown_trans {a b c : World} {row : Option Nat} (h : a.grownBy b row) (k : b.grownBy c row) : a.grownBy c row :=
  ⟨k.os.trans h.os, k.tape.trans h.tape, k.output.trans h.output, Nat.le_trans h.size k.size, fun i hi hne => (k.block i (Nat.lt_of_lt_of_le hi h.size) hne).trans (h.block i hi hne)⟩

/-- What a function of a list of ints and a bool leaves. -/
def RetLB (E : TypeId) (w : World) (l : List Int) (b : Bool) (e : Ending) (w' : World) : Prop :=
  ∃ u, e = .returned (.tuple #[u, .bool b]) ∧ OI E w' w.heap.size u l ∧ Below w.heap.size w w'
/-- What a function of one list of ints leaves. -/
def RetL (E : TypeId) (w : World) (l : List Int) (e : Ending) (w' : World) : Prop :=
  ∃ u, e = .returned u ∧ OI E w' w.heap.size u l ∧ Below w.heap.size w w'
/-- A plain value is returned and nothing old is turned. -/
def RetV (w : World) (v : Value) (e : Ending) (w' : World) : Prop := e = .returned v ∧ Below w.heap.size w w'
/-- The marks k, k + 1, .. -/
def marks (k : Int) : Nat → List Int
  | 0 => []
  | n + 1 => k :: marks (k + 1) n
theorem marks_length (k : Int) (n : Nat) : (marks k n).length = n := by
  induction n generalizing k with
  | zero => rfl
  | succ n ih => simp [marks, ih]
theorem marks_get (k : Int) (n j : Nat) (h : j < n) : (marks k n).getD j 0 = k + j := by
  induction n generalizing k j with
  | zero => omega
  | succ n ih =>
    cases j with
    | zero => simp [marks]
    | succ j => simp only [marks, List.getD_cons_succ]; rw [ih (k + 1) j (by omega)]; push_cast; omega
end Go.Proofs.Ytaokdocflbabjaa
