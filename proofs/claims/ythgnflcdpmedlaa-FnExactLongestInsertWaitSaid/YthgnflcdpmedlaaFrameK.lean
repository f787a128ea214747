/-
  What the rows' frames share: an argument that is a slice of structs of ints is opened to what the walks ask of it.
-/
import Derived.Test.YthgnflcdpmedlaaFrame
import Derived.Test.YthgnflcdpmedlaaWordsK
import Derived.Deep.Slices
import Derived.Deep.Fields
import Derived.ChangeSame
namespace Go.Proofs.Ythgnflcdpmedlaa
open Go.ChangeShapes Go.WideShapes Go.ChangeAt Go.RowKit Go.Deep
set_option maxRecDepth 100000

/-- The int that a cell holds. -/
def intAt (w : World) (a : Addr) : Int := match w.cell? a with
  | some (.int .i64 z) => z
  | _ => 0
section
variable {H : Type} {enc : TypeId × Value → H} {P : Program} {w : World} {base : Nat} {spare : Nat → Bool} {held : Bool}
/-- A slice of structs of m ints: each of its numbers lies in its cell. -/
theorem open_flat {t e : TypeId} {fs : Array Field} {fuel m : Nat} {cs : List Value} {x : DataW H × List MemPlace} (ht : P.underlying t = some (.slice e)) (he : P.underlying e = some (.struct fs)) (hone : oneCellFields P fs = true) (hm : fs.size = m)
    (hC : P.cellsOf e = m) (hi : ∀ (j : Nat) (f : Field), fs[j]? = some f → P.underlying f.type = some (.int .i64)) (h : DataW.trod enc P w base spare held fuel t cs = some x) :
    cs = [.slice none 0 0] ∨ ∃ (a : Addr) (len cap : Nat), cs = [.slice (some a) len cap] ∧ len ≤ cap ∧ cap ≤ maxLen ∧
      ∀ i, i < len → ∀ j, j < m → w.cell? (a.add (i * m + j)) = some (.int .i64 (intAt w (a.add (i * m + j)))) ∧ (Lit.int .i64 (intAt w (a.add (i * m + j)))).wf = true := by
  rcases open_slice ht h with ⟨h0, _⟩ | ⟨a, len, cap, k, n, D, Pl, hcs, _, hl, hcap, hk, _, hat⟩
  · exact .inl h0
  refine .inr ⟨a, len, cap, hcs, hl, hcap, fun i hil j hj => ?_⟩
  have hik : i < k := by rw [hk]; split <;> omega
  obtain ⟨c, hc, htr⟩ := hat i hik
  rw [hC] at hc
  obtain ⟨_, hcl, hcell⟩ := World.cells?_some hc
  obtain ⟨xs, n', _, _, _, hxl, hfld⟩ := DataW.trod_struct he htr
  have hjf : fs[j]? = some (fs[j]'(by omega)) := Array.getElem?_eq_getElem (by omega)
  obtain ⟨ho, hk1⟩ := hone_of hone j _ hjf
  have h1 := hfld j _ hjf
  rw [ho, hk1, List.drop_eq_getElem_cons (by omega)] at h1
  rw [List.getElem?_eq_getElem (by omega)] at h1
  obtain ⟨z, hz, _, hwf⟩ := DataW.trod_int (hi j _ hjf) h1
  have hz2 : c[j]'(by omega) = .int .i64 z := (List.cons.inj (show [c[j]'(by omega)] = [.int .i64 z] from hz)).1
  have hcj : w.cell? (a.add (i * m + j)) = some (.int .i64 z) := by
    rw [← add_add, hcell j hj, List.getElem?_eq_getElem (by omega), hz2]
  have hv : intAt w (a.add (i * m + j)) = z := by unfold intAt; rw [hcj]
  rw [hv]
  exact ⟨hcj, hwf⟩
end
/-- Cells that hold a list's numbers: the slice reads as it. -/
theorem rk_of_cells {k : Nat} {w : World} {x : Addr} {len cap : Nat} {l : List Int} (hk : 0 < k) (hl : l.length = len * k) (hlc : len ≤ cap) (hm : cap ≤ maxLen) (hcell : ∀ j, j < len * k → w.cell? (x.add j) = some (.int .i64 (l.getD j 0))) :
    RK k w w.heap.size (.slice (some x) len cap) len l := by
  refine ⟨some x, cap, rfl, hl, ⟨hlc, hm, fun h => by cases h⟩, fun h0 => ?_⟩
  obtain ⟨b, off, spot⟩ := x
  have hlk : 0 < len * k := Nat.mul_pos h0 hk
  have hc0 := hcell 0 hlk
  have hspot : spot = none := by simpa [Addr.add] using World.cell?_spot hc0
  subst hspot
  refine ⟨b, off, rfl, ?_, fun j hj => ?_⟩
  · have hc1 : w.cell? ⟨b, off, none⟩ = some (.int .i64 (l.getD 0 0)) := by simpa [Addr.add] using hc0
    unfold World.cell? at hc1
    cases hb : w.heap[b]? with
    | none => simp [hb] at hc1
    | some o => exact (Array.getElem?_eq_some_iff.1 hb).1
  · have hcj := hcell j hj
    rw [add_plain] at hcj
    exact hcj
end Go.Proofs.Ythgnflcdpmedlaa
