/-
  What the rows' frames share: an argument that is a desk (a struct of two structs) is opened to what the walks ask of it.
-/
import Derived.Test.YtmghhhceemmdpaaFrame
import Derived.Test.YtmghhhceemmdpaaDk
import Derived.Lib.SmallJoins
namespace Go.Proofs.Ytmghhhceemmdpaa
open Go.RowKit Go.ChangeShapes Go.WideShapes Go.ChangeAt Go.Joins
set_option maxRecDepth 100000
set_option linter.unusedVariables false
theorem array6 {α : Type} {cs : Array α} (h : cs.size = 6) : ∃ c0 c1 c2 c3 c4 c5, cs = #[c0, c1, c2, c3, c4, c5] := by
  obtain ⟨l⟩ := cs
  match l, h with
  | [c0, c1, c2, c3, c4, c5], _ => exact ⟨c0, c1, c2, c3, c4, c5, rfl⟩
theorem open_desk {H : Type} {enc : TypeId × Value → H} {w : World} {base : Nat} {held : Bool} {r : Reach} {b0 : Nat} {v : Value} {d : DataW H} {p : List MemPlace}
    (hv : Value.okWide Try.prog w r b0 36 v) (h : DataW.Trod enc Try.prog w base (fun _ => true) held 36 v d p) :
    ∃ (x : Dk) (s t : Value), v = DkV x s t ∧ RI w w.heap.size s x.r.d ∧ RI w w.heap.size t x.f.d ∧ x.r.d.length ≤ maxLen ∧ x.f.d.length ≤ maxLen := by
  obtain ⟨cs, rfl, hsz⟩ := okWide_struct Try.underlying36 hv
  obtain ⟨c0, c1, c2, c3, c4, c5, rfl⟩ := array6 (hsz.trans (by kernel_rfl))
  obtain ⟨fuel, hf⟩ := h
  obtain ⟨y0, y1, n, hx, _, h0, h1⟩ := trod_struct2 Try.underlying36 hf
  replace h0 : DataW.trod enc Try.prog w base (fun _ => true) held n 33 [c0, c1] = some y0 := h0
  replace h1 : DataW.trod enc Try.prog w base (fun _ => true) held n 34 [c2, c3, c4, c5] = some y1 := h1
  obtain ⟨z0, z1, m, _, _, g0, g1⟩ := trod_struct2 Try.underlying33 h0
  obtain ⟨u0, u1, u2, u3, m', _, _, k0, k1, k2, k3⟩ := trod_struct4 Try.underlying34 h1
  replace g0 : DataW.trod enc Try.prog w base (fun _ => true) held m 3 [c0] = some z0 := g0
  replace g1 : DataW.trod enc Try.prog w base (fun _ => true) held m 22 [c1] = some z1 := g1
  replace k0 : DataW.trod enc Try.prog w base (fun _ => true) held m' 3 [c2] = some u0 := k0
  replace k1 : DataW.trod enc Try.prog w base (fun _ => true) held m' 3 [c3] = some u1 := k1
  replace k2 : DataW.trod enc Try.prog w base (fun _ => true) held m' 3 [c4] = some u2 := k2
  replace k3 : DataW.trod enc Try.prog w base (fun _ => true) held m' 22 [c5] = some u3 := k3
  have sl : ∀ (m : Nat) (c : Value) (z), DataW.trod enc Try.prog w base (fun _ => true) held m 22 [c] = some z → ∃ l, RI w w.heap.size c l ∧ l.length ≤ maxLen := by
    intro m c z g
    rcases open_ints Try.underlying22 Try.underlying3 (by kernel_rfl) g with ⟨hcs, _⟩ | ⟨x, l, c', zs, hcs, _, hl, hm, hz, _, hcell, hwz⟩
    · obtain rfl : c = .slice none 0 0 := by simpa using hcs
      exact ⟨[], ⟨none, 0, rfl, ⟨by simp, by simp, fun _ => rfl⟩, fun h => absurd h (by simp)⟩, by simp⟩
    · obtain rfl : c = .slice (some x) l c' := by simpa using hcs
      have hz' : zs.length = c' := by simpa using hz
      exact ⟨zs.take l, ri_of_cells (by omega) hz' hm hcell, by simp; omega⟩
  obtain ⟨a, ha, _, _⟩ := DataW.trod_int Try.underlying3 g0
  obtain rfl : c0 = .int .i64 a := by simpa using ha
  obtain ⟨b, hb, _, _⟩ := DataW.trod_int Try.underlying3 k0
  obtain rfl : c2 = .int .i64 b := by simpa using hb
  obtain ⟨e, he, _, _⟩ := DataW.trod_int Try.underlying3 k1
  obtain rfl : c3 = .int .i64 e := by simpa using he
  obtain ⟨f, hf', _, _⟩ := DataW.trod_int Try.underlying3 k2
  obtain rfl : c4 = .int .i64 f := by simpa using hf'
  obtain ⟨l1, r1, n1⟩ := sl _ _ _ g1
  obtain ⟨l2, r2, n2⟩ := sl _ _ _ k3
  exact ⟨⟨⟨a, l1⟩, ⟨b, e, f, l2⟩⟩, c1, c5, rfl, r1, r2, n1, n2⟩
end Go.Proofs.Ytmghhhceemmdpaa
