/-
  A region that draws its order, whose operations read and whose callees make memory: one walk, in the order of the text, in every world in which the old cells stand.
-/
import Derived.Test.YteoggoopfjkdkaaBk
import Derived.Deep.QuietTactic
import Derived.BigQuiet
namespace Go.Proofs.Yteoggoopfjkdkaa
open Go.RowKit
set_option maxRecDepth 100000

/-- A world in which all cells of w stand as they were. -/
structure HW (w : World) where
  W : World
  bel : Below w.heap.size w W
instance (w : World) : Nonempty (HW w) := ⟨⟨w, Below.refl _ _⟩⟩
theorem HW.size {w : World} (s : HW w) : w.heap.size ≤ s.W.heap.size := s.bel.size
theorem HW.cellIs {w : World} {p : Addr} {v : Value} (h : w.cell? p = some v) (hp : p.block < w.heap.size) (s : HW w) : s.W.cell? p = some v := (s.bel.cell hp).trans h
theorem wp_region_held_lit {P : Program} {id : Nat} {Q : Exit → Act → World → Prop} {a : Act} {w : World} {l : List Oper} (hm : P.follows .mixedOrders = true) (hB : Region.lexB .any l.toArray = true)
    (h : wpQuiet P l.toArray (fun w' => ∃ s : HW w, w' = s.W) (fun a' => ∀ w', (∃ s : HW w, w' = s.W) → Q .normal a' w') l a) : (Code.region id l.toArray true).wp P Q a w :=
  wp_region_quiet (C := fun w' => ∃ s : HW w, w' = s.W) hm hB ⟨⟨w.drew, (Below.refl _ _).drew⟩, rfl⟩ (by simpa using h)
theorem held_call {P : Program} {f : FuncId} {args : Array Value} {w : World} {v : Value} (s : HW w) (h : Calls P f args s.W (RetV s.W v)) : Calls P f args s.W fun e w'' => e = .returned v ∧ ∃ s' : HW w, w'' = s'.W :=
  h.mono fun _ _ ⟨he, hb⟩ => ⟨he, ⟨_, s.bel.trans (hb.mono s.size)⟩, rfl⟩
theorem held_same {P : Program} {f : FuncId} {args : Array Value} {w : World} {v : Value} (s : HW w) (h : Calls P f args s.W fun e w' => e = .returned v ∧ s.W = w') : Calls P f args s.W fun e w'' => e = .returned v ∧ ∃ s' : HW w, w'' = s'.W :=
  h.mono fun _ _ ⟨he, hb⟩ => ⟨he, s, hb.symm⟩
end Go.Proofs.Yteoggoopfjkdkaa
