/-
  Insertion rings as data.
-/
import Derived.Test.YtfphkgialmjfnaaMathSlot
import Derived.Test.YtfphkgialmjfnaaMathI6
import Derived.Test.YtfphkgialmjfnaaSMessage
namespace Go.Proofs.Ytfphkgialmjfnaa
open Go.RowKit
set_option maxRecDepth 100000
set_option linter.unusedVariables false

/-- An insertion ring as data. -/
structure Ir where
  n : Int
  r : Int
  h : Bool
def IrV (x : Ir) : Value := .agg #[.int .i64 x.n, .int .i64 x.r, .bool x.h]
def isIr (x : Ir) : Bool := wi x.n 2 12 && wi x.r 1 20
theorem isIr_in {x : Ir} (h : isIr x = true) : (2 ≤ x.n ∧ x.n ≤ 12) ∧ 1 ≤ x.r ∧ x.r ≤ 20 := by simpa [isIr, wi] using h
def inOk (x : Ir) (l : List Ms) : Bool := isIr x && areMs x.n l
theorem inOk_in {x : Ir} {l : List Ms} (h : inOk x l = true) : isIr x = true ∧ areMs x.n l = true := by simpa [inOk] using h
def swI (n : Int) (l : List Ms) : Sw := ⟨n.toNat, l.length, false, fun i => l[i]!.f.toNat, fun i => l[i]!.o.toNat, fun i => l[i]!.t.toNat⟩
/-- The ring with its cells. -/
def iwOf (x : Ir) (l : List Ms) : Iw := ⟨swI x.n l, x.r.toNat, x.h⟩
theorem msAtI {k : Int} {l : List Ms} (hall : ∀ y ∈ l, MsIn k y) (i : Nat) (hi : i < l.length) : MsIn k l[i]! := by
  rw [getElem!_pos l i hi]
  exact hall _ (List.getElem_mem hi)
theorem iwOk {x : Ir} {l : List Ms} (h : inOk x l = true) : (iwOf x l).Ok := by
  obtain ⟨h1, h2⟩ := inOk_in h
  obtain ⟨h3, h4⟩ := isIr_in h1
  obtain ⟨hl, hall, _⟩ := areMs_in h2
  have e : (iwOf x l).sw = swI x.n l := rfl
  refine ⟨⟨?_, fun i hi => ?_, fun i hi => ?_, fun i hi => ?_⟩, ?_⟩
  · show 2 ≤ x.n.toNat; omega
  · obtain ⟨_, _, a, b, c, d, f⟩ := msAtI hall i hi
    show l[i]!.f.toNat < x.n.toNat; omega
  · obtain ⟨_, _, a, b, c, d, f⟩ := msAtI hall i hi
    show l[i]!.o.toNat < x.n.toNat; omega
  · obtain ⟨_, _, a, b, c, d, f⟩ := msAtI hall i hi
    show l[i]!.f.toNat ≠ l[i]!.o.toNat; omega
  · show 1 ≤ x.r.toNat; omega
theorem iwNeed {x : Ir} {l : List Ms} (h : inOk x l = true) : (iwOf x l).need < 400 ∧ (iwOf x l).done (iwOf x l).need = true ∧ ∀ t, t < (iwOf x l).need → (iwOf x l).done t = false := by
  obtain ⟨h1, h2⟩ := inOk_in h
  obtain ⟨h3, h4⟩ := isIr_in h1
  obtain ⟨hl, hall, _⟩ := areMs_in h2
  refine Iw.need_ok (iwOk h) (fun c hc => ?_) ?_ hl
  · obtain ⟨a, b, _⟩ := msAtI hall c hc
    show l[c]!.t.toNat ≤ 100; omega
  · show x.n.toNat ≤ 12; omega
end Go.Proofs.Ytfphkgialmjfnaa
