/-
  The draws of servers, buckets and traffic together.
-/
import Derived.Test.YtfncajdhdcpooaaDoorCurS
namespace Go.Proofs.YtfncajdhdcpooaaDoor
open Go.RowKit
set_option maxRecDepth 100000
set_option linter.unusedVariables false
theorem RB.more {w : World} {B B' : Nat} {v : Value} {n : Nat} (h : RB w B v n) (hB : B ≤ B') : RB w B' v n := by
  obtain ⟨A, c, hv, hlc, hc⟩ := h
  refine ⟨A, c, hv, hlc, fun hn => ?_⟩
  obtain ⟨b, off, hA, hbB, hcell⟩ := hc hn
  exact ⟨b, off, hA, by omega, hcell⟩

def RetDrawServedBy (w : World) (e : Ending) (w' : World) : Prop := ∃ (x0 : Sv) (u1 : Value) (l1 : List Int), e = .returned (.tuple #[SvV x0, u1]) ∧ l1.length ≤ 41 ∧ OI 3 w' w.heap.size w'.heap.size u1 l1 ∧ Below w.heap.size w w'
def RetDrawBacklogBound (w : World) (e : Ending) (w' : World) : Prop := ∃ (x0 : Sv) (x1 : Bu), e = .returned (.tuple #[SvV x0, BuV x1]) ∧ Below w.heap.size w w'
def RetDrawInRow (w : World) (e : Ending) (w' : World) : Prop := ∃ (x0 : Sv) (x1 : Sv), e = .returned (.tuple #[SvV x0, SvV x1]) ∧ Below w.heap.size w w'
def RetDrawWorstTraffic (w : World) (e : Ending) (w' : World) : Prop := ∃ (x0 : Bu) (y1 : Int), e = .returned (.tuple #[BuV x0, .int .i64 y1]) ∧ (-1000 ≤ y1 ∧ y1 ≤ 1000) ∧ Below w.heap.size w w'
def RetDrawShapeOf (w : World) (e : Ending) (w' : World) : Prop := ∃ (x0 : Bu) (u1 : Value) (l1 : List Int), e = .returned (.tuple #[BuV x0, u1]) ∧ l1.length ≤ 41 ∧ OI 3 w' w.heap.size w'.heap.size u1 l1 ∧ Below w.heap.size w w'
end Go.Proofs.YtfncajdhdcpooaaDoor
