/-
  Marks laid into a frame's data, and marks held.
-/
import Derived.Test.YthodkpiflmmkhaaDoorIsFrame
namespace Go.Proofs.YthodkpiflmmkhaaDoor
open Go.RowKit
set_option maxRecDepth 100000

def RetMF (E : TypeId) (lo hi : Nat) (v : Value) (x : Fr) (m : Int) (w : World) (e : Ending) (w' : World) : Prop :=
  e = .returned (.int .i64 (m + x.d.length)) ∧ OF E w' lo hi v { x with d := marks m x.d.length } ∧ Wr lo hi w w'
end Go.Proofs.YthodkpiflmmkhaaDoor
