/-
  What the rows' frames share: an argument that is a slice of ints is opened to what the walks ask of it.
-/
import Derived.Test.YtdlmacoblmnajaaRows
import Derived.Test.YtdlmacoblmnajaaWords
import Derived.Test.YtdlmacoblmnajaaInit
import Derived.ProofKit
import Derived.OpenShut
import Derived.ShutString
import Derived.ChangeOld
import Derived.Below
namespace Go.Proofs.Ytdlmacoblmnajaa
open Go.ChangeShapes Go.WideShapes Go.ChangeAt Go.RowKit

theorem own : ownKnob Try.prog.godebug = none := by kernel_rfl
theorem laidOut : laidOutB Try.prog = true := by kernel_rfl

theorem ri_of_cells {w : World} {x : Addr} {len cap : Nat} {zs : List Int} (hl : len ≤ zs.length) (hzc : zs.length = cap) (hm : cap ≤ maxLen) (hcell : ∀ i, i < zs.length → w.cell? (x.add i) = some (.int .i64 (zs.getD i 0))) :
    RI w w.heap.size (.slice (some x) len cap) (zs.take len) := by
  have e : (zs.take len).length = len := by simp; omega
  refine ⟨some x, cap, by rw [e], ⟨by omega, hm, fun h => by cases h⟩, fun h0 => ?_⟩
  obtain ⟨b, off, spot⟩ := x
  have hc0 := hcell 0 (by omega)
  have hspot : spot = none := by simpa [Addr.add] using World.cell?_spot hc0
  subst hspot
  refine ⟨b, off, rfl, ?_, fun j hj => ?_⟩
  · have hc1 : w.cell? ⟨b, off, none⟩ = some (.int .i64 (zs.getD 0 0)) := by simpa [Addr.add] using hc0
    unfold World.cell? at hc1
    cases hb : w.heap[b]? with
    | none => simp [hb] at hc1
    | some o => exact (Array.getElem?_eq_some_iff.1 hb).1
  · have hj' : j < len := by omega
    have hcj := hcell j (by omega)
    rw [add_plain] at hcj
    rw [hcj]
    congr 2
    simp [List.getD, hj']
end Go.Proofs.Ytdlmacoblmnajaa
