/-
  What the rows' frames share: an argument that is a slice of ints is opened to what the walks ask of it. An argument that is a slice of bytes is opened to what the walks ask of it.
-/
import Derived.Test.YteoggoopfjkdkaaRows
import Derived.Test.YteoggoopfjkdkaaWords
import Derived.Test.YteoggoopfjkdkaaInit
import Derived.ProofKit
import Derived.OpenShut
import Derived.ShutString
import Derived.ChangeOld
import Derived.Below
import Derived.Test.YteoggoopfjkdkaaCurEM
namespace Go.Proofs.Yteoggoopfjkdkaa
section
open Go.ChangeShapes Go.WideShapes Go.ChangeAt Go.RowKit

theorem own : ownKnob Try.prog.godebug = none := by kernel_rfl
theorem laidOut : laidOutB Try.prog = true := by kernel_rfl

theorem ri_of_cells {w : World} {x : Addr} {len cap : Nat} {zs : List Int} (hl : len ≤ zs.length) (hzc : zs.length = cap) (hm : cap ≤ maxLen) (hcell : ∀ i, i < zs.length → w.cell? (x.add i) = some (.int .i64 (zs.getD i 0))) :
    RI w w.heap.size (.slice (some x) len cap) (zs.take len) := by
  have e : (zs.take len).length = len := by simp; omega
  refine ⟨some x, cap, by rw [e], ⟨by omega, hm, fun h => by cases h⟩, fun h0 => ?_⟩
  obtain ⟨b, off, spot⟩ := x
  have hc0 := hcell 0 (by omega)
  have hspot : spot = none := by simpa [Addr.add] using World.cell?_spot hc0
  subst hspot
  refine ⟨b, off, rfl, ?_, fun j hj => ?_⟩
  · have hc1 : w.cell? ⟨b, off, none⟩ = some (.int .i64 (zs.getD 0 0)) := by simpa [Addr.add] using hc0
    unfold World.cell? at hc1
    cases hb : w.heap[b]? with
    | none => simp [hb] at hc1
    | some o => exact (Array.getElem?_eq_some_iff.1 hb).1
  · have hj' : j < len := by omega
    have hcj := hcell j (by omega)
    rw [add_plain] at hcj
    rw [hcj]
    congr 2
    simp [List.getD, hj']
end
section
open Go.ChangeShapes Go.WideShapes Go.ChangeAt Go.RowKit
set_option maxRecDepth 100000

theorem open_bytes {H : Type} {enc : TypeId × Value → H} {w : World} {base : Nat} {spare : Nat → Bool} {held : Bool} {fuel : Nat} {v : Value} {x : DataW H × List MemPlace}
    (h : DataW.trod enc Try.prog w base spare held fuel 22 [v] = some x) : ∃ n : Nat, RB w w.heap.size v n := by
  rcases open_ints Try.underlying22 Try.underlying5 (by kernel_rfl) h with ⟨hcs, _⟩ | ⟨a, len, cap, zs, hcs, _, hl, hm, hz, _, hcell, hwz⟩
  · obtain rfl : v = .slice none 0 0 := by simpa using hcs
    exact ⟨0, none, 0, rfl, ⟨by simp, by simp⟩, fun h => absurd h (by simp)⟩
  · obtain rfl : v = .slice (some a) len cap := by simpa using hcs
    have hz' : len ≤ zs.length := by rw [hz]; split <;> omega
    refine ⟨len, some a, cap, rfl, ⟨by omega, hm⟩, fun h0 => ?_⟩
    obtain ⟨b, off, spot⟩ := a
    have hc0 := hcell 0 (by omega)
    have hspot : spot = none := by simpa [Addr.add] using World.cell?_spot hc0
    subst hspot
    refine ⟨b, off, rfl, ?_, fun j hj => ?_⟩
    · have hc1 : w.cell? ⟨b, off, none⟩ = some (.int .u8 (zs.getD 0 0)) := by simpa [Addr.add] using hc0
      unfold World.cell? at hc1
      cases hb : w.heap[b]? with
      | none => simp [hb] at hc1
      | some o => exact (Array.getElem?_eq_some_iff.1 hb).1
    · have hcj := hcell j (by omega)
      rw [add_plain] at hcj
      have hw := hwz (zs.getD j 0) (by rw [List.getD_eq_getElem?_getD, List.getElem?_eq_getElem (by omega : j < zs.length)]; exact List.getElem_mem _)
      have hb : 0 ≤ zs.getD j 0 ∧ zs.getD j 0 < 256 := by
        have h1 : IntKind.u8.min = 0 := by decide
        have h2 : IntKind.u8.max = 255 := by decide
        have h3 := hw
        simp only [Lit.wf, Bool.and_eq_true, decide_eq_true_eq, h1, h2] at h3
        omega
      exact ⟨(zs.getD j 0).toNat, by omega, by rw [hcj]; congr 2; omega⟩
end
end Go.Proofs.Yteoggoopfjkdkaa
