/-
  Small facts on addresses and cells.
-/
import Derived.Test.YteoggoopfjkdkaaBase
import Derived.WalkSpells
import Derived.WalkLawsBesides
namespace Go.Proofs.Yteoggoopfjkdkaa
open Go.RowKit
set_option maxRecDepth 100000

theorem addr_add (b off i : Nat) : (⟨b, off, none⟩ : Addr).add i = ⟨b, off + i, none⟩ := by unfold Addr.add; split <;> simp_all
theorem ics_oneCell (l : List Int) : ∀ u ∈ ics l, u.oneCell' = true := by
  intro u hu
  unfold ics at hu
  obtain ⟨x, _, rfl⟩ := List.mem_map.1 hu
  rfl

end Go.Proofs.Yteoggoopfjkdkaa
