/-
  More on what a call gathers.
-/
import Derived.Test.YteoggoopfjkdkaaBk
namespace Go.Proofs.Yteoggoopfjkdkaa
open Go.RowKit

theorem Acc.step {E : TypeId} {w w' : World} {lo : Nat} {v : Value} {l : List Int} (h : Acc E w lo v l) (hb : Below w.heap.size w w') : Acc E w' lo v l := by
  have h0 := h
  rcases h.2 with ⟨rfl, hn⟩ | ⟨g, c, cur, rfl, hg, _⟩
  · exact ⟨h.1, .inl ⟨rfl, hn⟩⟩
  · exact row_far h0 (Wr.of_below hb w.heap.size w.heap.size) (by obtain ⟨_, h2, _⟩ := row_parts h0; omega)
theorem Acc.lit1 {E : TypeId} {w : World} {lo : Nat} {x : Int} {g : Nat} (hg : g = w.heap.size) (hlo : g = lo := by rfl) : Acc E (w.alloc (.cells #[.int .i64 x] E)) lo (.slice (some ⟨g, 0, none⟩) 1 1) [x] := by
  subst hg
  subst hlo
  exact ⟨rfl, .inr ⟨_, 1, _, rfl, Nat.le_refl _, heap_alloc_new w _, Nat.le_refl _, by unfold maxLen; omega, rfl, rfl⟩⟩
end Go.Proofs.Yteoggoopfjkdkaa
