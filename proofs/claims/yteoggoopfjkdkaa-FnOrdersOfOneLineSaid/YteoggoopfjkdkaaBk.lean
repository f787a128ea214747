/-
  Blocks known whole.
-/
import Derived.Test.YteoggoopfjkdkaaBase
import Derived.WalkSpells
import Derived.WalkLawsBesides
namespace Go.Proofs.Yteoggoopfjkdkaa
open Go.RowKit
set_option maxRecDepth 100000

theorem Wr.setCell {lo hi : Nat} {a w : World} (h : Wr lo hi a w) {p : Addr} (h1 : lo ≤ p.block) (h2 : p.block < hi) (u : Value) : Wr lo hi a (w.setCell p u) :=
  h.trans ⟨rfl, rfl, rfl, by simp [World.setCell], fun k _ hn => Below.heap_setCell _ _ _ _ (by omega)⟩
/-- Block g is just these cells. -/
def BK (w : World) (g : Nat) (t : TypeId) (cs : Array Value) : Prop := g < w.heap.size ∧ w.heap[g]? = some (.cells cs t (0, 0))
theorem BK.cell {w : World} {g : Nat} {t : TypeId} {cs : Array Value} (h : BK w g t cs) (i : Nat) : w.cell? ⟨g, i, none⟩ = cs[i]? := cell_of_row w g i cs t (0, 0) h.2
theorem BK.free {w : World} {g : Nat} {t : TypeId} {cs : Array Value} (h : BK w g t cs) (i : Nat) : w.frozen? ⟨g, i, none⟩ = false := frozen_of_row w g i cs t h.2
theorem BK.far {w w' : World} {g a b : Nat} {t : TypeId} {cs : Array Value} (h : BK w g t cs) (hg : Wr a b w w') (hne : g < a ∨ b ≤ g) : BK w' g t cs := ⟨Nat.lt_of_lt_of_le h.1 hg.size, (hg.block g h.1 hne).trans h.2⟩
theorem BK.step {w w' : World} {g : Nat} {t : TypeId} {cs : Array Value} (h : BK w g t cs) (hb : Below w.heap.size w w') : BK w' g t cs := h.far (Wr.of_below hb w.heap.size w.heap.size) (by have := h.1; omega)
theorem BK.made (w : World) (t : TypeId) (cs : Array Value) : BK (w.alloc (.cells cs t)) w.heap.size t cs := ⟨by simp, heap_alloc_new w _⟩
theorem BK.alloc {w : World} {g : Nat} {t : TypeId} {cs : Array Value} (h : BK w g t cs) (o : Obj) : BK (w.alloc o) g t cs := h.step ((Below.refl _ _).alloc (Nat.le_refl _) o)
theorem BK.put {w : World} {g : Nat} {t : TypeId} {cs : Array Value} (h : BK w g t cs) (i : Nat) (u : Value) : BK (w.setCell ⟨g, i, none⟩ u) g t (cs.setIfInBounds i u) :=
  ⟨by simpa [World.setCell] using h.1, heap_setCell_same w g i cs t u h.2⟩
/-- A literal's block reads as its ints. -/
theorem BK.ri {w : World} {g : Nat} {t : TypeId} {cs : Array Value} (h : BK w g t cs) (l : List Int) (c B : Nat) (hcs : ∀ j, j < l.length → cs[j]? = some (.int .i64 (l.getD j 0))) (hlc : l.length ≤ c) (hm : c ≤ maxLen) (hB : g < B) : RI w B (.slice (some ⟨g, 0, none⟩) l.length c) l :=
  ⟨_, c, rfl, ⟨hlc, hm, fun h => by cases h⟩, fun _ => ⟨g, 0, rfl, hB, fun j hj => by rw [h.cell, Nat.zero_add]; exact hcs j hj⟩⟩
theorem BK.ri1 {w : World} {g : Nat} {t : TypeId} {x : Int} (h : BK w g t #[.int .i64 x]) : RI w w.heap.size (.slice (some ⟨g, 0, none⟩) 1 1) [x] :=
  h.ri [x] 1 w.heap.size (fun j hj => by obtain rfl : j = 0 := by simp at hj; omega
                                         rfl) (by simp) (by unfold maxLen; omega) h.1
theorem BK.ri2 {w : World} {g : Nat} {t : TypeId} {x y : Int} (h : BK w g t #[.int .i64 x, .int .i64 y]) : RI w w.heap.size (.slice (some ⟨g, 0, none⟩) 2 2) [x, y] :=
  h.ri [x, y] 2 w.heap.size (fun j hj => by obtain rfl | rfl : j = 0 ∨ j = 1 := by simp at hj; omega
                                            · rfl
                                            · rfl) (by simp) (by unfold maxLen; omega) h.1
theorem lit1 {w : World} {x : Int} {t : TypeId} {g : Nat} (hg : g = w.heap.size) : RI (w.alloc (.cells #[.int .i64 x] t)) (w.alloc (.cells #[.int .i64 x] t)).heap.size (.slice (some ⟨g, 0, none⟩) 1 1) [x] := by
  subst hg
  exact (BK.made w t _).ri1
theorem lit2 {w : World} {x y : Int} {t : TypeId} {g : Nat} (hg : g = w.heap.size) : RI (w.alloc (.cells #[.int .i64 x, .int .i64 y] t)) (w.alloc (.cells #[.int .i64 x, .int .i64 y] t)).heap.size (.slice (some ⟨g, 0, none⟩) 2 2) [x, y] := by
  subst hg
  exact (BK.made w t _).ri2
end Go.Proofs.Yteoggoopfjkdkaa
