/-
  Frames as values: what they read as, what owns them, and the contracts of the laws' helpers on frames.
-/
import Derived.Test.YtkmopfgeenadgaaBase
import Derived.WalkSpells
import Derived.WalkLawsBesides
namespace Go.Proofs.Ytkmopfgeenadgaa
open Go.RowKit
set_option maxRecDepth 100000

theorem Wr.setCell {lo hi : Nat} {a w : World} (h : Wr lo hi a w) {p : Addr} (h1 : lo ≤ p.block) (h2 : p.block < hi) (u : Value) : Wr lo hi a (w.setCell p u) :=
  h.trans ⟨rfl, rfl, rfl, by simp [World.setCell], fun k _ hn => Below.heap_setCell _ _ _ _ (by omega)⟩
/-- Block g is just these cells. -/
def BK (w : World) (g : Nat) (t : TypeId) (cs : Array Value) : Prop := g < w.heap.size ∧ w.heap[g]? = some (.cells cs t (0, 0))
theorem BK.cell {w : World} {g : Nat} {t : TypeId} {cs : Array Value} (h : BK w g t cs) (i : Nat) : w.cell? ⟨g, i, none⟩ = cs[i]? := cell_of_row w g i cs t (0, 0) h.2
theorem BK.free {w : World} {g : Nat} {t : TypeId} {cs : Array Value} (h : BK w g t cs) (i : Nat) : w.frozen? ⟨g, i, none⟩ = false := frozen_of_row w g i cs t h.2
theorem BK.far {w w' : World} {g a b : Nat} {t : TypeId} {cs : Array Value} (h : BK w g t cs) (hg : Wr a b w w') (hne : g < a ∨ b ≤ g) : BK w' g t cs := ⟨Nat.lt_of_lt_of_le h.1 hg.size, (hg.block g h.1 hne).trans h.2⟩
theorem BK.step {w w' : World} {g : Nat} {t : TypeId} {cs : Array Value} (h : BK w g t cs) (hb : Below w.heap.size w w') : BK w' g t cs := h.far (Wr.of_below hb w.heap.size w.heap.size) (by have := h.1; omega)
theorem BK.made (w : World) (t : TypeId) (cs : Array Value) : BK (w.alloc (.cells cs t)) w.heap.size t cs := ⟨by simp, heap_alloc_new w _⟩
theorem BK.alloc {w : World} {g : Nat} {t : TypeId} {cs : Array Value} (h : BK w g t cs) (o : Obj) : BK (w.alloc o) g t cs := h.step ((Below.refl _ _).alloc (Nat.le_refl _) o)
theorem BK.put {w : World} {g : Nat} {t : TypeId} {cs : Array Value} (h : BK w g t cs) (i : Nat) (u : Value) : BK (w.setCell ⟨g, i, none⟩ u) g t (cs.setIfInBounds i u) :=
  ⟨by simpa [World.setCell] using h.1, heap_setCell_same w g i cs t u h.2⟩
/-- A frame as data. -/
structure Fr where
  f : Int
  t : Int
  p : Int
  d : List Int
/-- The struct value of a frame, its data being the slice value s. -/
def frV (x : Fr) (s : Value) : Value := .agg #[.int .i64 x.f, .int .i64 x.t, .int .i64 x.p, s]
def RF (w : World) (B : Nat) (v : Value) (x : Fr) : Prop := ∃ s, v = frV x s ∧ RI w B s x.d
def OF (E : TypeId) (w : World) (lo hi : Nat) (v : Value) (x : Fr) : Prop := ∃ s, v = frV x s ∧ OI E w lo hi s x.d
section
variable {w w' : World} {B B' : Nat} {v : Value} {x : Fr}
theorem RF.step (h : RF w B v x) (hb : Below w.heap.size w w') (hB : B ≤ w.heap.size) : RF w' B v x := by
  obtain ⟨s, hv, hr⟩ := h
  exact ⟨s, hv, hr.step hb hB⟩
theorem RF.far {a b : Nat} (h : RF w B v x) (hg : Wr a b w w') (hB : B ≤ a) (hs : B ≤ w.heap.size) : RF w' B v x := by
  obtain ⟨s, hv, hr⟩ := h
  exact ⟨s, hv, hr.far hg hB hs⟩
theorem RF.more (h : RF w B v x) (hB : B ≤ B') : RF w B' v x := by
  obtain ⟨s, hv, hr⟩ := h
  exact ⟨s, hv, hr.more hB⟩
end
section
variable {E : TypeId} {w w' : World} {lo hi : Nat} {v : Value} {x : Fr}
theorem OF.rf (h : OF E w lo hi v x) : RF w hi v x := by
  obtain ⟨s, hv, hr⟩ := h
  exact ⟨s, hv, hr.ri⟩
theorem OF.far {a b : Nat} (h : OF E w lo hi v x) (hg : Wr a b w w') (hne : hi ≤ a ∨ b ≤ lo) : OF E w' lo hi v x := by
  obtain ⟨s, hv, hr⟩ := h
  exact ⟨s, hv, hr.far hg hne⟩
theorem OF.step (h : OF E w lo hi v x) (hb : Below w.heap.size w w') : OF E w' lo hi v x := by
  obtain ⟨s, hv, hr⟩ := h
  exact ⟨s, hv, hr.step hb⟩
end
/-- What a function that makes a frame leaves. -/
def RetF (E : TypeId) (w : World) (x : Fr) (e : Ending) (w' : World) : Prop := ∃ u, e = .returned u ∧ OF E w' w.heap.size w'.heap.size u x ∧ Below w.heap.size w w'

end Go.Proofs.Ytkmopfgeenadgaa
