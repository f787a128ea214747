/-
  Frames as values: what they read as, what owns them, and the contracts of the laws' helpers on frames.
-/
import Derived.Test.YthodkpiflmmkhaaDoorBase
import Derived.WalkSpells
import Derived.WalkLawsBesides
namespace Go.Proofs.YthodkpiflmmkhaaDoor
section
open Go.RowKit
set_option maxRecDepth 100000

theorem Wr.setCell {lo hi : Nat} {a w : World} (h : Wr lo hi a w) {p : Addr} (h1 : lo ≤ p.block) (h2 : p.block < hi) (u : Value) : Wr lo hi a (w.setCell p u) :=
  h.trans ⟨rfl, rfl, rfl, by simp [World.setCell], fun k _ hn => Below.heap_setCell _ _ _ _ (by omega)⟩
/-- Block g is just these cells. -/
def BK (w : World) (g : Nat) (t : TypeId) (cs : Array Value) : Prop := g < w.heap.size ∧ w.heap[g]? = some (.cells cs t (0, 0))
theorem BK.cell {w : World} {g : Nat} {t : TypeId} {cs : Array Value} (h : BK w g t cs) (i : Nat) : w.cell? ⟨g, i, none⟩ = cs[i]? := cell_of_row w g i cs t (0, 0) h.2
theorem BK.free {w : World} {g : Nat} {t : TypeId} {cs : Array Value} (h : BK w g t cs) (i : Nat) : w.frozen? ⟨g, i, none⟩ = false := frozen_of_row w g i cs t h.2
theorem BK.far {w w' : World} {g a b : Nat} {t : TypeId} {cs : Array Value} (h : BK w g t cs) (hg : Wr a b w w') (hne : g < a ∨ b ≤ g) : BK w' g t cs := ⟨Nat.lt_of_lt_of_le h.1 hg.size, (hg.block g h.1 hne).trans h.2⟩
theorem BK.step {w w' : World} {g : Nat} {t : TypeId} {cs : Array Value} (h : BK w g t cs) (hb : Below w.heap.size w w') : BK w' g t cs := h.far (Wr.of_below hb w.heap.size w.heap.size) (by have := h.1; omega)
theorem BK.made (w : World) (t : TypeId) (cs : Array Value) : BK (w.alloc (.cells cs t)) w.heap.size t cs := ⟨by simp, heap_alloc_new w _⟩
theorem BK.alloc {w : World} {g : Nat} {t : TypeId} {cs : Array Value} (h : BK w g t cs) (o : Obj) : BK (w.alloc o) g t cs := h.step ((Below.refl _ _).alloc (Nat.le_refl _) o)
theorem BK.put {w : World} {g : Nat} {t : TypeId} {cs : Array Value} (h : BK w g t cs) (i : Nat) (u : Value) : BK (w.setCell ⟨g, i, none⟩ u) g t (cs.setIfInBounds i u) :=
  ⟨by simpa [World.setCell] using h.1, heap_setCell_same w g i cs t u h.2⟩
/-- A frame as data. -/
structure Fr where
  f : Int
  t : Int
  p : Int
  d : List Int
/-- The struct value of a frame, its data being the slice value s. -/
def frV (x : Fr) (s : Value) : Value := .agg #[.int .i64 x.f, .int .i64 x.t, .int .i64 x.p, s]
def RF (w : World) (B : Nat) (v : Value) (x : Fr) : Prop := ∃ s, v = frV x s ∧ RI w B s x.d
def OF (E : TypeId) (w : World) (lo hi : Nat) (v : Value) (x : Fr) : Prop := ∃ s, v = frV x s ∧ OI E w lo hi s x.d
section
variable {w w' : World} {B B' : Nat} {v : Value} {x : Fr}
theorem RF.step (h : RF w B v x) (hb : Below w.heap.size w w') (hB : B ≤ w.heap.size) : RF w' B v x := by
  obtain ⟨s, hv, hr⟩ := h
  exact ⟨s, hv, hr.step hb hB⟩
theorem RF.far {a b : Nat} (h : RF w B v x) (hg : Wr a b w w') (hB : B ≤ a) (hs : B ≤ w.heap.size) : RF w' B v x := by
  obtain ⟨s, hv, hr⟩ := h
  exact ⟨s, hv, hr.far hg hB hs⟩
theorem RF.more (h : RF w B v x) (hB : B ≤ B') : RF w B' v x := by
  obtain ⟨s, hv, hr⟩ := h
  exact ⟨s, hv, hr.more hB⟩
end
section
variable {E : TypeId} {w w' : World} {lo hi : Nat} {v : Value} {x : Fr}
theorem OF.rf (h : OF E w lo hi v x) : RF w hi v x := by
  obtain ⟨s, hv, hr⟩ := h
  exact ⟨s, hv, hr.ri⟩
theorem OF.far {a b : Nat} (h : OF E w lo hi v x) (hg : Wr a b w w') (hne : hi ≤ a ∨ b ≤ lo) : OF E w' lo hi v x := by
  obtain ⟨s, hv, hr⟩ := h
  exact ⟨s, hv, hr.far hg hne⟩
theorem OF.step (h : OF E w lo hi v x) (hb : Below w.heap.size w w') : OF E w' lo hi v x := by
  obtain ⟨s, hv, hr⟩ := h
  exact ⟨s, hv, hr.step hb⟩
end
/-- What a function that makes a frame leaves. -/
def RetF (E : TypeId) (w : World) (x : Fr) (e : Ending) (w' : World) : Prop := ∃ u, e = .returned u ∧ OF E w' w.heap.size w'.heap.size u x ∧ Below w.heap.size w w'

theorem szIntS_any (v : Value) (l : List Int) (n : Int) (w : World) (h : RI w w.heap.size v l) (h0 : 0 ≤ n) (h1 : n ≤ 1048576) (h2 : l.length ≤ maxLen) :
    Calls Tryd.prog 9 #[v, .int .i64 n] w fun e w' => e = .returned (.int .i64 (if n < l.length then -1 else n - l.length)) ∧ w = w' := by
  obtain ⟨A, c, rfl, hlc, hc⟩ := h
  clear hc
  unfold maxLen at h2
  have h3 : (l.length : Int) ≤ 9223372036854775807 := by omega
  rcases Int.lt_or_le n l.length with hlt | hlt
  · rw [if_pos hlt]
    have hneg : n - (l.length : Int) < 0 := by omega
    go_enter Tryd.func9, Tryd.ntmps9
    go_wp2
    go_ret
    exact ⟨rfl, rfl⟩
  · rw [if_neg (by omega)]
    have hneg : 0 ≤ n - (l.length : Int) := by omega
    go_enter Tryd.func9, Tryd.ntmps9
    go_wp2
    go_ret
    exact ⟨rfl, rfl⟩
theorem toFrame_any (v : Value) (x : Fr) (w : World) (h : RF w w.heap.size v x) (hn : x.d.length ≤ 1048576) :
    Calls Tryd.prog 6 #[v] w (RetF 3 w x) := by
  obtain ⟨s, rfl, h⟩ := h
  obtain ⟨f, t, p, d⟩ := x
  obtain ⟨A, c, rfl, hlc, hc⟩ := h
  simp only [frV] at hn hlc hc ⊢
  go_enter Tryd.func6, Tryd.ntmps6
  go_wp2_with fail
  have hW : Below w.heap.size w (((w.alloc (.cells #[.int .i64 f, .int .i64 t, .int .i64 p, .slice A d.length c] 24)).alloc (.cells #[.int .i64 0, .int .i64 0, .int .i64 0, .slice none 0 0] 28)).alloc (.cells #[.int .i64 f, .int .i64 t, .int .i64 p, .slice none 0 0] 28)) :=
    (((Below.refl _ _).alloc (Nat.le_refl _) _).alloc (by simp) _).alloc (by simp; omega) _
  have hri : RI w w.heap.size (.slice A d.length c) d := ⟨A, c, rfl, hlc, hc⟩
  have hB2 := (BK.made (w.alloc (.cells #[.int .i64 f, .int .i64 t, .int .i64 p, .slice A d.length c] 24)) 28 #[.int .i64 0, .int .i64 0, .int .i64 0, .slice none 0 0]).alloc (.cells #[.int .i64 f, .int .i64 t, .int .i64 p, .slice none 0 0] 28)
  have hB3 := BK.made ((w.alloc (.cells #[.int .i64 f, .int .i64 t, .int .i64 p, .slice A d.length c] 24)).alloc (.cells #[.int .i64 0, .int .i64 0, .int .i64 0, .slice none 0 0] 28)) 28 #[.int .i64 f, .int .i64 t, .int .i64 p, .slice none 0 0]
  refine (toIntS_any _ d _ ((hri.below hW).more hW.size) hn).mono ?_
  rintro e w1 ⟨u, rfl, ho, hb⟩
  have hB2' := hB2.step hb
  have hB3' := hB3.step hb
  have hs := hb.size
  have hbw := hW.trans (hb.mono hW.size)
  simp only [World.size_alloc] at hB2' hB3' hs ho
  clear hB2 hB3 hW hb hri hc hlc
  have c20 := hB2'.cell 0
  have c21 := hB2'.cell 1
  have c22 := hB2'.cell 2
  have c23 := hB2'.cell 3
  have c30 := hB3'.cell 0
  have c31 := hB3'.cell 1
  have c32 := hB3'.cell 2
  have c33 := hB3'.cell 3
  have f20 := hB2'.free 0
  have f21 := hB2'.free 1
  have f22 := hB2'.free 2
  have f23 := hB2'.free 3
  have f33 := hB3'.free 3
  simp at c20 c21 c22 c23 c30 c31 c32 c33
  obtain ⟨A', c', rfl, _, _⟩ := ho.ri
  go_wp2_with fail
  refine bodyPost_ret (v := frV ⟨f, t, p, d⟩ (.slice A' d.length c')) (by simp [results, Tryd.results6, go_sem, frV, c20, c21, c22, c23]) rfl ⟨_, rfl, ⟨_, rfl, ?_⟩, ?_⟩
  · have hwr := ((((((Wr.refl (w.heap.size + 1) (w.heap.size + 3) w1).setCell (p := ⟨w.heap.size + 1 + 1, 3, none⟩) (by simp) (by simp) (.slice A' d.length c')).setCell (p := ⟨w.heap.size + 1, 0, none⟩) (by simp) (by simp) (.int .i64 f)).setCell
      (p := ⟨w.heap.size + 1, 1, none⟩) (by simp) (by simp) (.int .i64 t)).setCell (p := ⟨w.heap.size + 1, 2, none⟩) (by simp) (by simp) (.int .i64 p)).setCell (p := ⟨w.heap.size + 1, 3, none⟩) (by simp) (by simp) (.slice A' d.length c'))
    exact (ho.far hwr (.inr (by simp))).wide (by omega) (by simp)
  · exact ((((hbw.setCell (p := ⟨w.heap.size + 1 + 1, 3, none⟩) (by simp; omega) _).setCell (p := ⟨w.heap.size + 1, 0, none⟩) (by simp) _).setCell (p := ⟨w.heap.size + 1, 1, none⟩) (by simp) _).setCell (p := ⟨w.heap.size + 1, 2, none⟩) (by simp) _).setCell (p := ⟨w.heap.size + 1, 3, none⟩) (by simp) _
end
end Go.Proofs.YthodkpiflmmkhaaDoor
