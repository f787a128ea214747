/-
  Frames as values: what they read as, what owns them, and the contracts of the laws' helpers on frames.
-/
import Derived.Test.YtmghhhceemmdpaaSz
import Derived.Test.YtmghhhceemmdpaaAcc
import Derived.WalkSpells
import Derived.WalkLawsBesides
namespace Go.Proofs.Ytmghhhceemmdpaa
open Go.RowKit
set_option maxRecDepth 100000

/-- A frame as data. -/
structure Fr where
  f : Int
  t : Int
  p : Int
  d : List Int
/-- The struct value of a frame, its data being the slice value s. -/
def frV (x : Fr) (s : Value) : Value := .agg #[.int .i64 x.f, .int .i64 x.t, .int .i64 x.p, s]
def RF (w : World) (B : Nat) (v : Value) (x : Fr) : Prop := ∃ s, v = frV x s ∧ RI w B s x.d
def OF (E : TypeId) (w : World) (lo hi : Nat) (v : Value) (x : Fr) : Prop := ∃ s, v = frV x s ∧ OI E w lo hi s x.d
section
variable {w w' : World} {B B' : Nat} {v : Value} {x : Fr}
theorem RF.step (h : RF w B v x) (hb : Below w.heap.size w w') (hB : B ≤ w.heap.size) : RF w' B v x := by
  obtain ⟨s, hv, hr⟩ := h
  exact ⟨s, hv, hr.step hb hB⟩
theorem RF.far {a b : Nat} (h : RF w B v x) (hg : Wr a b w w') (hB : B ≤ a) (hs : B ≤ w.heap.size) : RF w' B v x := by
  obtain ⟨s, hv, hr⟩ := h
  exact ⟨s, hv, hr.far hg hB hs⟩
theorem RF.more (h : RF w B v x) (hB : B ≤ B') : RF w B' v x := by
  obtain ⟨s, hv, hr⟩ := h
  exact ⟨s, hv, hr.more hB⟩
end
section
variable {E : TypeId} {w w' : World} {lo hi : Nat} {v : Value} {x : Fr}
theorem OF.rf (h : OF E w lo hi v x) : RF w hi v x := by
  obtain ⟨s, hv, hr⟩ := h
  exact ⟨s, hv, hr.ri⟩
theorem OF.far {a b : Nat} (h : OF E w lo hi v x) (hg : Wr a b w w') (hne : hi ≤ a ∨ b ≤ lo) : OF E w' lo hi v x := by
  obtain ⟨s, hv, hr⟩ := h
  exact ⟨s, hv, hr.far hg hne⟩
theorem OF.step (h : OF E w lo hi v x) (hb : Below w.heap.size w w') : OF E w' lo hi v x := by
  obtain ⟨s, hv, hr⟩ := h
  exact ⟨s, hv, hr.step hb⟩
end
/-- What a function that makes a frame leaves. -/
def RetF (E : TypeId) (w : World) (x : Fr) (e : Ending) (w' : World) : Prop := ∃ u, e = .returned u ∧ OF E w' w.heap.size w'.heap.size u x ∧ Below w.heap.size w w'

theorem toFrame_any (v : Value) (x : Fr) (w : World) (h : RF w w.heap.size v x) (hn : x.d.length ≤ 1048576) :
    Calls Try.prog 24 #[v] w (RetF 3 w x) := by
  obtain ⟨s, rfl, h⟩ := h
  obtain ⟨f, t, p, d⟩ := x
  obtain ⟨A, c, rfl, hlc, hc⟩ := h
  simp only [frV] at hn hlc hc ⊢
  go_enter Try.func24, Try.ntmps24
  go_wp2_with fail
  have hW : Below w.heap.size w (((w.alloc (.cells #[.int .i64 f, .int .i64 t, .int .i64 p, .slice A d.length c] 34)).alloc (.cells #[.int .i64 0, .int .i64 0, .int .i64 0, .slice none 0 0] 26)).alloc (.cells #[.int .i64 f, .int .i64 t, .int .i64 p, .slice none 0 0] 26)) :=
    (((Below.refl _ _).alloc (Nat.le_refl _) _).alloc (by simp) _).alloc (by simp; omega) _
  have hri : RI w w.heap.size (.slice A d.length c) d := ⟨A, c, rfl, hlc, hc⟩
  have hB2 := (BK.made (w.alloc (.cells #[.int .i64 f, .int .i64 t, .int .i64 p, .slice A d.length c] 34)) 26 #[.int .i64 0, .int .i64 0, .int .i64 0, .slice none 0 0]).alloc (.cells #[.int .i64 f, .int .i64 t, .int .i64 p, .slice none 0 0] 26)
  have hB3 := BK.made ((w.alloc (.cells #[.int .i64 f, .int .i64 t, .int .i64 p, .slice A d.length c] 34)).alloc (.cells #[.int .i64 0, .int .i64 0, .int .i64 0, .slice none 0 0] 26)) 26 #[.int .i64 f, .int .i64 t, .int .i64 p, .slice none 0 0]
  refine (toIntS_any _ d _ ((hri.below hW).more hW.size) hn).mono ?_
  rintro e w1 ⟨u, rfl, ho, hb⟩
  have hB2' := hB2.step hb
  have hB3' := hB3.step hb
  have hs := hb.size
  have hbw := hW.trans (hb.mono hW.size)
  simp only [World.size_alloc] at hB2' hB3' hs ho
  clear hB2 hB3 hW hb hri hc hlc
  have c20 := hB2'.cell 0
  have c21 := hB2'.cell 1
  have c22 := hB2'.cell 2
  have c23 := hB2'.cell 3
  have c30 := hB3'.cell 0
  have c31 := hB3'.cell 1
  have c32 := hB3'.cell 2
  have c33 := hB3'.cell 3
  have f20 := hB2'.free 0
  have f21 := hB2'.free 1
  have f22 := hB2'.free 2
  have f23 := hB2'.free 3
  have f33 := hB3'.free 3
  simp at c20 c21 c22 c23 c30 c31 c32 c33
  obtain ⟨A', c', rfl, _, _⟩ := ho.ri
  go_wp2_with fail
  refine bodyPost_ret (v := frV ⟨f, t, p, d⟩ (.slice A' d.length c')) (by simp [results, Try.results24, go_sem, frV, c20, c21, c22, c23]) rfl ⟨_, rfl, ⟨_, rfl, ?_⟩, ?_⟩
  · have hwr := ((((((Wr.refl (w.heap.size + 1) (w.heap.size + 3) w1).setCell (p := ⟨w.heap.size + 1 + 1, 3, none⟩) (by simp) (by simp) (.slice A' d.length c')).setCell (p := ⟨w.heap.size + 1, 0, none⟩) (by simp) (by simp) (.int .i64 f)).setCell
      (p := ⟨w.heap.size + 1, 1, none⟩) (by simp) (by simp) (.int .i64 t)).setCell (p := ⟨w.heap.size + 1, 2, none⟩) (by simp) (by simp) (.int .i64 p)).setCell (p := ⟨w.heap.size + 1, 3, none⟩) (by simp) (by simp) (.slice A' d.length c'))
    exact (ho.far hwr (.inr (by simp))).wide (by omega) (by simp)
  · exact ((((hbw.setCell (p := ⟨w.heap.size + 1 + 1, 3, none⟩) (by simp; omega) _).setCell (p := ⟨w.heap.size + 1, 0, none⟩) (by simp) _).setCell (p := ⟨w.heap.size + 1, 1, none⟩) (by simp) _).setCell (p := ⟨w.heap.size + 1, 2, none⟩) (by simp) _).setCell (p := ⟨w.heap.size + 1, 3, none⟩) (by simp) _
end Go.Proofs.Ytmghhhceemmdpaa
