/-
  TimedRings as values: what they read as, what owns them, and the contracts of the laws' helpers on them.
-/
import Derived.Test.YtgkpdlicgllcoaaSz
namespace Go.Proofs.Ytgkpdlicgllcoaa
open Go.RowKit
set_option maxRecDepth 100000

/-- A TimedRing as data. -/
structure Tm where
  t : Int
  k : Int
  d : List Int
/-- Its struct value, its slice being s. -/
def TmV (x : Tm) (s : Value) : Value := .agg #[.int .i64 x.t, .int .i64 x.k, s]
def RTm (w : World) (B : Nat) (v : Value) (x : Tm) : Prop := ∃ s, v = TmV x s ∧ RI w B s x.d
def OTm (E : TypeId) (w : World) (lo hi : Nat) (v : Value) (x : Tm) : Prop := ∃ s, v = TmV x s ∧ OI E w lo hi s x.d
def TmZero : Tm := ⟨0, 0, []⟩
section
variable {w w' : World} {B B' : Nat} {v : Value} {x : Tm}
theorem RTm.step (h : RTm w B v x) (hb : Below w.heap.size w w') (hB : B ≤ w.heap.size) : RTm w' B v x := by
  obtain ⟨s, hv, hr⟩ := h
  exact ⟨s, hv, hr.step hb hB⟩
theorem RTm.far {a b : Nat} (h : RTm w B v x) (hg : Wr a b w w') (hB : B ≤ a) (hs : B ≤ w.heap.size) : RTm w' B v x := by
  obtain ⟨s, hv, hr⟩ := h
  exact ⟨s, hv, hr.far hg hB hs⟩
theorem RTm.more (h : RTm w B v x) (hB : B ≤ B') : RTm w B' v x := by
  obtain ⟨s, hv, hr⟩ := h
  exact ⟨s, hv, hr.more hB⟩
end
section
variable {E : TypeId} {w w' : World} {lo hi : Nat} {v : Value} {x : Tm}
theorem OTm.rd (h : OTm E w lo hi v x) : RTm w hi v x := by
  obtain ⟨s, hv, hr⟩ := h
  exact ⟨s, hv, hr.ri⟩
theorem OTm.far {a b : Nat} (h : OTm E w lo hi v x) (hg : Wr a b w w') (hne : hi ≤ a ∨ b ≤ lo) : OTm E w' lo hi v x := by
  obtain ⟨s, hv, hr⟩ := h
  exact ⟨s, hv, hr.far hg hne⟩
theorem OTm.step (h : OTm E w lo hi v x) (hb : Below w.heap.size w w') : OTm E w' lo hi v x := by
  obtain ⟨s, hv, hr⟩ := h
  exact ⟨s, hv, hr.step hb⟩
end
/-- What a function that makes one leaves. -/
def RetTm (E : TypeId) (w : World) (x : Tm) (e : Ending) (w' : World) : Prop := ∃ u, e = .returned u ∧ OTm E w' w.heap.size w'.heap.size u x ∧ Below w.heap.size w w'
/-- .. and a bool. -/
def RetTmB (E : TypeId) (w : World) (x : Tm) (b : Bool) (e : Ending) (w' : World) : Prop :=
  ∃ u, e = .returned (.tuple #[u, .bool b]) ∧ OTm E w' w.heap.size w'.heap.size u x ∧ Below w.heap.size w w'
theorem oTmZero (E : TypeId) (w : World) (lo hi : Nat) : OTm E w lo hi (TmV TmZero (.slice none 0 0)) TmZero := ⟨_, rfl, .inl ⟨rfl, none, 0, rfl, by simp, fun _ => rfl⟩⟩

theorem toTimedRing_any (v : Value) (x : Tm) (w : World) (h : RTm w w.heap.size v x) (hn : x.d.length ≤ 1048576) :
    Calls Try.prog 18 #[v] w (RetTm 3 w x) := by
  obtain ⟨s, rfl, h⟩ := h
  obtain ⟨t, k, d⟩ := x
  obtain ⟨A, c, rfl, hlc, hc⟩ := h
  simp only [TmV] at hn hlc hc ⊢
  go_enter Try.func18, Try.ntmps18
  go_wp2_with fail
  have hW : Below w.heap.size w (((w.alloc (.cells #[.int .i64 t, .int .i64 k, .slice A d.length c] 24)).alloc (.cells #[.int .i64 0, .int .i64 0, .slice none 0 0] 27)).alloc (.cells #[.int .i64 t, .int .i64 k, .slice none 0 0] 27)) :=
    (((Below.refl _ _).alloc (Nat.le_refl _) _).alloc (by simp) _).alloc (by simp; omega) _
  have hri : RI w w.heap.size (.slice A d.length c) d := ⟨A, c, rfl, hlc, hc⟩
  have hB2 := (BK.made (w.alloc (.cells #[.int .i64 t, .int .i64 k, .slice A d.length c] 24)) 27 #[.int .i64 0, .int .i64 0, .slice none 0 0]).alloc (.cells #[.int .i64 t, .int .i64 k, .slice none 0 0] 27)
  have hB3 := BK.made ((w.alloc (.cells #[.int .i64 t, .int .i64 k, .slice A d.length c] 24)).alloc (.cells #[.int .i64 0, .int .i64 0, .slice none 0 0] 27)) 27 #[.int .i64 t, .int .i64 k, .slice none 0 0]
  refine (toIntS_any _ d _ ((hri.below hW).more hW.size) hn).mono ?_
  rintro e w1 ⟨u, rfl, ho, hb⟩
  have hB2' := hB2.step hb
  have hB3' := hB3.step hb
  have hs := hb.size
  have hbw := hW.trans (hb.mono hW.size)
  simp only [World.size_alloc] at hB2' hB3' hs ho
  clear hB2 hB3 hW hb hri hc hlc
  have c20 := hB2'.cell 0
  have c30 := hB3'.cell 0
  have f20 := hB2'.free 0
  have c21 := hB2'.cell 1
  have c31 := hB3'.cell 1
  have f21 := hB2'.free 1
  have c22 := hB2'.cell 2
  have c32 := hB3'.cell 2
  have f22 := hB2'.free 2
  have f3 := hB3'.free 2
  simp at c20 c30 c21 c31 c22 c32
  obtain ⟨A', c', rfl, _, _⟩ := ho.ri
  go_wp2_with fail
  refine bodyPost_ret (v := TmV ⟨t, k, d⟩ (.slice A' d.length c')) (by simp [results, Try.results18, go_sem, TmV, c20, c21, c22]) rfl ⟨_, rfl, ⟨_, rfl, ?_⟩, ?_⟩
  · have hwr := (((((Wr.refl (w.heap.size + 1) (w.heap.size + 3) w1).setCell (p := ⟨w.heap.size + 1 + 1, 2, none⟩) (by simp) (by simp) (.slice A' d.length c')).setCell (p := ⟨w.heap.size + 1, 0, none⟩) (by simp) (by simp) (.int .i64 t)).setCell (p := ⟨w.heap.size + 1, 1, none⟩) (by simp) (by simp) (.int .i64 k)).setCell (p := ⟨w.heap.size + 1, 2, none⟩) (by simp) (by simp) (.slice A' d.length c'))
    exact (ho.far hwr (.inr (by simp))).wide (by omega) (by simp)
  · exact ((((hbw.setCell (p := ⟨w.heap.size + 1 + 1, 2, none⟩) (by simp; omega) _).setCell (p := ⟨w.heap.size + 1, 0, none⟩) (by simp) _).setCell (p := ⟨w.heap.size + 1, 1, none⟩) (by simp) _).setCell (p := ⟨w.heap.size + 1, 2, none⟩) (by simp) _)

theorem szTimedRing_any (v : Value) (x : Tm) (n : Int) (w : World) (h : RTm w w.heap.size v x) (h0 : 0 ≤ n) (h1 : n ≤ 1048576) (h2 : x.d.length ≤ maxLen) :
    Calls Try.prog 16 #[v, .int .i64 n] w (RetV w (.int .i64 (szLeft n x.d))) := by
  obtain ⟨s, rfl, h⟩ := h
  obtain ⟨yt, yk, d⟩ := x
  simp only [TmV] at h h2 ⊢
  have h3 := h
  obtain ⟨A, c, rfl, hlc, hc⟩ := h
  have hW : Below w.heap.size w (w.alloc (.cells #[.int .i64 yt, .int .i64 yk, .slice A d.length c] 24)) := (Below.refl _ _).alloc (Nat.le_refl _) _
  have h4 := (h3.below hW).more hW.size
  clear hc
  by_cases hlt : n < d.length
  · rw [szLeft_neg hlt]
    go_enter Try.func16, Try.ntmps16
    go_wp2_with fail
    refine (szIntS_any _ d _ _ h4 h0 h1 h2).mono ?_; rintro e w' ⟨rfl, rfl⟩
    rw [if_pos (by omega)]
    go_wp2_with fail
    go_ret
    exact ⟨rfl, hW⟩
  · rw [szLeft_pos hlt]
    have h5 : 0 ≤ n - (d.length : Int) := by omega
    go_enter Try.func16, Try.ntmps16
    go_wp2_with fail
    refine (szIntS_any _ d _ _ h4 h0 h1 h2).mono ?_; rintro e w' ⟨rfl, rfl⟩
    rw [if_neg (by omega)]
    go_wp2_with fail
    go_ret
    exact ⟨rfl, hW⟩
theorem eqTimedRing_same (v u : Value) (x : Tm) (w : World) (h : RTm w w.heap.size v x) (h' : RTm w w.heap.size u x) (hn : x.d.length ≤ 1048576) :
    Calls Try.prog 20 #[v, u] w (RetV w (.bool true)) := by
  obtain ⟨s, rfl, h⟩ := h
  obtain ⟨s', rfl, h'⟩ := h'
  obtain ⟨yt, yk, d⟩ := x
  simp only [TmV] at h h' hn ⊢
  have h3 := h
  have h3' := h'
  obtain ⟨A, c, rfl, hlc, hc⟩ := h
  obtain ⟨A', c', rfl, hlc', hc'⟩ := h'
  have hW : Below w.heap.size w ((w.alloc (.cells #[.int .i64 yt, .int .i64 yk, .slice A d.length c] 27)).alloc (.cells #[.int .i64 yt, .int .i64 yk, .slice A' d.length c'] 27)) := ((Below.refl _ _).alloc (Nat.le_refl _) _).alloc (by simp) _
  have h4 := (h3.below hW).more hW.size
  have h4' := (h3'.below hW).more hW.size
  clear hc hc'
  go_enter Try.func20, Try.ntmps20
  go_wp2_with fail
  refine (eqIntS_same _ _ d _ h4 h4' hn).mono ?_; rintro e w1 ⟨rfl, hb⟩
  go_wp2_with fail
  go_ret
  exact ⟨rfl, hW.trans (hb.mono hW.size)⟩

def RetMTm (E : TypeId) (lo hi : Nat) (v : Value) (x : Tm) (m : Int) (w : World) (e : Ending) (w' : World) : Prop :=
  e = .returned (.int .i64 (m + x.d.length)) ∧ OTm E w' lo hi v { x with d := marks m x.d.length } ∧ Wr lo hi w w'
theorem markTimedRing_any (lo hi : Nat) (v : Value) (x : Tm) (m : Int) (w : World) (h : OTm 3 w lo hi v x) (hn : x.d.length ≤ 1048576) (hm : 0 ≤ m) (hm' : m ≤ 100000000) :
    Calls Try.prog 51 #[v, .int .i64 m] w (RetMTm 3 lo hi v x m w) := by
  obtain ⟨s, rfl, h⟩ := h
  obtain ⟨yt, yk, d⟩ := x
  simp only [TmV] at h hn ⊢
  have hW : Below w.heap.size w (w.alloc (.cells #[.int .i64 yt, .int .i64 yk, s] 27)) := (Below.refl _ _).alloc (Nat.le_refl _) _
  have h4 := h.step hW
  obtain ⟨A, c, rfl, _, _⟩ := h.ri
  go_enter Try.func51, Try.ntmps51
  go_wp2_with fail
  refine (markIntS_any _ _ _ d m _ h4 hn hm hm').mono ?_; rintro e w1 ⟨rfl, ho, hg⟩
  go_wp2_with fail
  go_ret
  exact ⟨rfl, ⟨_, rfl, ho⟩, (Wr.of_below hW lo hi).trans hg⟩
end Go.Proofs.Ytgkpdlicgllcoaa
