/-
  Rings as values: what they read as, what owns them, and the contracts of the laws' helpers on them.
-/
import Derived.Test.YtmghhhceemmdpaaSz
namespace Go.Proofs.Ytmghhhceemmdpaa
open Go.RowKit
set_option maxRecDepth 100000

/-- A Ring as data. -/
structure Rg where
  k : Int
  d : List Int
/-- Its struct value, its slice being s. -/
def RgV (x : Rg) (s : Value) : Value := .agg #[.int .i64 x.k, s]
def RRg (w : World) (B : Nat) (v : Value) (x : Rg) : Prop := ∃ s, v = RgV x s ∧ RI w B s x.d
def ORg (E : TypeId) (w : World) (lo hi : Nat) (v : Value) (x : Rg) : Prop := ∃ s, v = RgV x s ∧ OI E w lo hi s x.d
def RgZero : Rg := ⟨0, []⟩
section
variable {w w' : World} {B B' : Nat} {v : Value} {x : Rg}
theorem RRg.step (h : RRg w B v x) (hb : Below w.heap.size w w') (hB : B ≤ w.heap.size) : RRg w' B v x := by
  obtain ⟨s, hv, hr⟩ := h
  exact ⟨s, hv, hr.step hb hB⟩
theorem RRg.far {a b : Nat} (h : RRg w B v x) (hg : Wr a b w w') (hB : B ≤ a) (hs : B ≤ w.heap.size) : RRg w' B v x := by
  obtain ⟨s, hv, hr⟩ := h
  exact ⟨s, hv, hr.far hg hB hs⟩
theorem RRg.more (h : RRg w B v x) (hB : B ≤ B') : RRg w B' v x := by
  obtain ⟨s, hv, hr⟩ := h
  exact ⟨s, hv, hr.more hB⟩
end
section
variable {E : TypeId} {w w' : World} {lo hi : Nat} {v : Value} {x : Rg}
theorem ORg.rd (h : ORg E w lo hi v x) : RRg w hi v x := by
  obtain ⟨s, hv, hr⟩ := h
  exact ⟨s, hv, hr.ri⟩
theorem ORg.far {a b : Nat} (h : ORg E w lo hi v x) (hg : Wr a b w w') (hne : hi ≤ a ∨ b ≤ lo) : ORg E w' lo hi v x := by
  obtain ⟨s, hv, hr⟩ := h
  exact ⟨s, hv, hr.far hg hne⟩
theorem ORg.step (h : ORg E w lo hi v x) (hb : Below w.heap.size w w') : ORg E w' lo hi v x := by
  obtain ⟨s, hv, hr⟩ := h
  exact ⟨s, hv, hr.step hb⟩
end
/-- What a function that makes one leaves. -/
def RetRg (E : TypeId) (w : World) (x : Rg) (e : Ending) (w' : World) : Prop := ∃ u, e = .returned u ∧ ORg E w' w.heap.size w'.heap.size u x ∧ Below w.heap.size w w'
/-- .. and a bool. -/
def RetRgB (E : TypeId) (w : World) (x : Rg) (b : Bool) (e : Ending) (w' : World) : Prop :=
  ∃ u, e = .returned (.tuple #[u, .bool b]) ∧ ORg E w' w.heap.size w'.heap.size u x ∧ Below w.heap.size w w'
theorem oRgZero (E : TypeId) (w : World) (lo hi : Nat) : ORg E w lo hi (RgV RgZero (.slice none 0 0)) RgZero := ⟨_, rfl, .inl ⟨rfl, none, 0, rfl, by simp, fun _ => rfl⟩⟩

theorem toRing_any (v : Value) (x : Rg) (w : World) (h : RRg w w.heap.size v x) (hn : x.d.length ≤ 1048576) :
    Calls Try.prog 23 #[v] w (RetRg 3 w x) := by
  obtain ⟨s, rfl, h⟩ := h
  obtain ⟨k, d⟩ := x
  obtain ⟨A, c, rfl, hlc, hc⟩ := h
  simp only [RgV] at hn hlc hc ⊢
  go_enter Try.func23, Try.ntmps23
  go_wp2_with fail
  have hW : Below w.heap.size w (((w.alloc (.cells #[.int .i64 k, .slice A d.length c] 33)).alloc (.cells #[.int .i64 0, .slice none 0 0] 24)).alloc (.cells #[.int .i64 k, .slice none 0 0] 24)) :=
    (((Below.refl _ _).alloc (Nat.le_refl _) _).alloc (by simp) _).alloc (by simp; omega) _
  have hri : RI w w.heap.size (.slice A d.length c) d := ⟨A, c, rfl, hlc, hc⟩
  have hB2 := (BK.made (w.alloc (.cells #[.int .i64 k, .slice A d.length c] 33)) 24 #[.int .i64 0, .slice none 0 0]).alloc (.cells #[.int .i64 k, .slice none 0 0] 24)
  have hB3 := BK.made ((w.alloc (.cells #[.int .i64 k, .slice A d.length c] 33)).alloc (.cells #[.int .i64 0, .slice none 0 0] 24)) 24 #[.int .i64 k, .slice none 0 0]
  refine (toIntS_any _ d _ ((hri.below hW).more hW.size) hn).mono ?_
  rintro e w1 ⟨u, rfl, ho, hb⟩
  have hB2' := hB2.step hb
  have hB3' := hB3.step hb
  have hs := hb.size
  have hbw := hW.trans (hb.mono hW.size)
  simp only [World.size_alloc] at hB2' hB3' hs ho
  clear hB2 hB3 hW hb hri hc hlc
  have c20 := hB2'.cell 0
  have c30 := hB3'.cell 0
  have f20 := hB2'.free 0
  have c21 := hB2'.cell 1
  have c31 := hB3'.cell 1
  have f21 := hB2'.free 1
  have f3 := hB3'.free 1
  simp at c20 c30 c21 c31
  obtain ⟨A', c', rfl, _, _⟩ := ho.ri
  go_wp2_with fail
  refine bodyPost_ret (v := RgV ⟨k, d⟩ (.slice A' d.length c')) (by simp [results, Try.results23, go_sem, RgV, c20, c21]) rfl ⟨_, rfl, ⟨_, rfl, ?_⟩, ?_⟩
  · have hwr := ((((Wr.refl (w.heap.size + 1) (w.heap.size + 3) w1).setCell (p := ⟨w.heap.size + 1 + 1, 1, none⟩) (by simp) (by simp) (.slice A' d.length c')).setCell (p := ⟨w.heap.size + 1, 0, none⟩) (by simp) (by simp) (.int .i64 k)).setCell (p := ⟨w.heap.size + 1, 1, none⟩) (by simp) (by simp) (.slice A' d.length c'))
    exact (ho.far hwr (.inr (by simp))).wide (by omega) (by simp)
  · exact (((hbw.setCell (p := ⟨w.heap.size + 1 + 1, 1, none⟩) (by simp; omega) _).setCell (p := ⟨w.heap.size + 1, 0, none⟩) (by simp) _).setCell (p := ⟨w.heap.size + 1, 1, none⟩) (by simp) _)

theorem szRing_any (v : Value) (x : Rg) (n : Int) (w : World) (h : RRg w w.heap.size v x) (h0 : 0 ≤ n) (h1 : n ≤ 1048576) (h2 : x.d.length ≤ maxLen) :
    Calls Try.prog 20 #[v, .int .i64 n] w (RetV w (.int .i64 (szLeft n x.d))) := by
  obtain ⟨s, rfl, h⟩ := h
  obtain ⟨yk, d⟩ := x
  simp only [RgV] at h h2 ⊢
  have h3 := h
  obtain ⟨A, c, rfl, hlc, hc⟩ := h
  have hW : Below w.heap.size w (w.alloc (.cells #[.int .i64 yk, .slice A d.length c] 33)) := (Below.refl _ _).alloc (Nat.le_refl _) _
  have h4 := (h3.below hW).more hW.size
  clear hc
  by_cases hlt : n < d.length
  · rw [szLeft_neg hlt]
    go_enter Try.func20, Try.ntmps20
    go_wp2_with fail
    refine (szIntS_any _ d _ _ h4 h0 h1 h2).mono ?_; rintro e w' ⟨rfl, rfl⟩
    rw [if_pos (by omega)]
    go_wp2_with fail
    go_ret
    exact ⟨rfl, hW⟩
  · rw [szLeft_pos hlt]
    have h5 : 0 ≤ n - (d.length : Int) := by omega
    go_enter Try.func20, Try.ntmps20
    go_wp2_with fail
    refine (szIntS_any _ d _ _ h4 h0 h1 h2).mono ?_; rintro e w' ⟨rfl, rfl⟩
    rw [if_neg (by omega)]
    go_wp2_with fail
    go_ret
    exact ⟨rfl, hW⟩
theorem eqRing_same (v u : Value) (x : Rg) (w : World) (h : RRg w w.heap.size v x) (h' : RRg w w.heap.size u x) (hn : x.d.length ≤ 1048576) :
    Calls Try.prog 14 #[v, u] w (RetV w (.bool true)) := by
  obtain ⟨s, rfl, h⟩ := h
  obtain ⟨s', rfl, h'⟩ := h'
  obtain ⟨yk, d⟩ := x
  simp only [RgV] at h h' hn ⊢
  have h3 := h
  have h3' := h'
  obtain ⟨A, c, rfl, hlc, hc⟩ := h
  obtain ⟨A', c', rfl, hlc', hc'⟩ := h'
  have hW : Below w.heap.size w ((w.alloc (.cells #[.int .i64 yk, .slice A d.length c] 24)).alloc (.cells #[.int .i64 yk, .slice A' d.length c'] 24)) := ((Below.refl _ _).alloc (Nat.le_refl _) _).alloc (by simp) _
  have h4 := (h3.below hW).more hW.size
  have h4' := (h3'.below hW).more hW.size
  clear hc hc'
  go_enter Try.func14, Try.ntmps14
  go_wp2_with fail
  refine (eqIntS_same _ _ d _ h4 h4' hn).mono ?_; rintro e w1 ⟨rfl, hb⟩
  go_wp2_with fail
  go_ret
  exact ⟨rfl, hW.trans (hb.mono hW.size)⟩

def RetMRg (E : TypeId) (lo hi : Nat) (v : Value) (x : Rg) (m : Int) (w : World) (e : Ending) (w' : World) : Prop :=
  e = .returned (.int .i64 (m + x.d.length)) ∧ ORg E w' lo hi v { x with d := marks m x.d.length } ∧ Wr lo hi w w'
theorem markRing_any (lo hi : Nat) (v : Value) (x : Rg) (m : Int) (w : World) (h : ORg 3 w lo hi v x) (hn : x.d.length ≤ 1048576) (hm : 0 ≤ m) (hm' : m ≤ 100000000) :
    Calls Try.prog 16 #[v, .int .i64 m] w (RetMRg 3 lo hi v x m w) := by
  obtain ⟨s, rfl, h⟩ := h
  obtain ⟨yk, d⟩ := x
  simp only [RgV] at h hn ⊢
  have hW : Below w.heap.size w (w.alloc (.cells #[.int .i64 yk, s] 24)) := (Below.refl _ _).alloc (Nat.le_refl _) _
  have h4 := h.step hW
  obtain ⟨A, c, rfl, _, _⟩ := h.ri
  go_enter Try.func16, Try.ntmps16
  go_wp2_with fail
  refine (markIntS_any _ _ _ d m _ h4 hn hm hm').mono ?_; rintro e w1 ⟨rfl, ho, hg⟩
  go_wp2_with fail
  go_ret
  exact ⟨rfl, ⟨_, rfl, ho⟩, (Wr.of_below hW lo hi).trans hg⟩
theorem heldRing_any (v : Value) (x : Rg) (n : Nat) (m : Int) (w : World) (h : RRg w w.heap.size v { x with d := marks m n }) (hn : n ≤ 1048576) (hm : 0 ≤ m) (hm' : m ≤ 100000000) :
    Calls Try.prog 18 #[v, .int .i64 m] w (RetV w (.int .i64 (m + n))) := by
  obtain ⟨s, rfl, h⟩ := h
  obtain ⟨yk, d⟩ := x
  simp only [RgV] at h ⊢
  have hW : Below w.heap.size w (w.alloc (.cells #[.int .i64 yk, s] 24)) := (Below.refl _ _).alloc (Nat.le_refl _) _
  have h4 := (h.step hW (Nat.le_refl _)).more hW.size
  obtain ⟨A, c, rfl, _, _⟩ := h
  have hn' : (n : Int) ≤ 1048576 := by omega
  go_enter Try.func18, Try.ntmps18
  go_wp2_with fail
  refine (heldIntS_any _ n m _ h4 hn hm hm').mono ?_; rintro e w1 ⟨rfl, hb⟩
  go_wp2_with fail
  go_ret
  exact ⟨rfl, hW.trans (hb.mono hW.size)⟩
end Go.Proofs.Ytmghhhceemmdpaa
