/-
  The contracts of IsRing and of what looks for a ring with some numbers.
-/
import Derived.Test.YtmghhhceemmdpaaSRing
import Derived.Test.YtmghhhceemmdpaaRise
namespace Go.Proofs.Ytmghhhceemmdpaa
open Go.RowKit
set_option maxRecDepth 100000

/-- What IsRing says. -/
def isRg (x : Rg) : Bool := wi x.k 2 12 && decide (Rises (x.k - 1) x.d x.d.length)
theorem isRg_k {x : Rg} (h : isRg x = true) : 2 ≤ x.k ∧ x.k ≤ 12 := by simp [isRg, wi] at h; exact h.1
theorem isRg_d {x : Rg} (h : isRg x = true) : Rises (x.k - 1) x.d x.d.length := by simp [isRg] at h; exact h.2
theorem Rises.ge {hi : Int} {l : List Int} {n : Nat} (h : Rises hi l n) (j : Nat) (hj : j < n) : (j : Int) ≤ l.getD j 0 := by
  induction j with
  | zero => exact (h 0 hj).1
  | succ j ih =>
    have h1 := ih (by omega)
    have h2 := (h (j + 1) hj).2.2 (by omega)
    simp only [Nat.add_sub_cancel] at h2
    omega
theorem Rises.short {hi : Int} {l : List Int} {n : Nat} (h : Rises hi l n) (h0 : 0 ≤ hi + 1) : (n : Int) ≤ hi + 1 := by
  rcases Nat.eq_zero_or_pos n with rfl | hn
  · simpa using h0
  · have h1 := h.ge (n - 1) (by omega)
    have h2 := (h (n - 1) (by omega)).2.1
    omega
theorem isRg_len {x : Rg} (h : isRg x = true) : x.d.length ≤ 12 := by
  have h1 := (isRg_d h).short (by have := isRg_k h; omega)
  have := isRg_k h
  omega

theorem implIsRing_any (v : Value) (x : Rg) (w : World) (h : RRg w w.heap.size v x) (hn : x.d.length ≤ 1048576) :
    Calls Try.prog 25 #[v] w (RetV w (.bool (isRg x))) := by
  obtain ⟨s, rfl, h⟩ := h
  obtain ⟨k, d⟩ := x
  simp only [RgV] at h hn ⊢
  have h3 := h
  obtain ⟨A, c, rfl, hlc, hc⟩ := h
  have hW : Below w.heap.size w (w.alloc (.cells #[.int .i64 k, .slice A d.length c] 24)) := (Below.refl _ _).alloc (Nat.le_refl _) _
  have h4 := (h3.below hW).more hW.size
  clear hc
  have hz : (d.length : Int) ≤ 1048576 := by omega
  cases hk : wi k 2 12
  · go_enter Try.func25, Try.ntmps25
    go_wp2_with (go_at_call 34; refine (isWithin_wi _ _ _ _).mono ?_; rintro e w' ⟨rfl, rfl⟩)
    go_ret
    exact ⟨ret_bool (by simp [isRg, hk]), hW⟩
  · have hk2 : 2 ≤ k ∧ k ≤ 12 := by simpa [wi] using hk
    go_enter Try.func25, Try.ntmps25
    go_wp2_with (first | (go_at_call 34; refine (isWithin_wi _ _ _ _).mono ?_; rintro e w' ⟨rfl, rfl⟩) | (go_at_call 35; refine (arePlaces_any _ d _ _ h4 hn (by omega) (by omega)).mono ?_; rintro e w' ⟨rfl, rfl⟩))
    go_ret
    exact ⟨ret_bool (by simp [isRg, hk]), hW⟩
theorem riGood_any (v : Value) (x : Rg) (w : World) (h : RRg w w.heap.size v x) (hn : x.d.length ≤ 1048576) :
    Calls Try.prog 31 #[v] w (RetV w (.bool (isRg x))) := by
  obtain ⟨s, rfl, h⟩ := h
  obtain ⟨k, d⟩ := x
  simp only [RgV] at h hn ⊢
  have h3 := h
  obtain ⟨A, c, rfl, hlc, hc⟩ := h
  have hW : Below w.heap.size w (w.alloc (.cells #[.int .i64 k, .slice A d.length c] 24)) := (Below.refl _ _).alloc (Nat.le_refl _) _
  have h4 := (h3.below hW).more hW.size
  clear hc
  have hz : (d.length : Int) ≤ 1048576 := by omega
  cases hk : wi k 2 12
  · go_enter Try.func31, Try.ntmps31
    go_wp2_with (go_at_call 37; refine (l1In_wi _ _ _ _).mono ?_; rintro e w' ⟨rfl, rfl⟩)
    go_ret
    exact ⟨ret_bool (by simp [isRg, hk]), hW⟩
  · have hk2 : 2 ≤ k ∧ k ≤ 12 := by simpa [wi] using hk
    go_enter Try.func31, Try.ntmps31
    go_wp2_with (first | (go_at_call 37; refine (l1In_wi _ _ _ _).mono ?_; rintro e w' ⟨rfl, rfl⟩) | (go_at_call 38; refine (l1Rising_any _ d _ _ h4 hn).mono ?_; rintro e w' ⟨rfl, rfl⟩))
    go_ret
    exact ⟨ret_bool (by simp [isRg, hk]), hW⟩
end Go.Proofs.Ytmghhhceemmdpaa
