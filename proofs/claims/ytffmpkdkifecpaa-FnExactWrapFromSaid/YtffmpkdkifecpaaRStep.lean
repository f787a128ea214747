/-
  The contracts of the small steps on a ring: the stations behind and before, over a link, over a second link; rings that have a number.
-/
import Derived.Test.YtffmpkdkifecpaaIsRing
import Derived.Test.YtffmpkdkifecpaaHasI
namespace Go.Proofs.Ytffmpkdkifecpaa
open Go.RowKit
set_option maxRecDepth 100000

def optV : Option Int → Value
  | some t => .tuple #[.int .i64 t, .bool true]
  | none => .tuple #[.int .i64 0, .bool false]
theorem behind_any (v : Value) (x : Rg) (s : Int) (w : World) (h : RRg w w.heap.size v x) (hk : 2 ≤ x.k ∧ x.k ≤ 12) (hs : 0 ≤ s ∧ s < x.k) :
    Calls Try.prog 64 #[v, .int .i64 s] w (RetV w (.int .i64 (nx x.k s))) := by
  obtain ⟨sv, rfl, h⟩ := h
  obtain ⟨k, d⟩ := x
  simp only [RgV] at h hk hs ⊢
  obtain ⟨A, c, rfl, hlc, hc⟩ := h
  clear hc
  have hW : Below w.heap.size w (w.alloc (.cells #[.int .i64 k, .slice A d.length c] 26)) := (Below.refl _ _).alloc (Nat.le_refl _) _
  have e1 : (s + 1).tmod k = nx k s := Int.tmod_eq_emod_of_nonneg (by omega)
  have e2 := nx_in hs.1 hs.2
  have e3 : IntKind.i64.wrap (nx k s) = nx k s := IntWalk.i64_in _ (by omega)
  have e4 : k ≠ 0 := by omega
  generalize nx k s = t at e1 e2 e3 ⊢
  go_enter Try.func64, Try.ntmps64
  go_wp2
  go_ret
  exact ⟨rfl, hW⟩
theorem before_any (v : Value) (x : Rg) (s : Int) (w : World) (h : RRg w w.heap.size v x) (hk : 2 ≤ x.k ∧ x.k ≤ 12) (hs : 0 ≤ s ∧ s < x.k) :
    Calls Try.prog 35 #[v, .int .i64 s] w (RetV w (.int .i64 (bf x.k s))) := by
  obtain ⟨sv, rfl, h⟩ := h
  obtain ⟨k, d⟩ := x
  simp only [RgV] at h hk hs ⊢
  obtain ⟨A, c, rfl, hlc, hc⟩ := h
  clear hc
  have hW : Below w.heap.size w (w.alloc (.cells #[.int .i64 k, .slice A d.length c] 26)) := (Below.refl _ _).alloc (Nat.le_refl _) _
  have e1 : (s + k - 1).tmod k = bf k s := Int.tmod_eq_emod_of_nonneg (by omega)
  have e2 := bf_in hs.1 hs.2
  have e3 : IntKind.i64.wrap (bf k s) = bf k s := IntWalk.i64_in _ (by omega)
  have e4 : k ≠ 0 := by omega
  generalize bf k s = t at e1 e2 e3 ⊢
  go_enter Try.func35, Try.ntmps35
  go_wp2
  go_ret
  exact ⟨rfl, hW⟩
theorem riNext_any (v : Value) (x : Rg) (s : Int) (w : World) (h : RRg w w.heap.size v x) (hk : 2 ≤ x.k ∧ x.k ≤ 12) (hs : 0 ≤ s ∧ s < x.k) :
    Calls Try.prog 37 #[v, .int .i64 s] w (RetV w (.int .i64 (nx x.k s))) := by
  obtain ⟨sv, rfl, h⟩ := h
  obtain ⟨k, d⟩ := x
  simp only [RgV] at h hk hs ⊢
  obtain ⟨A, c, rfl, hlc, hc⟩ := h
  clear hc
  have hW : Below w.heap.size w (w.alloc (.cells #[.int .i64 k, .slice A d.length c] 26)) := (Below.refl _ _).alloc (Nat.le_refl _) _
  have e1 : (s + 1).tmod k = nx k s := Int.tmod_eq_emod_of_nonneg (by omega)
  have e2 := nx_in hs.1 hs.2
  have e3 : IntKind.i64.wrap (nx k s) = nx k s := IntWalk.i64_in _ (by omega)
  have e4 : k ≠ 0 := by omega
  generalize nx k s = t at e1 e2 e3 ⊢
  go_enter Try.func37, Try.ntmps37
  go_wp2
  go_ret
  exact ⟨rfl, hW⟩
theorem riBefore_any (v : Value) (x : Rg) (s : Int) (w : World) (h : RRg w w.heap.size v x) (hk : 2 ≤ x.k ∧ x.k ≤ 12) (hs : 0 ≤ s ∧ s < x.k) :
    Calls Try.prog 28 #[v, .int .i64 s] w (RetV w (.int .i64 (bf x.k s))) := by
  obtain ⟨sv, rfl, h⟩ := h
  obtain ⟨k, d⟩ := x
  simp only [RgV] at h hk hs ⊢
  obtain ⟨A, c, rfl, hlc, hc⟩ := h
  clear hc
  have hW : Below w.heap.size w (w.alloc (.cells #[.int .i64 k, .slice A d.length c] 26)) := (Below.refl _ _).alloc (Nat.le_refl _) _
  have e1 : (s + k - 1).tmod k = bf k s := Int.tmod_eq_emod_of_nonneg (by omega)
  have e2 := bf_in hs.1 hs.2
  have e3 : IntKind.i64.wrap (bf k s) = bf k s := IntWalk.i64_in _ (by omega)
  have e4 : k ≠ 0 := by omega
  generalize bf k s = t at e1 e2 e3 ⊢
  go_enter Try.func28, Try.ntmps28
  go_wp2
  go_ret
  exact ⟨rfl, hW⟩
theorem forwards_any (v : Value) (x : Rg) (s : Int) (w : World) (h : RRg w w.heap.size v x) (hk : 2 ≤ x.k ∧ x.k ≤ 12) (hs : 0 ≤ s ∧ s < x.k) (hn : x.d.length ≤ 1048576) :
    Calls Try.prog 56 #[v, .int .i64 s] w (RetV w (optV (fw x.d x.k s))) := by
  obtain ⟨sv, rfl, h⟩ := h
  obtain ⟨k, d⟩ := x
  simp only [RgV] at h hk hs hn ⊢
  have h3 := h
  obtain ⟨A, c, rfl, hlc, hc⟩ := h
  clear hc
  have hW : Below w.heap.size w (w.alloc (.cells #[.int .i64 k, .slice A d.length c] 26)) := (Below.refl _ _).alloc (Nat.le_refl _) _
  have h4 := (h3.below hW).more hW.size
  cases hd : hasI d s
  · rw [show fw d k s = some (nx k s) from by simp [fw, hd]]
    go_enter Try.func56, Try.ntmps56
    go_wp2_with fail
    refine (contains_any _ d s _ h4 hn).mono ?_; rintro e w' ⟨rfl, rfl⟩
    rw [hd]
    go_wp2_with fail
    refine (behind_any _ ⟨k, d⟩ s _ ⟨_, rfl, h4⟩ hk hs).mono ?_; rintro e w' ⟨rfl, hb⟩
    go_wp2_with fail
    go_ret2
    exact ⟨rfl, hW.trans (hb.mono hW.size)⟩
  · rw [show fw d k s = none from by simp [fw, hd]]
    go_enter Try.func56, Try.ntmps56
    go_wp2_with fail
    refine (contains_any _ d s _ h4 hn).mono ?_; rintro e w' ⟨rfl, rfl⟩
    rw [hd]
    go_wp2_with fail
    go_ret2
    exact ⟨rfl, hW⟩
theorem backwards_any (v : Value) (x : Rg) (s : Int) (w : World) (h : RRg w w.heap.size v x) (hk : 2 ≤ x.k ∧ x.k ≤ 12) (hs : 0 ≤ s ∧ s < x.k) (hn : x.d.length ≤ 1048576) :
    Calls Try.prog 57 #[v, .int .i64 s] w (RetV w (optV (bw x.d x.k s))) := by
  obtain ⟨sv, rfl, h⟩ := h
  obtain ⟨k, d⟩ := x
  simp only [RgV] at h hk hs hn ⊢
  have h3 := h
  obtain ⟨A, c, rfl, hlc, hc⟩ := h
  clear hc
  have hW : Below w.heap.size w (w.alloc (.cells #[.int .i64 k, .slice A d.length c] 26)) := (Below.refl _ _).alloc (Nat.le_refl _) _
  have h4 := (h3.below hW).more hW.size
  cases hd : hasI d (bf k s)
  · rw [show bw d k s = some (bf k s) from by simp [bw, hd]]
    go_enter Try.func57, Try.ntmps57
    go_wp2_with fail
    refine (before_any _ ⟨k, d⟩ s _ ⟨_, rfl, h4⟩ hk hs).mono ?_; rintro e w1 ⟨rfl, hb⟩
    have h5 := h4.step hb (Nat.le_refl _)
    have h6 := h5.more hb.size
    have q := (BK.made w 26 #[.int .i64 k, .slice A d.length c]).step hb
    have q1 := q.cell 1
    simp at q1
    go_wp2_with fail
    refine (contains_any _ d (bf k s) _ h6 hn).mono ?_; rintro e w' ⟨rfl, rfl⟩
    rw [hd]
    go_wp2_with fail
    go_ret2
    exact ⟨rfl, hW.trans (hb.mono hW.size)⟩
  · rw [show bw d k s = none from by simp [bw, hd]]
    go_enter Try.func57, Try.ntmps57
    go_wp2_with fail
    refine (before_any _ ⟨k, d⟩ s _ ⟨_, rfl, h4⟩ hk hs).mono ?_; rintro e w1 ⟨rfl, hb⟩
    have h5 := h4.step hb (Nat.le_refl _)
    have h6 := h5.more hb.size
    have q := (BK.made w 26 #[.int .i64 k, .slice A d.length c]).step hb
    have q1 := q.cell 1
    simp at q1
    go_wp2_with fail
    refine (contains_any _ d (bf k s) _ h6 hn).mono ?_; rintro e w' ⟨rfl, rfl⟩
    rw [hd]
    go_wp2_with fail
    go_ret2
    exact ⟨rfl, hW.trans (hb.mono hW.size)⟩
theorem isRingWith_any (v u : Value) (x : Rg) (l : List Int) (w : World) (h : RRg w w.heap.size v x) (h' : RI w w.heap.size u l) (hn : x.d.length ≤ 1048576) (hn' : l.length ≤ 1048576) :
    Calls Try.prog 32 #[v, u] w (RetV w (.bool (isRg x && okAll 0 (x.k - 1) l))) := by
  obtain ⟨sv, rfl, h⟩ := h
  obtain ⟨k, d⟩ := x
  simp only [RgV] at h hn ⊢
  have h3 := h
  have h3' := h'
  obtain ⟨A, c, rfl, hlc, hc⟩ := h
  obtain ⟨A', c', rfl, hlc', hc'⟩ := h'
  clear hc hc'
  have hW : Below w.heap.size w (w.alloc (.cells #[.int .i64 k, .slice A d.length c] 26)) := (Below.refl _ _).alloc (Nat.le_refl _) _
  have h4 := (h3.below hW).more hW.size
  have h4' := (h3'.below hW).more hW.size
  cases hg : isRg ⟨k, d⟩
  · go_enter Try.func32, Try.ntmps32
    go_wp2_with fail
    refine (implIsRing_any _ ⟨k, d⟩ _ ⟨_, rfl, h4⟩ hn).mono ?_; rintro e w1 ⟨rfl, hb⟩
    rw [hg]
    go_wp2_with fail
    go_ret
    exact ⟨rfl, hW.trans (hb.mono hW.size)⟩
  · have hk := isRg_k hg
    simp only at hk
    go_enter Try.func32, Try.ntmps32
    go_wp2_with fail
    refine (implIsRing_any _ ⟨k, d⟩ _ ⟨_, rfl, h4⟩ hn).mono ?_; rintro e w1 ⟨rfl, hb⟩
    rw [hg]
    have h6 := (h4'.step hb (Nat.le_refl _)).more hb.size
    have q := (BK.made w 26 #[.int .i64 k, .slice A d.length c]).step hb
    have q0 := q.cell 0
    simp at q0
    go_wp2_with fail
    refine (areAllUpTo_any _ l _ _ h6 hn').mono ?_; rintro e w' ⟨rfl, rfl⟩
    go_wp2_with fail
    go_ret
    exact ⟨ret_bool (by rw [Bool.true_and]), hW.trans (hb.mono hW.size)⟩
theorem riHas_any (v : Value) (x : Rg) (s : Int) (w : World) (h : RRg w w.heap.size v x) (hn : x.d.length ≤ 1048576) :
    Calls Try.prog 27 #[v, .int .i64 s] w (RetV w (.bool (isRg x && wi s 0 (x.k - 1)))) := by
  obtain ⟨sv, rfl, h⟩ := h
  obtain ⟨k, d⟩ := x
  simp only [RgV] at h hn ⊢
  have h3 := h
  obtain ⟨A, c, rfl, hlc, hc⟩ := h
  clear hc
  have hW : Below w.heap.size w (w.alloc (.cells #[.int .i64 k, .slice A d.length c] 26)) := (Below.refl _ _).alloc (Nat.le_refl _) _
  have h4 := (h3.below hW).more hW.size
  cases hg : isRg ⟨k, d⟩
  · go_enter Try.func27, Try.ntmps27
    go_wp2_with fail
    refine (riGood_any _ ⟨k, d⟩ _ ⟨_, rfl, h4⟩ hn).mono ?_; rintro e w1 ⟨rfl, hb⟩
    rw [hg]
    go_wp2_with fail
    go_ret
    exact ⟨rfl, hW.trans (hb.mono hW.size)⟩
  · have hk := isRg_k hg
    simp only at hk
    go_enter Try.func27, Try.ntmps27
    go_wp2_with fail
    refine (riGood_any _ ⟨k, d⟩ _ ⟨_, rfl, h4⟩ hn).mono ?_; rintro e w1 ⟨rfl, hb⟩
    rw [hg]
    have q := (BK.made w 26 #[.int .i64 k, .slice A d.length c]).step hb
    have q0 := q.cell 0
    simp at q0
    go_wp2_with fail
    refine (l1In_wi _ _ _ _).mono ?_; rintro e w' ⟨rfl, rfl⟩
    go_wp2_with fail
    go_ret
    exact ⟨ret_bool (by rw [Bool.true_and]), hW.trans (hb.mono hW.size)⟩
theorem okAll_one (g s : Int) : okAll 0 g [s] = wi s 0 g := by simp [okAll, wi]
theorem okAll_two (g a b : Int) : okAll 0 g [a, b] = (wi a 0 g && wi b 0 g) := by simp [okAll, wi]
end Go.Proofs.Ytffmpkdkifecpaa
