/-
  The contracts of WholeRing, CanAllTalk and NextOf.
-/
import Derived.Test.YtifebadcfopfkaaRStep
namespace Go.Proofs.Ytifebadcfopfkaa
open Go.RowKit
set_option maxRecDepth 100000
set_option linter.unusedVariables false

/-- What CanAllTalk says. -/
def canTalk (x : Rg) : Bool × Bool := if isRg x = true then (decide ((x.d.length : Int) ≤ 1), true) else (false, false)
/-- What NextOf says. -/
def nextOf (x : Rg) (s : Int) : Int × Bool := if isRg x = true ∧ (0 ≤ s ∧ s ≤ x.k - 1) then (match fw x.d x.k s with | some t => (t, true) | none => (0, false)) else (0, false)

theorem implCanAllTalk_any (v : Value) (x : Rg) (w : World) (h : RRg w w.heap.size v x) (hn : x.d.length ≤ 1048576) :
    Calls Try.prog 25 #[v] w (RetV w (.tuple #[.bool (canTalk x).1, .bool (canTalk x).2])) := by
  obtain ⟨sv, rfl, h⟩ := h
  obtain ⟨k, d⟩ := x
  simp only [RgV] at h hn ⊢
  have h3 := h
  obtain ⟨A, c, rfl, hlc, hc⟩ := h
  clear hc
  have hW : Below w.heap.size w (w.alloc (.cells #[.int .i64 k, .slice A d.length c] 26)) := (Below.refl _ _).alloc (Nat.le_refl _) _
  have h4 := (h3.below hW).more hW.size
  have hz : (d.length : Int) ≤ 1048576 := by omega
  cases hg : isRg ⟨k, d⟩
  · rw [show canTalk ⟨k, d⟩ = (false, false) from by simp [canTalk, hg]]
    go_enter Try.func25, Try.ntmps25
    go_wp2_with fail
    refine (implIsRing_any _ ⟨k, d⟩ _ ⟨_, rfl, h4⟩ hn).mono ?_; rintro e w1 ⟨rfl, hb⟩
    rw [hg]
    go_wp2_with fail
    go_ret2
    exact ⟨rfl, hW.trans (hb.mono hW.size)⟩
  · rw [show canTalk ⟨k, d⟩ = (decide ((d.length : Int) ≤ 1), true) from by simp [canTalk, hg]]
    go_enter Try.func25, Try.ntmps25
    go_wp2_with fail
    refine (implIsRing_any _ ⟨k, d⟩ _ ⟨_, rfl, h4⟩ hn).mono ?_; rintro e w1 ⟨rfl, hb⟩
    rw [hg]
    have q := (BK.made w 26 #[.int .i64 k, .slice A d.length c]).step hb
    have q0 := q.cell 0
    have q1 := q.cell 1
    simp at q0 q1
    go_wp2_with fail
    have hcall : ∀ w1, Calls Try.prog 82 #[.agg #[.int .i64 k, .slice A d.length c]] w1 (RetV w1 (.bool (decide ((d.length : Int) ≤ 1)))) := by
      intro w1
      have hW1 : Below w1.heap.size w1 (w1.alloc (.cells #[.int .i64 k, .slice A d.length c] 26)) := (Below.refl _ _).alloc (Nat.le_refl _) _
      go_enter Try.func82, Try.ntmps82
      go_wp2
      go_ret
      exact ⟨rfl, hW1⟩
    refine (hcall _).mono ?_; rintro e w2 ⟨rfl, hb2⟩
    go_wp2_with fail
    go_ret2
    exact ⟨rfl, (hW.trans (hb.mono hW.size)).trans (hb2.mono (Nat.le_trans hW.size hb.size))⟩
theorem specCanAllTalk_any (v : Value) (x : Rg) (w : World) (h : RRg w w.heap.size v x) (hn : x.d.length ≤ 1048576) :
    Calls Try.prog 26 #[v] w (RetV w (.tuple #[.bool (canTalk x).1, .bool (canTalk x).2])) := by
  obtain ⟨sv, rfl, h⟩ := h
  obtain ⟨k, d⟩ := x
  simp only [RgV] at h hn ⊢
  have h3 := h
  obtain ⟨A, c, rfl, hlc, hc⟩ := h
  clear hc
  have hW : Below w.heap.size w (w.alloc (.cells #[.int .i64 k, .slice A d.length c] 26)) := (Below.refl _ _).alloc (Nat.le_refl _) _
  have h4 := (h3.below hW).more hW.size
  have hz : (d.length : Int) ≤ 1048576 := by omega
  cases hg : isRg ⟨k, d⟩
  · rw [show canTalk ⟨k, d⟩ = (false, false) from by simp [canTalk, hg]]
    go_enter Try.func26, Try.ntmps26
    go_wp2_with fail
    refine (riGood_any _ ⟨k, d⟩ _ ⟨_, rfl, h4⟩ hn).mono ?_; rintro e w1 ⟨rfl, hb⟩
    rw [hg]
    go_wp2_with fail
    go_ret2
    exact ⟨rfl, hW.trans (hb.mono hW.size)⟩
  · rw [show canTalk ⟨k, d⟩ = (decide ((d.length : Int) ≤ 1), true) from by simp [canTalk, hg]]
    go_enter Try.func26, Try.ntmps26
    go_wp2_with fail
    refine (riGood_any _ ⟨k, d⟩ _ ⟨_, rfl, h4⟩ hn).mono ?_; rintro e w1 ⟨rfl, hb⟩
    rw [hg]
    have q := (BK.made w 26 #[.int .i64 k, .slice A d.length c]).step hb
    have q1 := q.cell 1
    simp at q1
    go_wp2_with fail
    go_ret2
    exact ⟨rfl, hW.trans (hb.mono hW.size)⟩

theorem nextOf_no1 {x : Rg} {s : Int} (h : (isRg x && wi s 0 (x.k - 1)) = false) : nextOf x s = (0, false) := by
  unfold nextOf
  rw [if_neg]
  rintro ⟨h1, h2⟩
  simp [h1, wi, h2] at h
theorem nextOf_yes {x : Rg} {s : Int} (h : (isRg x && wi s 0 (x.k - 1)) = true) : nextOf x s = match fw x.d x.k s with | some t => (t, true) | none => (0, false) := by
  unfold nextOf
  rw [if_pos]
  simpa [wi] using h
theorem nextOf_val (x : Rg) (s : Int) (h : (isRg x && wi s 0 (x.k - 1)) = true) : Value.tuple #[.int .i64 (nextOf x s).1, .bool (nextOf x s).2] = optV (fw x.d x.k s) := by
  rw [nextOf_yes h]
  cases fw x.d x.k s <;> rfl
theorem implNextOf_any (v : Value) (x : Rg) (s : Int) (w : World) (h : RRg w w.heap.size v x) (hn : x.d.length ≤ 1048576) (hx : (Lit.int .i64 s).wf = true) :
    Calls Try.prog 50 #[v, .int .i64 s] w (RetV w (.tuple #[.int .i64 (nextOf x s).1, .bool (nextOf x s).2])) := by
  obtain ⟨sv, rfl, h⟩ := h
  obtain ⟨k, d⟩ := x
  simp only [RgV] at h hn ⊢
  have h3 := h
  obtain ⟨A, c, rfl, hlc, hc⟩ := h
  clear hc
  have hB0 := BK.made w 26 #[.int .i64 k, .slice A d.length c]
  have hW : Below w.heap.size w ((w.alloc (.cells #[.int .i64 k, .slice A d.length c] 26)).alloc (.cells #[.int .i64 s] 3)) := ((Below.refl _ _).alloc (Nat.le_refl _) _).alloc (by simp) _
  have h4 := (h3.below hW).more hW.size
  have hq := hB0.alloc (.cells #[.int .i64 s] 3)
  have hl := lit1 (w := w.alloc (.cells #[.int .i64 k, .slice A d.length c] 26)) (x := s) (t := 3) (g := w.heap.size + 1) (World.size_alloc _ _).symm
  cases hg : (isRg ⟨k, d⟩ && wi s 0 (k - 1))
  · rw [nextOf_no1 hg]
    go_enter Try.func50, Try.ntmps50
    go_wp2_with fail
    refine (isRingWith_any _ _ ⟨k, d⟩ [s] _ ⟨_, rfl, h4⟩ hl hn (by simp)).mono ?_; rintro e w1 ⟨rfl, hb⟩
    rw [okAll_one, hg]
    go_wp2_with fail
    go_ret2
    exact ⟨rfl, hW.trans (hb.mono hW.size)⟩
  · rw [nextOf_val _ _ hg]
    have hg2 : isRg ⟨k, d⟩ = true ∧ (0 ≤ s ∧ s ≤ k - 1) := by simpa [wi] using hg
    have hk := isRg_k hg2.1
    simp only at hk
    obtain ⟨o, ho⟩ : ∃ o, o = fw d k s := ⟨_, rfl⟩
    rw [← ho]
    have HO := Lib.hid ho
    clear ho
    go_enter Try.func50, Try.ntmps50
    go_wp2_with fail
    refine (isRingWith_any _ _ ⟨k, d⟩ [s] _ ⟨_, rfl, h4⟩ hl hn (by simp)).mono ?_; rintro e w1 ⟨rfl, hb⟩
    rw [okAll_one, hg]
    have q := hq.step hb
    have q0 := q.cell 0
    have q1 := q.cell 1
    simp at q0 q1
    go_wp2_with fail
    refine (forwards_any _ ⟨k, d⟩ s _ ⟨_, rfl, (h4.step hb (Nat.le_refl _)).more hb.size⟩ hk (by simp only; omega) hn).mono ?_; rintro e w2 ⟨rfl, hb2⟩
    rw [← HO.out]
    cases o <;>
    · simp only [optV]
      go_wp2_with fail
      go_ret2
      exact ⟨rfl, (hW.trans (hb.mono hW.size)).trans (hb2.mono (Nat.le_trans hW.size hb.size))⟩
theorem specNextOf_any (v : Value) (x : Rg) (s : Int) (w : World) (h : RRg w w.heap.size v x) (hn : x.d.length ≤ 1048576) (hx : (Lit.int .i64 s).wf = true) :
    Calls Try.prog 54 #[v, .int .i64 s] w (RetV w (.tuple #[.int .i64 (nextOf x s).1, .bool (nextOf x s).2])) := by
  obtain ⟨sv, rfl, h⟩ := h
  obtain ⟨k, d⟩ := x
  simp only [RgV] at h hn ⊢
  have h3 := h
  obtain ⟨A, c, rfl, hlc, hc⟩ := h
  clear hc
  have hB0 := BK.made w 26 #[.int .i64 k, .slice A d.length c]
  have hW : Below w.heap.size w (w.alloc (.cells #[.int .i64 k, .slice A d.length c] 26)) := (Below.refl _ _).alloc (Nat.le_refl _) _
  have h4 := (h3.below hW).more hW.size
  cases hg : (isRg ⟨k, d⟩ && wi s 0 (k - 1))
  · rw [nextOf_no1 hg]
    go_enter Try.func54, Try.ntmps54
    go_wp2_with fail
    refine (riHas_any _ ⟨k, d⟩ s _ ⟨_, rfl, h4⟩ hn).mono ?_; rintro e w1 ⟨rfl, hb⟩
    rw [hg]
    go_wp2_with fail
    go_ret2
    exact ⟨rfl, hW.trans (hb.mono hW.size)⟩
  · rw [nextOf_val _ _ hg]
    have hg2 : isRg ⟨k, d⟩ = true ∧ (0 ≤ s ∧ s ≤ k - 1) := by simpa [wi] using hg
    have hk := isRg_k hg2.1
    simp only at hk ⊢
    cases hd : hasI d s
    · rw [show fw d k s = some (nx k s) from by simp [fw, hd]]
      go_enter Try.func54, Try.ntmps54
      go_wp2_with fail
      refine (riHas_any _ ⟨k, d⟩ s _ ⟨_, rfl, h4⟩ hn).mono ?_; rintro e w1 ⟨rfl, hb⟩
      rw [hg]
      have q := hB0.step hb
      have q0 := q.cell 0
      have q1 := q.cell 1
      simp at q0 q1
      have h5 := (h4.step hb (Nat.le_refl _)).more hb.size
      go_wp2_with fail
      refine (l1Has_any _ d s _ h5 hn).mono ?_; rintro e w' ⟨rfl, rfl⟩
      rw [hd]
      go_wp2_with fail
      refine (riNext_any _ ⟨k, d⟩ s _ ⟨_, rfl, h5⟩ hk (by simp only; omega)).mono ?_; rintro e w2 ⟨rfl, hb2⟩
      go_wp2_with fail
      go_ret2
      exact ⟨rfl, (hW.trans (hb.mono hW.size)).trans (hb2.mono (Nat.le_trans hW.size hb.size))⟩
    · rw [show fw d k s = none from by simp [fw, hd]]
      go_enter Try.func54, Try.ntmps54
      go_wp2_with fail
      refine (riHas_any _ ⟨k, d⟩ s _ ⟨_, rfl, h4⟩ hn).mono ?_; rintro e w1 ⟨rfl, hb⟩
      rw [hg]
      have q := hB0.step hb
      have q0 := q.cell 0
      have q1 := q.cell 1
      simp at q0 q1
      have h5 := (h4.step hb (Nat.le_refl _)).more hb.size
      go_wp2_with fail
      refine (l1Has_any _ d s _ h5 hn).mono ?_; rintro e w' ⟨rfl, rfl⟩
      rw [hd]
      go_wp2_with fail
      go_ret2
      exact ⟨rfl, hW.trans (hb.mono hW.size)⟩
end Go.Proofs.Ytifebadcfopfkaa
