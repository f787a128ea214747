/-
  Plain mathematics: a number put into, or taken out of, a strictly rising list; where it stands. No dump is imported.
-/
import Derived.Test.YtffmpkdkifecpaaWords
namespace Go.Proofs.Ytffmpkdkifecpaa

/-- All numbers before place i are smaller than t, the others are not. -/
structure CutAt (l : List Int) (t : Int) (i : Nat) : Prop where
  le : i ≤ l.length
  lo : ∀ m, m < i → l.getD m 0 < t
  hi : ∀ m, i ≤ m → m < l.length → t ≤ l.getD m 0
def putI (l : List Int) (t : Int) : List Int := l.takeWhile (· < t) ++ t :: l.dropWhile (· < t)
def outI (l : List Int) (t : Int) : List Int := l.filter (· != t)
theorem CutAt.take {l : List Int} {t : Int} {i : Nat} (h : CutAt l t i) : l.takeWhile (· < t) = l.take i ∧ l.dropWhile (· < t) = l.drop i := by
  induction l generalizing i with
  | nil => simp
  | cons x l ih =>
    cases i with
    | zero =>
      have := h.hi 0 (by omega) (by simp)
      simp at this
      have h2 : ¬ x < t := by omega
      simp [h2]
    | succ i =>
      have h1 := h.lo 0 (by omega)
      simp at h1
      have h2 : CutAt l t i := ⟨by have := h.le; simp at this; omega, fun m hm => by have := h.lo (m + 1) (by omega); simpa using this, fun m hm hl => by have := h.hi (m + 1) (by omega) (by simp; omega); simpa using this⟩
      obtain ⟨h3, h4⟩ := ih h2
      simp [h1, h3, h4]
theorem CutAt.put {l : List Int} {t : Int} {i : Nat} (h : CutAt l t i) : putI l t = l.take i ++ t :: l.drop i := by
  unfold putI
  rw [h.take.1, h.take.2]
theorem putI_len (l : List Int) (t : Int) : (putI l t).length = l.length + 1 := by
  unfold putI
  have := congrArg List.length (List.takeWhile_append_dropWhile (p := fun x => decide (x < t)) (l := l))
  simp only [List.length_append, List.length_cons] at this ⊢
  omega
theorem outI_len (l : List Int) (t : Int) : (outI l t).length ≤ l.length := List.length_filter_le _ _
/-- In a strictly rising list: a number that is there stands at its cut. -/
theorem CutAt.has {l : List Int} {t : Int} {i : Nat} (h : CutAt l t i) (hr : ∀ j, 0 < j → j < l.length → l.getD (j - 1) 0 < l.getD j 0) : l.contains t = decide (i < l.length ∧ l.getD i 0 = t) := by
  have up : ∀ d j, j + d < l.length → l.getD j 0 ≤ l.getD (j + d) 0 := by
    intro d
    induction d with
    | zero => intro j _; exact Int.le_refl _
    | succ d ih =>
      intro j hj
      have h1 := ih j (by omega)
      have h2 := hr (j + d + 1) (by omega) (by omega)
      simp only [Nat.add_sub_cancel] at h2
      rw [show j + (d + 1) = j + d + 1 from by omega]
      omega
  rw [Bool.eq_iff_iff]
  simp only [List.contains_iff_mem, decide_eq_true_eq]
  constructor
  · intro hm
    obtain ⟨m, hm, e⟩ := List.getElem_of_mem hm
    have e2 : l.getD m 0 = t := by simp [hm, e]
    have hmi : i ≤ m := by
      rcases Nat.lt_or_ge m i with h1 | h1
      · have := h.lo m h1; omega
      · exact h1
    refine ⟨by omega, ?_⟩
    have h1 := h.hi i (Nat.le_refl _) (by omega)
    have h2 := up (m - i) i (by omega)
    rw [show i + (m - i) = m from by omega] at h2
    omega
  · rintro ⟨h1, h2⟩
    rw [← h2]
    simp [h1]
/-- Taken out of a strictly rising list. -/
theorem outI_no {l : List Int} {t : Int} (h : t ∉ l) : outI l t = l := by
  unfold outI
  rw [List.filter_eq_self]
  intro x hx
  simp only [bne_iff_ne, ne_eq]
  rintro rfl
  exact h hx
theorem outI_at {l : List Int} {t : Int} {i : Nat} (h : CutAt l t i) (hr : ∀ j, 0 < j → j < l.length → l.getD (j - 1) 0 < l.getD j 0) (hi : i < l.length) (he : l.getD i 0 = t) : outI l t = l.take i ++ l.drop (i + 1) := by
  have e1 : l = l.take i ++ t :: l.drop (i + 1) := by
    have hg : l[i] = t := by simpa [hi] using he
    rw [← hg, ← List.drop_eq_getElem_cons hi, List.take_append_drop]
  have h1 : t ∉ l.take i := by
    intro hm
    obtain ⟨m, hm, e⟩ := List.getElem_of_mem hm
    have hm2 : m < i := by simp at hm; omega
    have := h.lo m hm2
    simp [List.getElem_take] at e
    have e3 : l.getD m 0 = t := by simp [show m < l.length by omega, e]
    omega
  have up : ∀ d, i + 1 + d < l.length → t < l.getD (i + 1 + d) 0 := by
    intro d
    induction d with
    | zero => intro hj; have := hr (i + 1) (by omega) hj; simp only [Nat.add_sub_cancel] at this; rw [he] at this; exact this
    | succ d ih =>
      intro hj
      have h2 := ih (by omega)
      have h3 := hr (i + 1 + d + 1) (by omega) (by omega)
      simp only [Nat.add_sub_cancel] at h3
      rw [show i + 1 + (d + 1) = i + 1 + d + 1 from by omega]
      omega
  have h2 : t ∉ l.drop (i + 1) := by
    intro hm
    obtain ⟨m, hm, e⟩ := List.getElem_of_mem hm
    simp at hm e
    have := up m (by omega)
    have e3 : l.getD (i + 1 + m) 0 = t := by simp [show i + 1 + m < l.length by omega, e]
    omega
  conv => lhs; rw [e1]
  unfold outI
  rw [List.filter_append, List.filter_cons_of_neg (by simp)]
  have a := outI_no h1
  have b := outI_no h2
  unfold outI at a b
  rw [a, b]
end Go.Proofs.Ytffmpkdkifecpaa
