/-
  Plain mathematics: strictly rising lists are told by their members; numbers put into one, one after the other; a sorted list without its doubles. No dump is imported.
-/
import Derived.Test.YtffmpkdkifecpaaMathPut
namespace Go.Proofs.Ytffmpkdkifecpaa

/-- Strictly rising. -/
abbrev SS (l : List Int) : Prop := l.Pairwise (· < ·)
theorem SS.one {l m : List Int} (hl : SS l) (hm : SS m) (h : ∀ x, x ∈ l ↔ x ∈ m) : l = m := by
  induction l generalizing m with
  | nil =>
    cases m with
    | nil => rfl
    | cons y m => have := (h y).2 (by simp); simp at this
  | cons x l ih =>
    cases m with
    | nil => have := (h x).1 (by simp); simp at this
    | cons y m =>
      have hx := List.pairwise_cons.1 hl
      have hy := List.pairwise_cons.1 hm
      have e : x = y := by
        have h1 := (h x).1 (by simp)
        have h2 := (h y).2 (by simp)
        rcases List.mem_cons.1 h1 with h1 | h1
        · exact h1
        · rcases List.mem_cons.1 h2 with h2 | h2
          · exact h2.symm
          · have := hx.1 y h2; have := hy.1 x h1; omega
      subst e
      congr 1
      refine ih hx.2 hy.2 fun z => ?_
      have hz := h z
      simp only [List.mem_cons] at hz
      constructor
      · intro h1
        have := hx.1 z h1
        rcases hz.1 (.inr h1) with h2 | h2
        · omega
        · exact h2
      · intro h1
        have := hy.1 z h1
        rcases hz.2 (.inr h1) with h2 | h2
        · omega
        · exact h2
theorem SS.at {l : List Int} (h : SS l) (j : Nat) (h0 : 0 < j) (hj : j < l.length) : l.getD (j - 1) 0 < l.getD j 0 := by
  have h1 := List.pairwise_iff_getElem.1 h (j - 1) j (by omega) hj (by omega)
  simp [hj, show j - 1 < l.length by omega]
  exact h1
theorem SS.of {l : List Int} (h : ∀ j, 0 < j → j < l.length → l.getD (j - 1) 0 < l.getD j 0) : SS l := by
  have up : ∀ d i, i + 1 + d < l.length → l.getD i 0 < l.getD (i + 1 + d) 0 := by
    intro d
    induction d with
    | zero => intro i hi; have := h (i + 1) (by omega) hi; simpa using this
    | succ d ih =>
      intro i hi
      have h1 := ih i (by omega)
      have h2 := h (i + 1 + d + 1) (by omega) (by omega)
      simp only [Nat.add_sub_cancel] at h2
      rw [show i + 1 + (d + 1) = i + 1 + d + 1 from by omega]
      omega
  refine List.pairwise_iff_getElem.2 fun i j hi hj hij => ?_
  have := up (j - (i + 1)) i (by omega)
  rw [show i + 1 + (j - (i + 1)) = j from by omega] at this
  simpa [hi, hj] using this
/-- Where a number stands, or would. -/
theorem cut_of (l : List Int) (t : Int) (h : SS l) : CutAt l t (l.takeWhile (· < t)).length := by
  induction l with
  | nil => exact ⟨by simp, fun m hm => by simp at hm, fun m _ hm => by simp at hm⟩
  | cons x l ih =>
    have hx := List.pairwise_cons.1 h
    by_cases hlt : x < t
    · have hi := ih hx.2
      simp only [List.takeWhile_cons, hlt, decide_true, if_true, List.length_cons]
      refine ⟨by have := hi.le; simp; omega, fun m hm => ?_, fun m hm hl => ?_⟩
      · cases m with
        | zero => simpa using hlt
        | succ m => have := hi.lo m (by omega); simpa using this
      · cases m with
        | zero => omega
        | succ m => have := hi.hi m (by omega) (by simpa using hl); simpa using this
    · simp only [List.takeWhile_cons, hlt, decide_false, Bool.false_eq_true, if_false, List.length_nil]
      refine ⟨by simp, fun m hm => by omega, fun m _ hl => ?_⟩
      cases m with
      | zero => simp; omega
      | succ m =>
        have hl' : m < l.length := by simpa using hl
        have h1 := hx.1 l[m] (List.getElem_mem hl')
        simp [hl']
        omega
theorem mem_putI (l : List Int) (t x : Int) : x ∈ putI l t ↔ x = t ∨ x ∈ l := by
  unfold putI
  conv => rhs; rw [← List.takeWhile_append_dropWhile (p := fun x => decide (x < t)) (l := l)]
  simp only [List.mem_append, List.mem_cons]
  constructor
  · rintro (h | h | h)
    · exact .inr (.inl h)
    · exact .inl h
    · exact .inr (.inr h)
  · rintro (h | h | h)
    · exact .inr (.inl h)
    · exact .inl h
    · exact .inr (.inr h)
theorem ss_putI {l : List Int} {t : Int} (h : SS l) (hn : t ∉ l) : SS (putI l t) := by
  have hc := cut_of l t h
  rw [hc.put]
  have h1 := h
  rw [← List.take_append_drop (l.takeWhile (· < t)).length l] at h1
  obtain ⟨h2, h3, h4⟩ := List.pairwise_append.1 h1
  refine List.pairwise_append.2 ⟨h2, List.pairwise_cons.2 ⟨fun y hy => ?_, h3⟩, fun a ha b hb => ?_⟩
  · obtain ⟨m, hm, e⟩ := List.getElem_of_mem hy
    simp at hm e
    have h5 := hc.hi ((l.takeWhile (· < t)).length + m) (by omega) (by omega)
    have e2 : l.getD ((l.takeWhile (· < t)).length + m) 0 = y := by simp [show (l.takeWhile (· < t)).length + m < l.length by omega, e]
    rw [e2] at h5
    have h6 : y ≠ t := by rintro rfl; exact hn (List.mem_of_mem_drop hy)
    omega
  · have hat : a < t := by
      obtain ⟨m, hm, e⟩ := List.getElem_of_mem ha
      have hm2 : m < (l.takeWhile (· < t)).length := by simp only [List.length_take] at hm; omega
      have h5 := hc.lo m hm2
      have := hc.le
      simp only [List.getElem_take] at e
      have e2 : l.getD m 0 = a := by simp [show m < l.length by omega, e]
      omega
    rcases List.mem_cons.1 hb with rfl | hb
    · exact hat
    · exact h4 a ha b hb
/-- l1Put: put in, unless it is there. -/
def putU (l : List Int) (t : Int) : List Int := if l.contains t then l else putI l t
theorem mem_putU (l : List Int) (t x : Int) : x ∈ putU l t ↔ x = t ∨ x ∈ l := by
  unfold putU
  split
  · next h =>
    have h : t ∈ l := by simpa using h
    constructor
    · exact .inr
    · rintro (rfl | h2)
      · exact h
      · exact h2
  · exact mem_putI l t x
theorem ss_putU {l : List Int} {t : Int} (h : SS l) : SS (putU l t) := by
  unfold putU
  split
  · exact h
  · next hn => exact ss_putI h (by simpa using hn)
theorem putU_len (l : List Int) (t : Int) : (putU l t).length ≤ l.length + 1 := by
  unfold putU
  split
  · omega
  · rw [putI_len]; omega
/-- The strictly rising list of a list's members. -/
def setL (m : List Int) : List Int := m.foldl putU []
theorem foldl_putU (m l : List Int) (h : SS l) : SS (m.foldl putU l) ∧ (∀ x, x ∈ m.foldl putU l ↔ x ∈ l ∨ x ∈ m) ∧ (m.foldl putU l).length ≤ l.length + m.length := by
  induction m generalizing l with
  | nil => exact ⟨h, fun x => by simp, by simp⟩
  | cons y m ih =>
    obtain ⟨h1, h2, h3⟩ := ih (putU l y) (ss_putU h)
    refine ⟨h1, fun x => ?_, ?_⟩
    · rw [List.foldl_cons, h2, mem_putU, List.mem_cons]
      constructor
      · rintro ((h | h) | h)
        · exact .inr (.inl h)
        · exact .inl h
        · exact .inr (.inr h)
      · rintro (h | h | h)
        · exact .inl (.inr h)
        · exact .inl (.inl h)
        · exact .inr h
    · have := putU_len l y
      rw [List.foldl_cons, List.length_cons]
      omega
theorem setL_SS (m : List Int) : SS (setL m) := (foldl_putU m [] List.Pairwise.nil).1
theorem mem_setL (m : List Int) (x : Int) : x ∈ setL m ↔ x ∈ m := by rw [show setL m = m.foldl putU [] from rfl, (foldl_putU m [] List.Pairwise.nil).2.1]; simp
theorem setL_len (m : List Int) : (setL m).length ≤ m.length := by have := (foldl_putU m [] List.Pairwise.nil).2.2; simpa [setL] using this
theorem setL_one {m l : List Int} (hl : SS l) (h : ∀ x, x ∈ l ↔ x ∈ m) : l = setL m := hl.one (setL_SS m) fun x => by rw [h, mem_setL]
end Go.Proofs.Ytffmpkdkifecpaa
