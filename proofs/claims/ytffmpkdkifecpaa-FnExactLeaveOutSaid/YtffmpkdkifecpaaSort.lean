/-
  slices.Sort and slices.Compact at what a call has gathered: the library's contracts in this seat's words.
-/
import Derived.Test.YtffmpkdkifecpaaShelf
import Derived.Test.YtffmpkdkifecpaaAcc
import Derived.Test.YtffmpkdkifecpaaMathSet
import Derived.Lib.OwnBridge
namespace Go.Proofs.Ytffmpkdkifecpaa
open Go.RowKit Go.Sort
set_option maxRecDepth 100000
set_option linter.unusedVariables false

theorem below_grow (w : World) (os : Array Obj) : Below w.heap.size w (grow w os) := ⟨rfl, rfl, rfl, by simp, fun k hk => heap_grow_old w os hk⟩
theorem Below.grow {B : Nat} {a w : World} (h : Below B a w) (os : Array Obj) (hB : B ≤ w.heap.size) : Below B a (grow w os) := h.trans ((below_grow w os).mono hB)
def RetSort (E : TypeId) (w : World) (lo : Nat) (v : Value) (l : List Int) (e : Ending) (w' : World) : Prop :=
  e = .returned (.tuple #[]) ∧ ∃ m : List Int, Acc E w' lo v m ∧ m.Pairwise (· ≤ ·) ∧ (∀ x, x ∈ m ↔ x ∈ l) ∧ m.length = l.length ∧ Below lo w w'
theorem sort_any (lo : Nat) (v : Value) (l : List Int) (w : World) (h : Acc 3 w lo v l) (hv : v ≠ .slice none 0 0) (hn : l.length ≤ 1000) :
    Calls Try.prog 49 #[v] w (RetSort 3 w lo v l) := by
  have h0 : w.ownsRow lo 3 1 v l.length (l.map (Value.int .i64)) := h
  obtain ⟨g, cap, rfl, hg, hlt, hnc, hm, hl, hH⟩ := Lib.holds_of_ownsRow h0 hv
  refine (Try.slices_Sort_int g 0 cap l w hH hlt (by omega)).mono ?_
  rintro e w' ⟨rfl, n, os, rfl⟩
  have hlen : (l.mergeSort fun x y => decide (x ≤ y)).length = l.length := List.length_mergeSort ..
  have hacc : Acc 3 (putRow (Value.int .i64) (Sort.ahead w n) g 0 (l.mergeSort fun x y => decide (x ≤ y)).toArray) lo (.slice (some ⟨g, 0, none⟩) l.length cap) (l.mergeSort fun x y => decide (x ≤ y)) := by
    have h1 := Lib.ownsRow_putRow (q := n) (k := l.length) (ys := l.mergeSort fun x y => decide (x ≤ y)) h0 hlen (Nat.le_refl _)
    rw [List.take_of_length_le (by omega)] at h1
    unfold Acc
    rw [hlen]
    exact h1
  refine ⟨rfl, l.mergeSort fun x y => decide (x ≤ y), hacc.step (below_grow _ os), ?_, fun x => (List.mergeSort_perm l _).mem_iff, hlen, ?_⟩
  · have := List.pairwise_mergeSort (le := fun x y : Int => decide (x ≤ y)) (fun a b c h1 h2 => by simp at h1 h2 ⊢; omega) (fun a b => by simp; omega) l
    exact this.imp fun h => by simpa using h
  · have hb := Lib.below_putRow (enc := Value.int .i64) (q := n) (d := (l.mergeSort fun x y => decide (x ≤ y)).toArray) (Below.refl lo w) hg
    exact Below.grow hb os (by have := hb.size; omega)

/-- Without its doubles, a sorted list is strictly rising, and has the same members. -/
theorem compact_set (l : List Int) (hs : l.Pairwise (· ≤ ·)) : SS (Lib.compact l) ∧ (∀ x, x ∈ Lib.compact l ↔ x ∈ l) ∧ (Lib.compact l).length ≤ l.length := by
  have hget : ∀ j, j < l.length → l.toArray[j]! = l.getD j 0 := by
    intro j hj
    simp [hj]
  have hle : ∀ i j, i < j → j < l.length → l.getD i 0 ≤ l.getD j 0 := by
    intro i j hij hj
    have := List.pairwise_iff_getElem.1 hs i j (by omega) hj hij
    simpa [hj, show i < l.length by omega] using this
  have key : ∀ m, m ≤ l.length → SS (Lib.compactUpTo l.toArray m) ∧ (∀ x, x ∈ Lib.compactUpTo l.toArray m ↔ ∃ j, j < m ∧ l.getD j 0 = x) ∧ (Lib.compactUpTo l.toArray m).length ≤ m := by
    intro m
    induction m with
    | zero => intro _; exact ⟨by simp [Lib.compactUpTo], fun x => by simp [Lib.compactUpTo], by simp [Lib.compactUpTo]⟩
    | succ m ih =>
      intro hm
      obtain ⟨h1, h2, h3⟩ := ih (by omega)
      rw [Lib.compactUpTo_succ]
      cases hk : Lib.keeps l.toArray m with
      | true =>
        simp only [if_true]
        rw [hget m (by omega)]
        refine ⟨List.pairwise_append.2 ⟨h1, List.pairwise_singleton _ _, fun a ha b hb => ?_⟩, fun x => ?_, by simp; omega⟩
        · simp only [List.mem_singleton] at hb
          subst hb
          obtain ⟨j, hj, rfl⟩ := (h2 a).1 ha
          simp only [Lib.keeps, decide_eq_true_eq] at hk
          rcases hk with rfl | hk
          · omega
          · rw [hget m (by omega), hget (m - 1) (by omega)] at hk
            have h5 : l.getD j 0 ≤ l.getD (m - 1) 0 := by
              by_cases e : j = m - 1
              · rw [e]; exact Int.le_refl _
              · exact hle j (m - 1) (by omega) (by omega)
            have h6 := hle (m - 1) m (by omega) (by omega)
            omega
        · rw [List.mem_append, h2, List.mem_singleton]
          constructor
          · rintro (⟨j, hj, rfl⟩ | rfl)
            · exact ⟨j, by omega, rfl⟩
            · exact ⟨m, by omega, rfl⟩
          · rintro ⟨j, hj, rfl⟩
            by_cases e : j = m
            · exact .inr (by rw [e])
            · exact .inl ⟨j, by omega, rfl⟩
      | false =>
        simp only [Bool.false_eq_true, if_false, List.append_nil]
        refine ⟨h1, fun x => ?_, by omega⟩
        rw [h2]
        constructor
        · rintro ⟨j, hj, rfl⟩
          exact ⟨j, by omega, rfl⟩
        · rintro ⟨j, hj, rfl⟩
          by_cases e : j = m
          · subst e
            simp only [Lib.keeps, decide_eq_false_iff_not, not_or, Classical.not_not] at hk
            rw [hget j (by omega), hget (j - 1) (by omega)] at hk
            exact ⟨j - 1, by omega, hk.2.symm⟩
          · exact ⟨j, by omega, rfl⟩
  obtain ⟨h1, h2, h3⟩ := key l.length (Nat.le_refl _)
  refine ⟨h1, fun x => ?_, h3⟩
  show x ∈ Lib.compactUpTo l.toArray l.length ↔ _
  rw [h2]
  constructor
  · rintro ⟨j, hj, rfl⟩
    simp [hj]
  · intro h
    obtain ⟨j, hj, e⟩ := List.getElem_of_mem h
    exact ⟨j, hj, by simp [hj, e]⟩
def RetComp (E : TypeId) (w : World) (lo : Nat) (l : List Int) (e : Ending) (w' : World) : Prop :=
  ∃ u, e = .returned u ∧ Acc E w' lo u (setL l) ∧ Below lo w w'
theorem compact_any (lo : Nat) (v : Value) (l : List Int) (w : World) (h : Acc 3 w lo v l) (hlo : lo ≤ w.heap.size) (hs : l.Pairwise (· ≤ ·)) (hv : v ≠ .slice none 0 0) (hn : l.length ≤ 1000) :
    Calls Try.prog 50 #[v] w (RetComp 3 w lo l) := by
  have h0 : w.ownsRow lo 3 1 v l.length (l.map (Value.int .i64)) := h
  obtain ⟨h1, h2, h3⟩ := compact_set l hs
  have hset : Lib.compact l = setL l := setL_one h1 h2
  obtain ⟨g, cap, rfl, hg, hlt, hnc, hm, hl, hH⟩ := Lib.holds_of_ownsRow h0 hv
  refine (Try.slices_Compact_int g 0 cap l w hH (by omega) hnc).mono ?_
  rintro e w' ⟨rfl, q, rfl⟩
  refine ⟨_, rfl, ?_, Lib.below_putRow (Below.refl lo w) hg⟩
  have h4 := Lib.ownsRow_putRow (q := q) (k := (Lib.compact l).length) (ys := Lib.compact l ++ List.replicate (l.length - (Lib.compact l).length) 0) h0 (by simp; omega) h3
  rw [List.take_left] at h4
  rw [← hset]
  exact h4
end Go.Proofs.Ytffmpkdkifecpaa
