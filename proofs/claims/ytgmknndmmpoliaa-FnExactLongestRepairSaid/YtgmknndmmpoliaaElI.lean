/-
  Chapter 7: the keys of a map of stations, in order.
-/
import Derived.Test.YtgmknndmmpoliaaIter
import Derived.Test.YtgmknndmmpoliaaElW
namespace Go.Proofs.Ytgmknndmmpoliaa
open Go.RowKit Go.Shelf Go.Maps Go.Sort
set_option maxRecDepth 100000
set_option linter.unusedVariables false
attribute [local go_sem] Oper.semAt_some

theorem alL_up (A : Nat → Bool) (n : Nat) : (alL A n).Pairwise (· < ·) := by
  induction n with
  | zero => exact List.Pairwise.nil
  | succ n ih =>
    rw [alL]
    split
    · refine List.pairwise_append.2 ⟨ih, List.pairwise_singleton _ _, fun x hx y hy => ?_⟩
      obtain ⟨s, hs, _, rfl⟩ := (alL_mem A n x).1 hx
      simp only [List.mem_singleton] at hy
      subst hy
      omega
    · exact ih
theorem MF.perm {D : DataW Unit} {n : Nat} {A : Nat → Bool} {V : Nat → Int} (h : MF D n A V) (hent : ∃ es, D = .map es ∧ es.Pairwise (fun p q => p.1 ≠ q.1) ∧ ∀ p ∈ es, WideAt.IsKeyLit p.1) : (alL A n).Perm (intKeys D) := by
  obtain ⟨es, rfl, hp, hkk⟩ := hent
  refine perm_intKeys hp (fun p hp9 => ?_) ((alL_up A n).imp fun h => by omega) fun x => ?_
  · have hh : Maps.has (DataW.map es) p.1 = true := by
      rw [has_eq, List.any_eq_true]
      exact ⟨p, hp9, WideAt.sameKey_self (hkk p hp9)⟩
    obtain ⟨i, hi, he⟩ := h.only _ hh
    exact ⟨(i : Int), by rw [he]; rfl⟩
  · rw [alL_mem]
    constructor
    · rintro ⟨s, h1, h2, rfl⟩
      exact (h.has s h1).trans h2
    · intro hh
      obtain ⟨i, hi, he⟩ := h.only _ hh
      have hx : x = (i : Int) := by unfold stKey at he; injection he
      subst hx
      exact ⟨i, hi, by rw [← h.has i hi]; exact hh, rfl⟩
theorem sorted_is {D : DataW Unit} {n : Nat} {A : Nat → Bool} {V : Nat → Int} (h : MF D n A V) (hent : ∃ es, D = .map es ∧ es.Pairwise (fun p q => p.1 ≠ q.1) ∧ ∀ p ∈ es, WideAt.IsKeyLit p.1) {ss : List Int} (hs : ss.Perm (intKeys D)) : ss.mergeSort (fun x y => decide (x ≤ y)) = alL A n := by
  have tr : ∀ a b c : Int, leI a b = true → leI b c = true → leI a c = true := fun a b c h1 h2 => by simp only [leI, decide_eq_true_eq] at *; exact Int.le_trans h1 h2
  have to : ∀ a b : Int, (leI a b || leI b a) = true := fun a b => by simp only [leI, Bool.or_eq_true, decide_eq_true_eq]; exact Int.le_total a b
  refine List.Perm.eq_of_pairwise (le := fun a b => leI a b = true) (fun a b _ _ h1 h2 => ?_) (List.pairwise_mergeSort tr to ss) ((alL_up A n).imp fun h => by simp only [leI, decide_eq_true_eq]; omega) (((List.mergeSort_perm ss leI).trans hs).trans (h.perm hent).symm)
  simp only [leI, decide_eq_true_eq] at h1 h2
  exact Int.le_antisymm h1 h2
theorem sortsA (m : Nat) : AnyZI.SortsIn Try.prog Try.sortedA_ren Fence.wide m :=
  ⟨fun blk off cap ss W hH hblk hsz => callsIn_wide.2 (AnyM.slices_Sort_int Try.sortA blk off cap ss W hH hblk hsz),
   fun p cap W => callsIn_wide.2 (AnyM.slices_Sort_int_none Try.sortA p cap W)⟩
set_option maxHeartbeats 2000000 in
/-- The stations of a map, in order. -/
theorem inOrder_any (mb nn : Nat) (D : DataW Unit) (n : Nat) (A : Nat → Bool) (V : Nat → Int) (w : World) (hn : n ≤ 1000) (hown : w.ownsMap Try.prog 3 (plainElem (H := Unit) Try.prog 3) mb nn D) (hm : MF D n A V) :
    Calls Try.prog 59 #[.map (some mb)] w (RetL 3 w (alL A n)) := by
  have hsize : Maps.size D ≤ n := by rw [hm.size, ← alL_len]; exact alL_le A n
  have hmax : Maps.size D ≤ maxLen := by unfold maxLen; omega
  have hbytes : Maps.size D * 8 ≤ 140737488355328 := by omega
  refine (callsIn_wide (n := 6)).1 ?_
  have hbl := hown.lt
  have hseq : SeqGives Fence.wide 2 Try.prog 90 #[.pointer (some ⟨w.heap.size, 0, none⟩)] encZ (fun ss => ss.Perm (intKeys D)) (Maps.size D) (w.alloc (.cells #[.map (some mb)] 51)) :=
    AnyZI.keys_gives (ρ := Try.keysA_ren) { Try.keysA with } Fence.wide _ trivial rfl (by omega) w.heap.size mb nn D _ (by simp) (by simp) (by
      obtain ⟨es, clock, hb, Ft, hs, hD⟩ := hown
      exact ⟨es, clock, (Below.heap_alloc _ _ mb hbl).trans hb, Ft, hs, hD⟩)
  have cK : ∀ m W, CallsIn Fence.wide 5 Try.prog 77 #[.map m] W fun e w' => e = .returned (.func (.func 90) #[] #[.pointer (some ⟨W.heap.size, 0, none⟩)]) ∧ w' = W.alloc (.cells #[.map m] 51) := fun m W => AnyZI.keys_in Try.keysA Fence.wide 5 trivial rfl m W
  have cS := AnyZI.sorted_in Try.sortedA Fence.wide 5 trivial trivial trivial trivial rfl (by omega) (sortsA _) (enters_of Try.func89 (by kernel_rfl) rfl) 90 #[.pointer (some ⟨w.heap.size, 0, none⟩)] trivial (enters_of Try.func90 (by kernel_rfl) rfl) _ _ hmax hbytes _ hseq
  change CallsIn _ _ Try.prog 76 _ _ _ at cS
  have HM := Lib.hid hm
  have HENT := Lib.hid (hown.entries (int_keyed Try.underlying3))
  have HCK := Lib.hid cK
  have HCS := Lib.hid cS
  clear hseq hown hm cK cS
  have hfK : Fence.wide.fn 77 := trivial
  have hfS : Fence.wide.fn 76 := trivial
  refine callsIn_of_wp Try.func59 rfl trivial ?_ rfl
  simp only [Try.ntmps59, List.size_toArray, List.length_cons, List.length_nil, Nat.reduceAdd, Nat.reduceSub, Array.replicate_succ, Array.replicate_zero, List.push_toArray, List.append_toArray, List.nil_append, List.cons_append]
  gi_wp2_with (first
    | (gi_at_call 77; refine (HCK.out _ _).mono ?_; rintro e w' ⟨rfl, rfl⟩)
    | (gi_at_call 76; refine HCS.out.mono ?_; rintro e w' ⟨v, ss, rfl, hS, hrow, hnil, hb⟩))
  go_ret
  have hsi := sorted_is HM.out HENT.out hS
  rw [hsi] at hrow
  have hlen : ss.length = (alL A n).length := by rw [← hsi]; simp
  rw [hlen] at hrow
  exact ⟨v, rfl, (OI.of_row (l := alL A n) (ownsRow_base_a hrow (by simp))), ((Below.refl _ w).alloc (Nat.le_refl _) _).trans (hb.mono (by simp))⟩
end Go.Proofs.Ytgmknndmmpoliaa
