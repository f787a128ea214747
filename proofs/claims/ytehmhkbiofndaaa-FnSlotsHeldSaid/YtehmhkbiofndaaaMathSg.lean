/-
  What the law FnSlotsGoRound goes by.
-/
import Derived.Test.YtehmhkbiofndaaaReadX
import Derived.Test.YtehmhkbiofndaaaLastX
import Derived.Test.YtehmhkbiofndaaaLoads
import Derived.Test.YtehmhkbiofndaaaSlD
import Derived.Test.YtehmhkbiofndaaaCurB
namespace Go.Proofs.Ytehmhkbiofndaaa
open Go.RowKit
set_option maxRecDepth 100000
set_option linter.unusedVariables false

/-- Messages of one station are filled in their order. -/
theorem fin_order {x : Sr} {l : List Ms} (hg : slOk x l = true) {k i : Nat} (hki : k < i) (hi : i < l.length) (hf : l[k]!.f = l[i]!.f) : (swOf x l).fin (lastT l) k < (swOf x l).fin (lastT l) i := by
  have hin := isSr_in (slOk_in hg).1
  obtain ⟨hl20, hall, hso⟩ := areMs_in (slOk_in hg).2
  have hok := swOk hin hall
  have hL := fun i (hi : i < (swOf x l).len) => (lastT_le (slOk_in hg).2 i hi).1
  have h0 := (F_need hg i hi).2.1
  obtain ⟨t, ht⟩ : ∃ t : Nat, (swOf x l).fin (lastT l) i = t := ⟨((swOf x l).fin (lastT l) i).toNat, by omega⟩
  have e1 := Sw.F_of_fin hok (lastT l) hL t i hi
  have e2 := Sw.F_of_fin hok (lastT l) hL (t + 1) i hi
  have e3 := Sw.F_of_fin hok (lastT l) hL t k (show k < (swOf x l).len from (by show k < l.length; omega))
  rw [ht, if_neg (by omega)] at e1
  rw [ht, if_pos (by omega)] at e2
  have e4 : (swOf x l).F (t + 1) i = (swOf x l).tickF t ((swOf x l).run t).1 ((swOf x l).run t).2 i := rfl
  rw [e2] at e4
  unfold Sw.tickF at e4
  split at e4
  · rename_i h
    have h1 := Sw.fills_some h
    have h2 := Sw.next_some h1
    unfold Sw.next at h1
    have h3 : ¬ ((swOf x l).fr k = (swOf x l).fr i ∧ (swOf x l).tk k ≤ t ∧ ((swOf x l).run t).2 k < 0) := by
      intro hc
      rw [List.find?_range_eq_some] at h1
      have := h1.2.2 k hki
      simp only [Bool.not_eq_true', decide_eq_false_iff_not] at this
      exact this hc
    have h4 : (swOf x l).fr k = (swOf x l).fr i := by simp only [swOf]; rw [hf]
    have h5 : (swOf x l).tk k ≤ t := by
      have h6 : (swOf x l).tk k ≤ (swOf x l).tk i := by
        have h7 : l[k]!.t ≤ l[i]!.t := by
          rw [getElem!_pos l i hi, getElem!_pos l k (by omega)]
          exact (List.pairwise_iff_getElem.1 hso) k i (by omega) hi hki
        simp only [swOf]
        omega
      exact Nat.le_trans h6 h2.2.2.1
    have h6 : 0 ≤ (swOf x l).F t k := by
      rcases Int.lt_or_le ((swOf x l).F t k) 0 with h7 | h7
      · exact absurd ⟨h4, h5, h7⟩ h3
      · exact h7
    rw [e3] at h6
    split at h6
    · omega
    · omega
  · have e5 : ((swOf x l).run t).2 i = (swOf x l).F t i := rfl
    rw [e5, e1] at e4
    omega
theorem fin_tick {x : Sr} {l : List Ms} (hg : slOk x l = true) {i : Nat} (hi : i < l.length) : l[i]!.t ≤ (swOf x l).fin (lastT l) i := by
  have hin := isSr_in (slOk_in hg).1
  obtain ⟨hl20, hall, hso⟩ := areMs_in (slOk_in hg).2
  have h0 := (F_need hg i hi).2.1
  have h1 := (Sw.inv_run (swOk hin hall) (lastT l + (swOf x l).len * ((swOf x l).n + 1))).filled i hi
  have h2 : ((swOf x l).run (lastT l + (swOf x l).len * ((swOf x l).n + 1))).2 i = (swOf x l).fin (lastT l) i := rfl
  have h3 := (msAt hall i hi).1
  rw [h2] at h1
  have h4 : (((swOf x l).tk i : Nat) : Int) = l[i]!.t := by simp only [swOf]; omega
  omega
/-- The sums of hops. -/
def hpS (k : Int) (l : List Ms) : Nat → Int
  | 0 => 0
  | m + 1 => hpS k l m + hopsI k l[m]!
theorem foldl_add9 (L : List Int) (a : Int) : L.foldl (fun x1 x2 => x1 + x2) a = a + L.foldl (fun x1 x2 => x1 + x2) 0 := by
  induction L generalizing a with
  | nil => simp
  | cons y L ih => rw [List.foldl_cons, List.foldl_cons, ih (a + y), ih (0 + y)]; omega
theorem sumL_cons9 (y : Int) (L : List Int) : sumL (y :: L) = y + sumL L := by
  unfold sumL
  rw [List.foldl_cons, foldl_add9]
  omega
theorem bump_sum {L : List Int} {j : Nat} (hj : j < L.length) : sumL (bump L j) = sumL L + 1 := by
  unfold bump
  induction L generalizing j with
  | nil => simp at hj
  | cons y L ih =>
    cases j with
    | zero => rw [List.set_cons_zero, List.getD_cons_zero, sumL_cons9, sumL_cons9]; omega
    | succ j =>
      have := ih (j := j) (by simpa using hj)
      rw [List.set_cons_succ, List.getD_cons_succ, sumL_cons9, sumL_cons9, this]
      omega
theorem walkL_sum {n f : Nat} {L : List Int} (hn : 0 < n) (hL : L.length = n) (d : Nat) : sumL (walkL n f L d) = sumL L + d := by
  induction d with
  | zero => simp [walkL]
  | succ d ih =>
    rw [walkL, bump_sum (by rw [walkL_length, hL]; exact Nat.mod_lt _ hn), ih]
    omega
theorem loads_sum {k : Int} {l : List Ms} (hk : 2 ≤ k) (hl : ∀ x ∈ l, MsIn k x) (m : Nat) (hm : m ≤ l.length) : sumL (loadsOf k (l.take m)) = hpS k l m := by
  induction m with
  | zero =>
    simp only [List.take_zero, loadsOf, List.foldl_nil, hpS]
    induction k.toNat with
    | zero => rfl
    | succ q ih => rw [List.replicate_succ, sumL_cons9, ih]; rfl
  | succ m ih =>
    rw [loads_at k l m (by omega), loadMs, walkL_sum (by omega) (loadsOf_length _ _), ih (by omega), hpS]
    have h1 := (hopsI_in hk (msAt hl m (by omega))).1
    omega
theorem mstN_last (L : List Int) (j : Nat) (hj : j ≤ L.length) : mstN L j = lastOf L j := by
  induction j with
  | zero => simp [mstN, lastOf]
  | succ j ih =>
    rw [lastOf_succ L j (by omega), mstN, ih (by omega)]
    split <;> omega
theorem readL_at {x : Sr} {l : List Ms} (hg : slOk x l = true) (i : Nat) (hi : i < l.length) : (readL x l).getD i 0 = (finL x l).getD i 0 + hopsI x.n l[i]! := by
  have hin := isSr_in (slOk_in hg).1
  obtain ⟨_, hall, _⟩ := areMs_in (slOk_in hg).2
  rw [finL_at x l i hi, hop_eq hin i (msAt hall i hi)]
  simp [readL, rdU, hi]
structure SgF (x : Sr) (l : List Ms) (E R : List Int) (la bn : Int) (ld : List Int) : Prop where
  n20 : l.length ≤ 20
  isr : 2 ≤ x.n ∧ x.n ≤ 12
  lenE : E.length = l.length
  lenR : R.length = l.length
  lenL : ld.length ≤ 12
  memL : ∀ y ∈ ld, 0 ≤ y ∧ y ≤ 100000
  job : ∀ i, i < l.length → 0 ≤ l[i]!.t ∧ l[i]!.t ≤ 100
  hop : ∀ i, i < l.length → hopsMs x l[i]!.t l[i]!.f l[i]!.o = (hopsI x.n l[i]!, true) ∧ 1 ≤ hopsI x.n l[i]! ∧ hopsI x.n l[i]! ≤ 11
  bnd : ∀ i, i < l.length → 0 ≤ E.getD i 0 ∧ E.getD i 0 ≤ 1000
  tick : ∀ i, i < l.length → l[i]!.t ≤ E.getD i 0
  read : ∀ i, i < l.length → R.getD i 0 = E.getD i 0 + hopsI x.n l[i]!
  ord : ∀ k i, k < i → i < l.length → l[k]!.f = l[i]!.f → E.getD k 0 < E.getD i 0
  last : mstN R R.length = la
  upto : la ≤ bn
  lastb : 0 ≤ la ∧ la ≤ 2000
  hops : hpS x.n l l.length = sumL ld
  hopb : ∀ m, m ≤ l.length → 0 ≤ hpS x.n l m ∧ hpS x.n l m ≤ 11 * (m : Int)
theorem hpS_in {x : Sr} {l : List Ms} (hin : 2 ≤ x.n ∧ x.n ≤ 12) (hall : ∀ y ∈ l, MsIn x.n y) (m : Nat) (hm : m ≤ l.length) : 0 ≤ hpS x.n l m ∧ hpS x.n l m ≤ 11 * (m : Int) := by
  induction m with
  | zero => simp [hpS]
  | succ m ih =>
    have h1 := ih (by omega)
    have h2 := hopsI_in hin.1 (msAt hall m (by omega))
    rw [hpS]
    omega
theorem one_ok {x : Sr} {y : Ms} (hx : isSr x = true) (hy : MsIn x.n y) : slOk x [⟨y.t, y.f, y.o⟩] = true := by
  obtain ⟨h1, h2, h3, h4, h5, h6, h7⟩ := hy
  simp [slOk, hx, areMs, msFrom, msOk, wi, h1, h2, h3, h4, h5, h6, h7]
theorem sgF_of {x : Sr} {l : List Ms} (hg : slOk x l = true) : SgF x l (finL x l) (readL x l) (lastOf (readL x l) l.length) (slBound x l).1 (loadsOf x.n l) := by
  have hin := isSr_in (slOk_in hg).1
  obtain ⟨hl20, hall, hso⟩ := areMs_in (slOk_in hg).2
  have hop := fun i (hi : i < l.length) => hopsI_in hin.1 (msAt hall i hi)
  have hbn : ∀ i, i < l.length → 0 ≤ (finL x l).getD i 0 ∧ (finL x l).getD i 0 < (lastT l + l.length * (x.n.toNat + 1) : Nat) := fun i hi => by
    have h1 := F_need hg i hi
    rw [finL_at x l i hi]
    exact ⟨h1.2.1, h1.2.2⟩
  have hl100 : ∀ i, i < l.length → lastT l ≤ 100 := fun i hi => (lastT_le (slOk_in hg).2 i hi).2
  have hmul : l.length * (x.n.toNat + 1) ≤ 20 * 13 := Nat.mul_le_mul hl20 (by omega)
  have hrd : ∀ i, i < l.length → 0 ≤ (readL x l).getD i 0 ∧ (readL x l).getD i 0 < (lastT l + l.length * (x.n.toNat + 1) : Nat) + x.n - 1 := fun i hi => by
    have h1 := hbn i hi
    have h2 := hop i hi
    rw [readL_at hg i hi]
    omega
  have hlast : ∀ j, j ≤ l.length → 0 ≤ lastOf (readL x l) j ∧ (lastOf (readL x l) j = 0 ∨ lastOf (readL x l) j < (lastT l + l.length * (x.n.toNat + 1) : Nat) + x.n - 1) := by
    intro j
    induction j with
    | zero => intro _; simp [lastOf]
    | succ j ih =>
      intro hj
      have h1 := ih (by omega)
      have h2 := hrd j (by omega)
      rw [lastOf_succ _ _ (by rw [readL_len]; omega)]
      omega
  refine ⟨hl20, hin, finL_len x l, readL_len x l, by rw [loadsOf_length]; omega, ?_, ?_, ?_, ?_, ?_, fun i hi => readL_at hg i hi, ?_, ?_, ?_, ?_, ?_, fun m hm => hpS_in hin hall m hm⟩
  · intro y hy
    obtain ⟨j, hj, rfl⟩ := List.getElem_of_mem hy
    have h1 := loadsOf_upto x.n l hin hall j
    rw [List.getD_eq_getElem?_getD, List.getElem?_eq_getElem hj] at h1
    simp only [Option.getD_some] at h1
    omega
  · intro i hi
    have h1 := msAt hall i hi
    exact ⟨h1.1, h1.2.1⟩
  · intro i hi
    have h1 := hop i hi
    exact ⟨hopsMs_yes (one_ok (slOk_in hg).1 (msAt hall i hi)), h1.1, by omega⟩
  · intro i hi
    have h1 := hbn i hi
    have h2 := hl100 i hi
    omega
  · intro i hi
    rw [finL_at x l i hi]
    exact fin_tick hg hi
  · intro k i hki hi hf
    rw [finL_at x l i hi, finL_at x l k (by omega)]
    exact fin_order hg hki hi hf
  · rw [mstN_last _ _ (Nat.le_refl _), readL_len]
  · have h1 := hlast l.length (Nat.le_refl _)
    rw [slBound_yes hg]
    by_cases h0 : l.length = 0
    · simp only [h0, if_true]
      rw [h0] at h1
      simp only [lastOf, List.take_zero, List.foldl_nil]
      omega
    · simp only [h0, if_false]
      have h2 : ((lastT l : Nat) : Int) = prevM l l.length := by
        unfold lastT
        have : 0 ≤ prevM l l.length := by
          obtain ⟨m, hm⟩ : ∃ m, l.length = m + 1 := ⟨l.length - 1, by omega⟩
          rw [hm, prevM]
          exact (msAt hall m (by omega)).1
        omega
      obtain ⟨n, hn⟩ : ∃ n : Nat, x.n = n := ⟨x.n.toNat, by omega⟩
      have e1 : x.n.toNat = n := by omega
      rw [e1] at h1
      rw [hn] at h1 ⊢
      have e2 : ((lastT l + l.length * (n + 1) : Nat) : Int) = (lastT l : Int) + (l.length : Int) * n + l.length := by push_cast; rw [Int.mul_add]; omega
      have e3 : 2 * (n : Int) * (l.length : Int) = (l.length : Int) * n + (l.length : Int) * n := by rw [Int.mul_comm (2 * (n : Int)), ← Int.mul_assoc, Int.mul_comm ((l.length : Int)) 2, Int.mul_assoc]; omega
      have e4 : (1 : Int) * n ≤ (l.length : Int) * n := Int.mul_le_mul_of_nonneg_right (by omega) (by omega)
      have e5 : (l.length : Int) * 2 ≤ (l.length : Int) * n := Int.mul_le_mul_of_nonneg_left (by omega) (by omega)
      have e6 : (0 : Int) ≤ prevM l l.length := by omega
      have e7 : 0 ≤ ((l.length : Int) - 1) * ((n : Int) - 1) := Int.mul_nonneg (by omega) (by omega)
      rw [Int.sub_mul, Int.mul_sub, Int.one_mul, Int.mul_one] at e7
      rw [e3, ← h2]
      rw [e2] at h1
      omega
  · have h1 := hlast l.length (Nat.le_refl _)
    by_cases h0 : l.length = 0
    · rw [h0] at h1 ⊢
      simp only [lastOf, List.take_zero, List.foldl_nil]
      omega
    · have h2 := hl100 0 (by omega)
      omega
  · have h1 := loads_sum hin.1 hall l.length (Nat.le_refl _)
    rw [List.take_length] at h1
    exact h1.symm
end Go.Proofs.Ytehmhkbiofndaaa
