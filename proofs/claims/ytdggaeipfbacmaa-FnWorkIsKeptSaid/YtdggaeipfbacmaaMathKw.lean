/-
  What the law FnWorkIsKept goes by, put together.
-/
import Derived.Test.YtdggaeipfbacmaaMathInt
import Derived.Test.YtdggaeipfbacmaaMathKept
namespace Go.Proofs.Ytdggaeipfbacmaa
open Go.RowKit
set_option maxRecDepth 100000
set_option linter.unusedVariables false

theorem busy_snd (js : List Jb) : (busyOf js).2 = areJb js := by unfold busyOf; cases h : areJb js <;> simp
theorem pre_snd (js : List Jb) : (preOf js).2 = areJb js := by unfold preOf; cases h : areJb js <;> simp
theorem busyOf_in (js : List Jb) : (busyOf js).1.length ≤ 20 ∧ ∀ l ∈ (busyOf js).1, l.length ≤ 1048576 := by
  unfold busyOf
  split
  · rename_i hA
    refine ⟨?_, fun l hl => by rw [((bp_canon hA).1.1 l hl).1]; omega⟩
    have h1 := strL_len js (fifo js) (idx js.length) js.length
    rw [(bp_is hA js.length (Nat.le_refl _)).1] at h1
    have := (areJb_in hA).1
    simp only
    omega
  · exact ⟨by simp, fun l hl => by simp at hl⟩
theorem preOf_in (js : List Jb) : (preOf js).1.length ≤ 1048576 := by
  unfold preOf
  split
  · rename_i hA
    have := (areJb_in hA).1
    simp only [endsOf_len]
    omega
  · simp
/-- Does a row hold what starts at s, has l and ends at e otherwise? -/
def fndR (r : List Int) (s l e : Int) : Bool := decide (r.getD 0 0 ≤ s) && (decide (s + l ≤ r.getD 1 0) && (decide (e ≤ r.getD 1 0) && decide (r.getD 0 0 < e)))
def fnd (L : List (List Int)) (s l e : Int) : Nat → Bool
  | 0 => false
  | q + 1 => fnd L s l e q || fndR (L.getD q []) s l e
theorem fnd_of {L : List (List Int)} {s l e : Int} {n q : Nat} (hq : q < n) (h : fndR (L.getD q []) s l e = true) : fnd L s l e n = true := by
  induction n with
  | zero => omega
  | succ n ih =>
    rw [fnd]
    by_cases e1 : q = n
    · subst e1; rw [h, Bool.or_true]
    · rw [ih (by omega), Bool.true_or]
theorem sumP_in {js : List Jb} (hA : areJb js = true) (m : Nat) (hm : m ≤ js.length) : 0 ≤ sumP topP js m ∧ sumP topP js m ≤ 20 * (m : Int) := by
  induction m with
  | zero => simp [sumP]
  | succ m ih =>
    have h1 := ih (by omega)
    have h2 := tick_at' hA (k := m) (by omega)
    rw [sumP]
    split <;> omega
theorem totL_in {L : List (List Int)} (h : ∀ j, j < L.length → 0 ≤ (L.getD j []).getD 0 0 ∧ (L.getD j []).getD 0 0 < (L.getD j []).getD 1 0 ∧ (L.getD j []).getD 1 0 ≤ 1400) (q : Nat) (hq : q ≤ L.length) : 0 ≤ totL L q ∧ totL L q ≤ 1400 * (q : Int) := by
  induction q with
  | zero => simp [totL]
  | succ q ih =>
    have h1 := ih (by omega)
    have h2 := h q (by omega)
    rw [totL]
    omega
structure WkF (js : List Jb) (L : List (List Int)) (E T : List Int) : Prop where
  n20 : js.length ≤ 20
  l20 : L.length ≤ 20
  lenE : E.length = js.length
  lenT : T.length = js.length
  job : ∀ i, i < js.length → 0 ≤ js[i]!.t ∧ js[i]!.t ≤ 1000 ∧ 0 ≤ js[i]!.c ∧ js[i]!.c ≤ 7 ∧ 1 ≤ js[i]!.l ∧ js[i]!.l ≤ 20
  two : ∀ l ∈ L, l.length = 2
  row : ∀ j, j < L.length → 0 ≤ (L.getD j []).getD 0 0 ∧ (L.getD j []).getD 0 0 < (L.getD j []).getD 1 0 ∧ (L.getD j []).getD 1 0 ≤ 1400
  sep : ∀ r, r + 1 < L.length → (L.getD r []).getD 1 0 < (L.getD (r + 1) []).getD 0 0
  tot : totL L L.length = js.foldl (fun n x => n + x.l) 0
  tots : ∀ j, j ≤ L.length → 0 ≤ totL L j ∧ totL L j ≤ 1400 * (j : Int)
  bnd : ∀ i, i < js.length → 0 ≤ T.getD i 0 ∧ T.getD i 0 ≤ 1400 ∧ 0 ≤ E.getD i 0 ∧ E.getD i 0 ≤ 1400
  held : ∀ i, i < js.length → fnd L (T.getD i 0) js[i]!.l (E.getD i 0) L.length = true
  late : ∀ i, i < js.length → js[i]!.t + js[i]!.l ≤ E.getD i 0
  top : ∀ i, i < js.length → js[i]!.c = 7 → E.getD i 0 ≤ js[i]!.t + js[i]!.l + sumP topP js i
  ahead : ∀ i, i ≤ js.length → 0 ≤ sumP topP js i ∧ sumP topP js i ≤ 20 * (i : Int)
theorem getD_mem {α : Type} (L : List α) (d : α) (j : Nat) (hj : j < L.length) : L.getD j d ∈ L := by
  rw [List.getD_eq_getElem?_getD, List.getElem?_eq_getElem hj]; exact List.getElem_mem hj
theorem wkF_of {js : List Jb} (hA : areJb js = true) : WkF js (bpL js js.length) (endsOf js) (startsOf rkC js) := by
  obtain ⟨c1, c2⟩ := (bp_canon hA).1
  have hr := (bp_rows hA js.length (Nat.le_refl _)).1
  have hrow : ∀ j, j < (bpL js js.length).length → 0 ≤ ((bpL js js.length).getD j []).getD 0 0 ∧ ((bpL js js.length).getD j []).getD 0 0 < ((bpL js js.length).getD j []).getD 1 0 ∧ ((bpL js js.length).getD j []).getD 1 0 ≤ 1400 := fun j hj => by
    have h1 := hr j hj
    have h2 := (c1 _ (getD_mem _ [] j hj)).2
    omega
  have hs := (startsOf_busy hA rkC).1
  have hheld : ∀ i, i < js.length → ∃ q, q < (bpL js js.length).length ∧ fndR ((bpL js js.length).getD q []) ((startsOf rkC js).getD i 0) js[i]!.l ((endsOf js).getD i 0) = true := by
    intro i hi
    obtain ⟨e1, e2, _⟩ := ends_kept hA i hi
    have h1 := hs.tick i hi
    have h2 := tick_at' hA hi
    obtain ⟨r, hrm, h3, h4⟩ := bp_within hA (a := js[i]!.t) (b := max ((startsOf rkC js).getD i 0 + js[i]!.l) ((endsOf js).getD i 0)) (by omega) (fun t q1 q2 => by
      by_cases h : t < (endsOf js).getD i 0
      · exact e2 t q1 h
      · exact starts_held hA rkC i hi t q1 (by omega))
    obtain ⟨q, hq, rfl⟩ := List.getElem_of_mem hrm
    refine ⟨q, hq, ?_⟩
    have e3 : (bpL js js.length).getD q [] = (bpL js js.length)[q] := by rw [List.getD_eq_getElem?_getD, List.getElem?_eq_getElem hq]; rfl
    rw [e3]
    have h5 := hrow q hq
    rw [e3] at h5
    simp only [fndR, Bool.and_eq_true, decide_eq_true_eq]
    omega
  refine ⟨(areJb_in hA).1, ?_, endsOf_len js, startsOf_len _ _, fun i hi => tick_at' hA hi, fun l hl => (c1 l hl).1, hrow, ?_, tot_is hA, fun j hj => totL_in hrow j hj, ?_, ?_, fun i hi => (ends_kept hA i hi).1, ?_, fun i hi => sumP_in hA i hi⟩
  · have h1 := strL_len js (fifo js) (idx js.length) js.length
    rw [(bp_is hA js.length (Nat.le_refl _)).1] at h1
    have := (areJb_in hA).1
    omega
  · intro r h
    rw [List.pairwise_iff_getElem] at c2
    have h2 := c2 r (r + 1) (by omega) h (by omega)
    simpa [List.getD_eq_getElem?_getD, List.getElem?_eq_getElem h, List.getElem?_eq_getElem (by omega : r < (bpL js js.length).length)] using h2
  · intro i hi
    obtain ⟨q, hq, h⟩ := hheld i hi
    simp only [fndR, Bool.and_eq_true, decide_eq_true_eq] at h
    have h1 := hrow q hq
    have h2 := hs.zero i hi
    have h3 := tick_at' hA hi
    have h4 := (ends_kept hA i hi).1
    omega
  · intro i hi
    obtain ⟨q, hq, h⟩ := hheld i hi
    exact fnd_of hq h
  · intro i hi h7
    have h1 := (ends_kept hA i hi).2.2 h7
    rw [sumP, if_pos (show topP js[i]! = true from decide_eq_true h7)] at h1
    omega

theorem lawL_in {js : List Jb} (hA : areJb js = true) (tick : Int) (m : Nat) (hm : m ≤ js.length) : 0 ≤ lawL js tick m ∧ lawL js tick m ≤ 20 * (m : Int) := by
  induction m with
  | zero => simp [lawL]
  | succ m ih =>
    have h1 := ih (by omega)
    have h2 := tick_at' hA (k := m) (by omega)
    rw [lawL]
    unfold clI
    split <;> (try split) <;> (try split) <;> omega
structure LfF (js : List Jb) (tick left : Int) (F : List Int) : Prop where
  n20 : js.length ≤ 20
  tk : 0 ≤ tick ∧ tick ≤ 5000
  lenF : F.length = js.length
  job : ∀ i, i < js.length → 0 ≤ js[i]!.t ∧ js[i]!.t ≤ 1000 ∧ 1 ≤ js[i]!.l ∧ js[i]!.l ≤ 20 ∧ 0 ≤ F.getD i 0 ∧ F.getD i 0 ≤ 1400
  all : lawL js tick js.length = left
  sum : ∀ m, m ≤ js.length → 0 ≤ lawL js tick m ∧ lawL js tick m ≤ 20 * (m : Int)
  step : ∀ i, i < js.length → lawL js tick (i + 1) = lawL js tick i + if tick < js[i]!.t then 0 else js[i]!.l - clI (tick - F.getD i 0) js[i]!.l
theorem lfF_of {js : List Jb} {tick : Int} (h : (workOf js tick).2 = true) : firstOf js = (fifo js, true) ∧ LfF js tick (workOf js tick).1 (fifo js) := by
  cases ha : (areJb js && wi tick 0 5000)
  · simp [workOf, ha] at h
  · have ha' := ha
    simp only [Bool.and_eq_true] at ha'
    obtain ⟨hA, hw⟩ := ha'
    have ht : 0 ≤ tick ∧ tick ≤ 5000 := by simpa [wi] using hw
    refine ⟨by rw [firstOf, if_pos hA, fifo_is hA], ⟨(areJb_in hA).1, ht, fifo_len js, ?_, ?_, fun m hm => lawL_in hA tick m hm, fun i hi => by rw [lawL]⟩⟩
    · intro i hi
      have h1 := tick_at' hA hi
      have h2 := fE_bd hA (i + 1) (by omega)
      have h3 := fS_ge js i
      have h4 := (areJb_in hA).1
      rw [fE_succ] at h2
      rw [fifo_at js i hi]
      omega
    · have h1 := left_is hA tick js.length (Nat.le_refl _)
      have h2 := lawL_is hA tick js.length (Nat.le_refl _)
      rw [workOf, if_pos ha]
      rcases h1 with h1 | h1 | h1
      · rw [h2, h1]
      · omega
      · omega
end Go.Proofs.Ytdggaeipfbacmaa
