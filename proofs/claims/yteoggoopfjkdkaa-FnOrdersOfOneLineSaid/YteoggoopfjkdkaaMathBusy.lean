/-
  The first one first: starts, stretches, work; what both sides compute.
-/
import Derived.Test.YteoggoopfjkdkaaMathLine
import Derived.Test.YteoggoopfjkdkaaMathSched
namespace Go.Proofs.Yteoggoopfjkdkaa
open Go.RowKit
set_option maxRecDepth 100000
set_option linter.unusedVariables false

theorem tick_at' {js : List Jb} (hA : areJb js = true) {k : Nat} (hk : k < js.length) : 0 ≤ js[k]!.t ∧ js[k]!.t ≤ 1000 ∧ 0 ≤ js[k]!.c ∧ js[k]!.c ≤ 7 ∧ 1 ≤ js[k]!.l ∧ js[k]!.l ≤ 20 := by
  rw [getElem!_pos js k hk]
  have := (areJb_in hA).2.1 _ (List.getElem_mem hk)
  omega
theorem tick_mono' {js : List Jb} (hA : areJb js = true) {i j : Nat} (hij : i ≤ j) (hj : j < js.length) : js[i]!.t ≤ js[j]!.t := by
  by_cases e : i = j
  · rw [e]; exact Int.le_refl _
  · have hp := (areJb_in hA).2.2
    rw [List.pairwise_iff_getElem] at hp
    have := hp i j (by omega) hj (by omega)
    rw [getElem!_pos js i (by omega), getElem!_pos js j hj]
    exact this
/-- The tick at which the line is free behind the first m jobs. -/
def fE (js : List Jb) : Nat → Int
  | 0 => 0
  | m + 1 => (if fE js m < js[m]!.t then js[m]!.t else fE js m) + js[m]!.l
/-- The start of job m. -/
def fS (js : List Jb) (m : Nat) : Int := if fE js m < js[m]!.t then js[m]!.t else fE js m
theorem fE_succ (js : List Jb) (m : Nat) : fE js (m + 1) = fS js m + js[m]!.l := rfl
theorem fS_ge (js : List Jb) (m : Nat) : js[m]!.t ≤ fS js m ∧ fE js m ≤ fS js m := by unfold fS; split <;> omega
theorem fE_bd {js : List Jb} (hA : areJb js = true) (m : Nat) (hm : m ≤ js.length) : 0 ≤ fE js m ∧ fE js m ≤ 1000 + 20 * m := by
  induction m with
  | zero => simp [fE]
  | succ m ih =>
    have h1 := ih (by omega)
    have h2 := tick_at' hA (k := m) (by omega)
    rw [fE_succ]
    unfold fS
    split <;> omega
theorem fS_bd {js : List Jb} (hA : areJb js = true) (m : Nat) (hm : m < js.length) : 0 ≤ fS js m ∧ fS js m ≤ 1000 + 20 * m := by
  have h1 := fE_bd hA m (by omega)
  have h2 := tick_at' hA hm
  unfold fS
  split <;> omega
theorem fE_mono {js : List Jb} (hA : areJb js = true) {i j : Nat} (hij : i ≤ j) (hj : j ≤ js.length) : fE js i ≤ fE js j := by
  induction j with
  | zero => have : i = 0 := by omega
            rw [this]; exact Int.le_refl _
  | succ j ih =>
    by_cases e : i = j + 1
    · rw [e]; exact Int.le_refl _
    · have h1 := ih (by omega) (by omega)
      have h2 := tick_at' hA (k := j) (by omega)
      have h3 := fS_ge js j
      rw [fE_succ]
      omega
theorem fS_lt {js : List Jb} (hA : areJb js = true) {i j : Nat} (hij : i < j) (hj : j < js.length) : fS js i + js[i]!.l ≤ fS js j := by
  have h1 := fE_mono hA (i := i + 1) (j := j) (by omega) (by omega)
  have h2 := fS_ge js j
  rw [fE_succ] at h1
  omega
def fifo (js : List Jb) : List Int := (List.range js.length).map (fS js)
theorem fifo_len (js : List Jb) : (fifo js).length = js.length := by simp [fifo]
theorem fifo_at (js : List Jb) (k : Nat) (hk : k < js.length) : (fifo js).getD k 0 = fS js k := by simp [fifo, hk]
/-- What is left behind m jobs. -/
def lzJ (js : List Jb) (m : Nat) : List Jb := (List.range js.length).map fun i => if i < m then jbZ else js[i]!
def omJ (js : List Jb) (m : Nat) : List Int := (List.range js.length).map fun i => if i < m then fS js i else 0
theorem lzJ_at (js : List Jb) (m k : Nat) (hk : k < js.length) : (lzJ js m)[k]! = if k < m then jbZ else js[k]! := by
  rw [getElem!_pos _ _ (by simp [lzJ]; exact hk)]
  simp [lzJ]
theorem lzJ_set (js : List Jb) (m : Nat) (hm : m < js.length) : (lzJ js m).set m jbZ = lzJ js (m + 1) := by
  apply List.ext_getElem (by simp [lzJ])
  intro i h1 h2
  simp only [lzJ, List.length_map, List.length_range] at h2
  simp only [lzJ, List.getElem_set, List.getElem_map, List.getElem_range]
  by_cases e : m = i
  · subst e; simp
  · rw [if_neg e]
    by_cases e2 : i < m
    · rw [if_pos e2, if_pos (by omega)]
    · rw [if_neg e2, if_neg (by omega)]
theorem omJ_set (js : List Jb) (m : Nat) (hm : m < js.length) : (omJ js m).set m (fS js m) = omJ js (m + 1) := by
  apply List.ext_getElem (by simp [omJ])
  intro i h1 h2
  simp only [omJ, List.length_map, List.length_range] at h2
  simp only [omJ, List.getElem_set, List.getElem_map, List.getElem_range]
  by_cases e : m = i
  · subst e; simp
  · rw [if_neg e]
    by_cases e2 : i < m
    · rw [if_pos e2, if_pos (by omega)]
    · rw [if_neg e2, if_neg (by omega)]
theorem lzJ_zero (js : List Jb) : lzJ js 0 = js := by
  apply List.ext_getElem (by simp [lzJ])
  intro i h1 h2
  simp [lzJ, h2]
theorem omJ_zero (js : List Jb) : omJ js 0 = List.replicate js.length 0 := by
  apply List.ext_getElem (by simp [omJ])
  intro i h1 h2
  simp [omJ]
theorem omJ_all (js : List Jb) : omJ js js.length = fifo js := by
  apply List.ext_getElem (by simp [omJ, fifo])
  intro i h1 h2
  simp only [omJ, List.length_map, List.length_range] at h1
  simp only [omJ, fifo, List.getElem_map, List.getElem_range]
  rw [if_pos h1]
theorem fifo_is {js : List Jb} (hA : areJb js = true) : startsOf rk0 js = fifo js := by
  have key : ∀ m, m ≤ js.length → runL rk0 (js.length - m) (fE js m) (lzJ js m) (omJ js m) = startsOf rk0 js := by
    intro m
    induction m with
    | zero => intro _; rw [lzJ_zero, omJ_zero]; rfl
    | succ m ih =>
      intro hm
      have hlt : m < js.length := by omega
      rw [← ih (by omega)]
      have hf : js.length - m = (js.length - (m + 1)) + 1 := by omega
      have hll : (lzJ js m).length = js.length := by simp [lzJ]
      have hat : (lzJ js m)[m]! = js[m]! := by rw [lzJ_at js m m hlt, if_neg (by omega)]
      have tk := tick_at' hA hlt
      have hj : isJ (lzJ js m)[m]! = true := by rw [hat]; exact isJ_ok tk.2.2.2.2.1
      have hno : ∀ j, j < m → isJ (lzJ js m)[j]! = false := fun j hj => by rw [lzJ_at js m j (by omega), if_pos hj]; exact isJ_zero
      have hT : tickOf (fE js m) (lzJ js m) = fS js m := by
        rw [tickOf_at (by rw [hll]; exact hlt) hj hno, hat]
        rfl
      have hpk : pickOf (rk0 (fS js m)) (fS js m) (lzJ js m) = some m := by
        unfold pickOf
        refine bestOf_first (by rw [hll]; exact hlt) (isW_t.2 ⟨hj, by rw [hat]; exact (fS_ge js m).1⟩) (fun j hj2 => ?_)
        have := hno j hj2
        simp only [isW, this, Bool.false_and]
      rw [hf, runL_step (by rw [hT]; exact hpk), hT, hat, lzJ_set js m hlt, omJ_set js m hlt]
      rfl
  have h := key js.length (Nat.le_refl _)
  rw [Nat.sub_self, omJ_all] at h
  exact h.symm
theorem fifo_given {js : List Jb} (hA : areJb js = true) : givenB js (fifo js) = true := by
  have hn := (areJb_in hA).1
  have hok : okAll 0 5000 (fifo js) = true := okAll_of fun j hj => by
    rw [fifo_len] at hj
    rw [fifo_at js j hj]
    have := fS_bd hA j hj
    omega
  simp [givenB, hA, fifo_len, hok]
theorem fifo_order {js : List Jb} (hA : areJb js = true) {d : List Int} (ho : Order js.length d) (hs : Srt (fifo js) d js.length) : d = idx js.length := by
  refine order_one (ss := fifo js) ho (order_idx _) hs ?_ ?_
  · intro p q hpq hq
    rw [idx_getD _ _ (by omega), idx_getD _ _ hq, sk_nat, sk_nat, fifo_at js p (by omega), fifo_at js q hq]
    have h1 := fS_lt hA hpq hq
    have h2 := tick_at' hA (k := p) (by omega)
    omega
  · intro i k hi hk e
    rw [fifo_at js i hi, fifo_at js k hk] at e
    rcases Nat.lt_trichotomy i k with h9 | h9 | h9
    · have h1 := fS_lt hA h9 hk
      have h2 := tick_at' hA (k := i) hi
      omega
    · exact h9
    · have h1 := fS_lt hA h9 hi
      have h2 := tick_at' hA (k := k) hk
      omega
/-- A stretch is added. -/
def addR (L : List (List Int)) (s e : Int) : List (List Int) :=
  if 0 < L.length ∧ (L.getD (L.length - 1) []).getD 1 0 = s then L.set (L.length - 1) ((L.getD (L.length - 1) []).set 1 e) else L ++ [[s, e]]
/-- The stretches of the first m along an order. -/
def strL (js : List Jb) (ss d : List Int) : Nat → List (List Int)
  | 0 => []
  | m + 1 => addR (strL js ss d m) (sk ss (d.getD m 0)) (sk ss (d.getD m 0) + js[(d.getD m 0).toNat]!.l)
def Rows2 (L : List (List Int)) : Prop := ∀ j, j < L.length → (L.getD j []).length = 2
theorem addR_rows {L : List (List Int)} (h : Rows2 L) (s e : Int) : Rows2 (addR L s e) := by
  unfold addR
  split
  · rename_i hc
    intro j hj
    rw [List.length_set] at hj
    have h1 := h j hj
    simp only [List.getD_eq_getElem?_getD, List.getElem?_set]
    by_cases e2 : L.length - 1 = j
    · subst e2
      have h2 := h (L.length - 1) hj
      simp only [List.getD_eq_getElem?_getD, List.getElem?_eq_getElem hj, Option.getD_some] at h2
      simp [hj, h2]
    · simp only [List.getD_eq_getElem?_getD] at h1
      simp [e2, h1]
  · intro j hj
    simp only [List.length_append, List.length_singleton] at hj
    by_cases e2 : j < L.length
    · have := h j e2
      simp only [List.getD_eq_getElem?_getD] at this ⊢
      rw [List.getElem?_append_left e2]
      exact this
    · obtain rfl : j = L.length := by omega
      simp
theorem addR_len (L : List (List Int)) (s e : Int) : L.length ≤ (addR L s e).length ∧ (addR L s e).length ≤ L.length + 1 := by
  unfold addR; split <;> simp
theorem strL_rows (js : List Jb) (ss d : List Int) (m : Nat) : Rows2 (strL js ss d m) := by
  induction m with
  | zero => intro j hj; simp [strL] at hj
  | succ m ih => exact addR_rows ih _ _
theorem strL_len (js : List Jb) (ss d : List Int) (m : Nat) : (strL js ss d m).length ≤ m := by
  induction m with
  | zero => simp [strL]
  | succ m ih =>
    have := (addR_len (strL js ss d m) (sk ss (d.getD m 0)) (sk ss (d.getD m 0) + js[(d.getD m 0).toNat]!.l)).2
    rw [strL]
    omega
/-- The stretches as the model makes them. -/
def bpL (js : List Jb) : Nat → List (List Int)
  | 0 => []
  | m + 1 => if 0 < (bpL js m).length ∧ js[m]!.t ≤ ((bpL js m).getD ((bpL js m).length - 1) []).getD 1 0
      then (bpL js m).set ((bpL js m).length - 1) [((bpL js m).getD ((bpL js m).length - 1) []).getD 0 0, ((bpL js m).getD ((bpL js m).length - 1) []).getD 1 0 + js[m]!.l]
      else bpL js m ++ [[js[m]!.t, js[m]!.t + js[m]!.l]]
theorem two_list {l : List Int} (h : l.length = 2) (e : Int) : l.set 1 e = [l.getD 0 0, e] := by
  match l, h with
  | [a, b], _ => rfl
theorem last_set {L : List (List Int)} (h : 0 < L.length) (x : List Int) : (L.set (L.length - 1) x).getD ((L.set (L.length - 1) x).length - 1) [] = x := by
  rw [List.length_set]
  simp only [List.getD_eq_getElem?_getD, List.getElem?_set]
  have : L.length - 1 < L.length := by omega
  simp [this]
theorem last_push (L : List (List Int)) (x : List Int) : (L ++ [x]).getD ((L ++ [x]).length - 1) [] = x := by
  have : (L ++ [x]).length - 1 = L.length := by simp
  rw [this]
  simp
theorem bp_is {js : List Jb} (hA : areJb js = true) (m : Nat) (hm : m ≤ js.length) :
    strL js (fifo js) (idx js.length) m = bpL js m ∧ (0 < m → 0 < (bpL js m).length ∧ ((bpL js m).getD ((bpL js m).length - 1) []).getD 1 0 = fE js m) ∧ (m = 0 → (bpL js m).length = 0) ∧ Rows2 (bpL js m) := by
  induction m with
  | zero => exact ⟨rfl, fun h => absurd h (by omega), fun _ => rfl, fun j hj => by simp [bpL] at hj⟩
  | succ m ih =>
    obtain ⟨h1, h2, h3, h4⟩ := ih (by omega)
    have hlt : m < js.length := by omega
    have e1 : sk (fifo js) ((idx js.length).getD m 0) = fS js m := by rw [idx_getD _ _ hlt, sk_nat, fifo_at js m hlt]
    have e2 : ((idx js.length).getD m 0).toNat = m := by rw [idx_getD _ _ hlt]; rfl
    have heq : strL js (fifo js) (idx js.length) (m + 1) = bpL js (m + 1) ∧ 0 < (bpL js (m + 1)).length ∧ ((bpL js (m + 1)).getD ((bpL js (m + 1)).length - 1) []).getD 1 0 = fE js (m + 1) := by
      rw [strL, e1, e2, h1]
      by_cases hm0 : m = 0
      · have hl0 := h3 hm0
        unfold addR
        rw [bpL, if_neg (by omega), if_neg (by omega)]
        have tk := tick_at' hA hlt
        have hfs : fS js m = js[m]!.t := by
          unfold fS
          subst hm0
          have : fE js 0 = 0 := rfl
          rw [this]
          split
          · rfl
          · omega
        refine ⟨by rw [hfs], by simp, ?_⟩
        rw [last_push, fE_succ, hfs]
        rfl
      · obtain ⟨hp, hl⟩ := h2 (by omega)
        unfold addR
        rw [bpL, hl]
        have h2len := h4 _ (show (bpL js m).length - 1 < (bpL js m).length by omega)
        by_cases ht : js[m]!.t ≤ fE js m
        · have hfs : fS js m = fE js m := by unfold fS; rw [if_neg (by omega)]
          rw [if_pos ⟨hp, hfs.symm⟩, if_pos ⟨hp, ht⟩, two_list h2len, hfs]
          refine ⟨rfl, by rw [List.length_set]; exact hp, ?_⟩
          rw [last_set hp, fE_succ, hfs]
          rfl
        · have hfs : fS js m = js[m]!.t := by unfold fS; rw [if_pos (by omega)]
          rw [if_neg (by omega), if_neg (by omega), hfs]
          refine ⟨rfl, by simp, ?_⟩
          rw [last_push, fE_succ, hfs]
          rfl
    refine ⟨heq.1, fun _ => heq.2, fun h => by omega, ?_⟩
    rw [← heq.1]
    exact strL_rows _ _ _ _
def busyOf (js : List Jb) : List (List Int) × Bool := if areJb js then (bpL js js.length, true) else ([], false)
end Go.Proofs.Yteoggoopfjkdkaa
