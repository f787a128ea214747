/-
  The work that is left: what both sides compute.
-/
import Derived.Test.YteoggoopfjkdkaaMathBusy
namespace Go.Proofs.Yteoggoopfjkdkaa
open Go.RowKit
set_option maxRecDepth 100000
set_option linter.unusedVariables false

def mxT (a b : Int) : Int := if b < a then a else b
/-- How many of the first m jobs have come at a tick. -/
def cT (js : List Jb) (tick : Int) : Nat → Nat
  | 0 => 0
  | m + 1 => cT js tick m + if js[m]!.t ≤ tick then 1 else 0
/-- Their work. -/
def aT (js : List Jb) (tick : Int) : Nat → Int
  | 0 => 0
  | m + 1 => aT js tick m + if js[m]!.t ≤ tick then js[m]!.l else 0
/-- How much of a stretch lies before a tick. -/
def ovl (tick : Int) (r : List Int) : Int := mxT ((if r.getD 1 0 < tick then r.getD 1 0 else tick) - r.getD 0 0) 0
def oL (tick : Int) (L : List (List Int)) : Nat → Int
  | 0 => 0
  | q + 1 => oL tick L q + ovl tick (L.getD q [])
theorem oL_congr {tick : Int} {L L' : List (List Int)} {q : Nat} (h : ∀ j, j < q → L.getD j [] = L'.getD j []) : oL tick L q = oL tick L' q := by
  induction q with
  | zero => rfl
  | succ q ih => rw [oL, oL, ih (fun j hj => h j (by omega)), h q (by omega)]
theorem oL_push (tick : Int) (L : List (List Int)) (x : List Int) : oL tick (L ++ [x]) (L ++ [x]).length = oL tick L L.length + ovl tick x := by
  have e : (L ++ [x]).length = L.length + 1 := by simp
  rw [e, oL]
  congr 1
  · exact oL_congr fun j hj => by simp only [List.getD_eq_getElem?_getD]; rw [List.getElem?_append_left hj]
  · simp
theorem oL_set (tick : Int) {L : List (List Int)} {K1 : Nat} (hK : L.length = K1 + 1) (x : List Int) : oL tick (L.set K1 x) (L.set K1 x).length + ovl tick (L.getD K1 []) = oL tick L L.length + ovl tick x := by
  rw [List.length_set, hK, oL, oL]
  have h1 : oL tick (L.set K1 x) K1 = oL tick L K1 := oL_congr fun j hj => by
    simp only [List.getD_eq_getElem?_getD]
    rw [List.getElem?_set_ne (by omega)]
  have h2 : (L.set K1 x).getD K1 [] = x := by
    simp only [List.getD_eq_getElem?_getD, List.getElem?_set]
    simp [hK]
  rw [h1, h2]
  omega
/-- What is known of the stretches of the first m. -/
theorem bp_rows {js : List Jb} (hA : areJb js = true) (m : Nat) (hm : m ≤ js.length) :
    (∀ j, j < (bpL js m).length → 0 ≤ ((bpL js m).getD j []).getD 0 0 ∧ ((bpL js m).getD j []).getD 0 0 ≤ 1000 ∧ 0 ≤ ((bpL js m).getD j []).getD 1 0 ∧ ((bpL js m).getD j []).getD 1 0 ≤ 1400) ∧
    (∀ p, m = p + 1 → ((bpL js m).getD ((bpL js m).length - 1) []).getD 0 0 ≤ js[p]!.t ∧ 0 < (bpL js m).length) := by
  induction m with
  | zero => exact ⟨fun j hj => by simp [bpL] at hj, fun p hp => by omega⟩
  | succ m ih =>
    obtain ⟨h1, h2⟩ := ih (by omega)
    have hlt : m < js.length := by omega
    have tk := tick_at' hA hlt
    have hn := (areJb_in hA).1
    obtain ⟨_, b2, b3, _⟩ := bp_is hA m (by omega)
    have hE := fE_bd hA m (by omega)
    rw [bpL]
    split
    · rename_i hc
      have hKl : (bpL js m).length - 1 < (bpL js m).length := by omega
      have hmp : 0 < m := by
        rcases Nat.eq_zero_or_pos m with h9 | h9
        · have := b3 h9; omega
        · exact h9
      have hle := (b2 hmp).2
      have hr := h1 _ hKl
      constructor
      · intro j hj
        rw [List.length_set] at hj
        by_cases e : (bpL js m).length - 1 = j
        · subst e
          have e2 : ((bpL js m).set ((bpL js m).length - 1) [((bpL js m).getD ((bpL js m).length - 1) []).getD 0 0, ((bpL js m).getD ((bpL js m).length - 1) []).getD 1 0 + js[m]!.l]).getD ((bpL js m).length - 1) [] = [((bpL js m).getD ((bpL js m).length - 1) []).getD 0 0, ((bpL js m).getD ((bpL js m).length - 1) []).getD 1 0 + js[m]!.l] := by
            simp only [List.getD_eq_getElem?_getD, List.getElem?_set]
            simp [hKl]
          rw [e2]
          show 0 ≤ ((bpL js m).getD ((bpL js m).length - 1) []).getD 0 0 ∧ ((bpL js m).getD ((bpL js m).length - 1) []).getD 0 0 ≤ 1000 ∧ 0 ≤ ((bpL js m).getD ((bpL js m).length - 1) []).getD 1 0 + js[m]!.l ∧ ((bpL js m).getD ((bpL js m).length - 1) []).getD 1 0 + js[m]!.l ≤ 1400
          rw [hle]
          omega
        · have e2 : ((bpL js m).set ((bpL js m).length - 1) [((bpL js m).getD ((bpL js m).length - 1) []).getD 0 0, ((bpL js m).getD ((bpL js m).length - 1) []).getD 1 0 + js[m]!.l]).getD j [] = (bpL js m).getD j [] := by
            simp only [List.getD_eq_getElem?_getD]
            rw [List.getElem?_set_ne e]
          rw [e2]
          exact h1 j hj
      · intro p hp
        obtain rfl : m = p := by omega
        rw [last_set hc.1, List.length_set]
        obtain ⟨q, hq⟩ : ∃ q, m = q + 1 := ⟨m - 1, by omega⟩
        have := (h2 q hq).1
        have hm2 := tick_mono' hA (i := q) (j := m) (by omega) hlt
        refine ⟨?_, hc.1⟩
        show ((bpL js m).getD ((bpL js m).length - 1) []).getD 0 0 ≤ js[m]!.t
        omega
    · constructor
      · intro j hj
        simp only [List.length_append, List.length_singleton] at hj
        by_cases e : j < (bpL js m).length
        · have e2 : (bpL js m ++ [[js[m]!.t, js[m]!.t + js[m]!.l]]).getD j [] = (bpL js m).getD j [] := by
            simp only [List.getD_eq_getElem?_getD]
            rw [List.getElem?_append_left e]
          rw [e2]
          exact h1 j e
        · obtain rfl : j = (bpL js m).length := by omega
          have e2 : (bpL js m ++ [[js[m]!.t, js[m]!.t + js[m]!.l]]).getD (bpL js m).length [] = [js[m]!.t, js[m]!.t + js[m]!.l] := by simp
          rw [e2]
          show 0 ≤ js[m]!.t ∧ js[m]!.t ≤ 1000 ∧ 0 ≤ js[m]!.t + js[m]!.l ∧ js[m]!.t + js[m]!.l ≤ 1400
          omega
      · intro p hp
        obtain rfl : m = p := by omega
        rw [last_push]
        exact ⟨Int.le_refl _, by simp⟩
theorem cT_le (js : List Jb) (tick : Int) (m : Nat) : cT js tick m ≤ m := by
  induction m with
  | zero => simp [cT]
  | succ m ih => rw [cT]; split <;> omega
/-- Those that have come stand first. -/
theorem cT_pre {js : List Jb} (hA : areJb js = true) (tick : Int) (m : Nat) (hm : m < js.length) (h : js[m]!.t ≤ tick) : cT js tick m = m := by
  induction m with
  | zero => rfl
  | succ m ih =>
    have h1 := tick_mono' hA (i := m) (j := m + 1) (by omega) hm
    rw [cT, ih (by omega) (by omega), if_pos (by omega)]
theorem aT_bd {js : List Jb} (hA : areJb js = true) (tick : Int) (m : Nat) (hm : m ≤ js.length) : 0 ≤ aT js tick m ∧ aT js tick m ≤ 20 * m := by
  induction m with
  | zero => simp [aT]
  | succ m ih =>
    have h1 := ih (by omega)
    have h2 := tick_at' hA (k := m) (by omega)
    rw [aT]
    split <;> omega
def mx0 (x : Int) : Int := if 0 < x then x else 0
/-- The work that has come less that which is done. -/
theorem work_is {js : List Jb} (hA : areJb js = true) {tick : Int} (ht : 0 ≤ tick) (m : Nat) (hm : m ≤ js.length) :
    aT js tick m - oL tick (bpL js m) (bpL js m).length = mx0 (fE js (cT js tick m) - tick) := by
  induction m with
  | zero => simp [aT, oL, bpL, cT, fE, mx0]; omega
  | succ m ih =>
    have h0 := ih (by omega)
    have hlt : m < js.length := by omega
    have tk := tick_at' hA hlt
    obtain ⟨_, b2, b3, b4⟩ := bp_is hA m (by omega)
    obtain ⟨r1, r2⟩ := bp_rows hA m (by omega)
    rw [aT, cT]
    by_cases hc : js[m]!.t ≤ tick
    · rw [if_pos hc, if_pos hc, cT_pre hA tick m hlt hc, fE_succ]
      rw [cT_pre hA tick m hlt hc] at h0
      by_cases hK : 0 < (bpL js m).length ∧ js[m]!.t ≤ ((bpL js m).getD ((bpL js m).length - 1) []).getD 1 0
      · have hmp : 0 < m := by
          rcases Nat.eq_zero_or_pos m with h9 | h9
          · have := b3 h9; omega
          · exact h9
        have hle := (b2 hmp).2
        have hfs : fS js m = fE js m := by unfold fS; rw [if_neg (by have := hK.2; rw [hle] at this; omega)]
        have e1 : bpL js (m + 1) = (bpL js m).set ((bpL js m).length - 1) [((bpL js m).getD ((bpL js m).length - 1) []).getD 0 0, ((bpL js m).getD ((bpL js m).length - 1) []).getD 1 0 + js[m]!.l] := by rw [bpL, if_pos hK]
        have e2 := oL_set tick (L := bpL js m) (K1 := (bpL js m).length - 1) (by omega) [((bpL js m).getD ((bpL js m).length - 1) []).getD 0 0, ((bpL js m).getD ((bpL js m).length - 1) []).getD 1 0 + js[m]!.l]
        rw [← e1] at e2
        obtain ⟨q, hq⟩ : ∃ q, m = q + 1 := ⟨m - 1, by omega⟩
        have hs := (r2 q hq).1
        have hmn := tick_mono' hA (i := q) (j := m) (by omega) hlt
        have hE0 : ((bpL js m).getD ((bpL js m).length - 1) []).getD 1 0 = fE js m := hle
        have hsE : js[m]!.t ≤ fE js m := by rw [← hle]; exact hK.2
        rw [hfs]
        generalize (bpL js m).getD ((bpL js m).length - 1) [] = row at *
        have eo1 : ovl tick row = mxT ((if fE js m < tick then fE js m else tick) - row.getD 0 0) 0 := by unfold ovl; rw [hE0]
        have eo2 : ovl tick [row.getD 0 0, row.getD 1 0 + js[m]!.l] = mxT ((if fE js m + js[m]!.l < tick then fE js m + js[m]!.l else tick) - row.getD 0 0) 0 := by unfold ovl; rw [hE0]; rfl
        rw [eo1, eo2] at e2
        unfold mxT at e2
        unfold mx0 at h0 ⊢
        generalize row.getD 0 0 = s0 at *
        (repeat' split at e2) <;> (repeat' split at h0) <;> (repeat' split) <;> omega
      · have e1 : bpL js (m + 1) = bpL js m ++ [[js[m]!.t, js[m]!.t + js[m]!.l]] := by rw [bpL, if_neg hK]
        have e2 := oL_push tick (bpL js m) [js[m]!.t, js[m]!.t + js[m]!.l]
        rw [← e1] at e2
        have hfs : fS js m = js[m]!.t := by
          by_cases hm0 : m = 0
          · unfold fS
            subst hm0
            have : fE js 0 = 0 := rfl
            rw [this]
            split <;> omega
          · obtain ⟨hp, hl⟩ := b2 (by omega)
            rw [hl] at hK
            unfold fS
            rw [if_pos (by omega)]
        have hfe : fE js m ≤ js[m]!.t := by have := (fS_ge js m).2; omega
        have eo : ovl tick [js[m]!.t, js[m]!.t + js[m]!.l] = mxT ((if js[m]!.t + js[m]!.l < tick then js[m]!.t + js[m]!.l else tick) - js[m]!.t) 0 := rfl
        rw [eo] at e2
        unfold mxT at e2
        rw [hfs]
        unfold mx0 at h0 ⊢
        (repeat' split at e2) <;> (repeat' split at h0) <;> (repeat' split) <;> omega
    · rw [if_neg hc, if_neg hc, Int.add_zero]
      show aT js tick m - oL tick (bpL js (m + 1)) (bpL js (m + 1)).length = mx0 (fE js (cT js tick m) - tick)
      rw [← h0]
      congr 1
      by_cases hK : 0 < (bpL js m).length ∧ js[m]!.t ≤ ((bpL js m).getD ((bpL js m).length - 1) []).getD 1 0
      · have e1 : bpL js (m + 1) = (bpL js m).set ((bpL js m).length - 1) [((bpL js m).getD ((bpL js m).length - 1) []).getD 0 0, ((bpL js m).getD ((bpL js m).length - 1) []).getD 1 0 + js[m]!.l] := by rw [bpL, if_pos hK]
        have e2 := oL_set tick (L := bpL js m) (K1 := (bpL js m).length - 1) (by omega) [((bpL js m).getD ((bpL js m).length - 1) []).getD 0 0, ((bpL js m).getD ((bpL js m).length - 1) []).getD 1 0 + js[m]!.l]
        rw [← e1] at e2
        have hk2 := hK.2
        generalize (bpL js m).getD ((bpL js m).length - 1) [] = row at *
        have eo1 : ovl tick row = mxT ((if row.getD 1 0 < tick then row.getD 1 0 else tick) - row.getD 0 0) 0 := rfl
        have eo2 : ovl tick [row.getD 0 0, row.getD 1 0 + js[m]!.l] = mxT ((if row.getD 1 0 + js[m]!.l < tick then row.getD 1 0 + js[m]!.l else tick) - row.getD 0 0) 0 := rfl
        rw [eo1, eo2, if_neg (by omega), if_neg (by omega)] at e2
        omega
      · have e1 : bpL js (m + 1) = bpL js m ++ [[js[m]!.t, js[m]!.t + js[m]!.l]] := by rw [bpL, if_neg hK]
        have e2 := oL_push tick (bpL js m) [js[m]!.t, js[m]!.t + js[m]!.l]
        rw [← e1] at e2
        have eo : ovl tick [js[m]!.t, js[m]!.t + js[m]!.l] = 0 := by
          have : ovl tick [js[m]!.t, js[m]!.t + js[m]!.l] = mxT ((if js[m]!.t + js[m]!.l < tick then js[m]!.t + js[m]!.l else tick) - js[m]!.t) 0 := rfl
          rw [this, if_neg (by omega)]
          unfold mxT
          rw [if_neg (by omega)]
        rw [eo] at e2
        omega
def workOf (js : List Jb) (tick : Int) : Int × Bool := if areJb js && wi tick 0 5000 then (mx0 (fE js (cT js tick js.length) - tick), true) else (0, false)
theorem ovl_bd {tick : Int} {r : List Int} (ht : 0 ≤ tick ∧ tick ≤ 5000) (h : 0 ≤ r.getD 0 0 ∧ r.getD 0 0 ≤ 1000 ∧ 0 ≤ r.getD 1 0 ∧ r.getD 1 0 ≤ 1400) : 0 ≤ ovl tick r ∧ ovl tick r ≤ 5000 := by
  unfold ovl mxT
  split <;> split <;> omega
theorem oL_bd {tick : Int} {L : List (List Int)} (ht : 0 ≤ tick ∧ tick ≤ 5000) (h : ∀ j, j < L.length → 0 ≤ (L.getD j []).getD 0 0 ∧ (L.getD j []).getD 0 0 ≤ 1000 ∧ 0 ≤ (L.getD j []).getD 1 0 ∧ (L.getD j []).getD 1 0 ≤ 1400) (q : Nat) (hq : q ≤ L.length) : 0 ≤ oL tick L q ∧ oL tick L q ≤ 5000 * q := by
  induction q with
  | zero => simp [oL]
  | succ q ih =>
    have h1 := ih (by omega)
    have h2 := ovl_bd ht (h q (by omega))
    rw [oL]
    omega
/-- The tick of the last one of those that have come. -/
def lastT (js : List Jb) : Nat → Int
  | 0 => 0
  | m + 1 => js[m]!.t
end Go.Proofs.Yteoggoopfjkdkaa
