/-
  BusyPeriods: both sides.
-/
import Derived.Test.YteoggoopfjkdkaaStretch
import Derived.Test.YteoggoopfjkdkaaStarts
namespace Go.Proofs.Yteoggoopfjkdkaa
open Go.RowKit
set_option maxRecDepth 100000
set_option linter.unusedVariables false

/-- What a function of lists of ints and a bool leaves. -/
def RetSB (w : World) (L : List (List Int)) (b : Bool) (e : Ending) (w' : World) : Prop := ∃ u, e = .returned (.tuple #[u, .bool b]) ∧ OS 26 3 w' w.heap.size w'.heap.size u L ∧ Below w.heap.size w w'
def RetS (w : World) (L : List (List Int)) (e : Ending) (w' : World) : Prop := ∃ u, e = .returned u ∧ OS 26 3 w' w.heap.size w'.heap.size u L ∧ Below w.heap.size w w'
theorem Rows2.total {L : List (List Int)} (h : Rows2 L) : total L = 2 * L.length := by
  induction L with
  | nil => rfl
  | cons l L ih =>
    have h1 : l.length = 2 := by simpa using h 0 (by simp)
    have h2 := ih (fun j hj => by simpa using h (j + 1) (by simp; omega))
    rw [Proofs.Yteoggoopfjkdkaa.total, h1, h2, List.length_cons]
    omega
theorem bpL_rows {js : List Jb} (hA : areJb js = true) (m : Nat) (hm : m ≤ js.length) : Rows2 (bpL js m) := (bp_is hA m hm).2.2.2
theorem bpL_len {js : List Jb} (hA : areJb js = true) (m : Nat) (hm : m ≤ js.length) : (bpL js m).length ≤ m := by
  rw [← (bp_is hA m hm).1]
  exact strL_len _ _ _ _
theorem busyOf_len (js : List Jb) : (busyOf js).1.length ≤ 1048576 ∧ total (busyOf js).1 ≤ 1048576 := by
  unfold busyOf
  split
  · rename_i h
    have h1 := bpL_len h js.length (Nat.le_refl _)
    have h2 := (bpL_rows h js.length (Nat.le_refl _)).total
    have h3 := (areJb_in h).1
    simp only
    omega
  · simp [Proofs.Yteoggoopfjkdkaa.total]
/-- The stretches of the first one first. -/
theorem stretches_first (v u : Value) (js : List Jb) (w : World) (h : RJbS w w.heap.size v js) (h' : RI w w.heap.size u (fifo js)) (hA : areJb js = true) :
    Calls Try.prog 53 #[v, u] w (RetS w (bpL js js.length)) := by
  refine (stretchesOf_any v u js (fifo js) w h h' (fifo_given hA)).mono ?_
  rintro e w1 ⟨z, d, rfl, ho, hs, hos, hb⟩
  rw [fifo_len] at ho hs hos
  obtain rfl := fifo_order hA ho hs
  rw [(bp_is hA js.length (Nat.le_refl _)).1] at hos
  exact ⟨z, rfl, hos, hb⟩
theorem bp_nil {js : List Jb} {m : Nat} (h : (bpL js m).length = 0) : bpL js (m + 1) = bpL js m ++ [[js[m]!.t, js[m]!.t + js[m]!.l]] := by
  rw [bpL, if_neg (fun h9 => by omega)]
theorem bp_yes {js : List Jb} {m K1 : Nat} (h : (bpL js m).length = K1 + 1) (h2 : js[m]!.t ≤ ((bpL js m).getD K1 []).getD 1 0) :
    bpL js (m + 1) = (bpL js m).set K1 [((bpL js m).getD K1 []).getD 0 0, ((bpL js m).getD K1 []).getD 1 0 + js[m]!.l] := by
  have e : (bpL js m).length - 1 = K1 := by omega
  rw [bpL, e, if_pos ⟨by omega, h2⟩]
theorem bp_no {js : List Jb} {m K1 : Nat} (h : (bpL js m).length = K1 + 1) (h2 : ¬ js[m]!.t ≤ ((bpL js m).getD K1 []).getD 1 0) :
    bpL js (m + 1) = bpL js m ++ [[js[m]!.t, js[m]!.t + js[m]!.l]] := by
  have e : (bpL js m).length - 1 = K1 := by omega
  rw [bpL, e, if_neg (fun h9 => h2 h9.2)]
theorem bp_end {js : List Jb} (hA : areJb js = true) {m K1 : Nat} (hm : m ≤ js.length) (h : (bpL js m).length = K1 + 1) : 0 ≤ ((bpL js m).getD K1 []).getD 1 0 ∧ ((bpL js m).getD K1 []).getD 1 0 ≤ 1400 := by
  obtain ⟨_, h2, h3, _⟩ := bp_is hA m hm
  have hn := (areJb_in hA).1
  by_cases e : m = 0
  · have := h3 e; omega
  · have h4 := (h2 (by omega)).2
    have e2 : (bpL js m).length - 1 = K1 := by omega
    rw [e2] at h4
    have := fE_bd hA m hm
    omega
end Go.Proofs.Yteoggoopfjkdkaa
