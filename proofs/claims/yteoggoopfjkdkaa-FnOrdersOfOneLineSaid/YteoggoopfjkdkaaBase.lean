/-
  The contracts of the laws' own helpers on slices of ints: a copy, an equality, marks that are laid and marks that are held.
-/
import Derived.Test.YteoggoopfjkdkaaChecked
import Derived.Test.YteoggoopfjkdkaaWords
import Derived.WalkKit
import Derived.WalkSpells
import Derived.Deep.QuietTactic
import Derived.BigQuiet
namespace Go.Proofs.Yteoggoopfjkdkaa
open Go.RowKit

theorem int_info : (Try.prog.info? 3).map (fun i => (i.zero, i.size, i.bytes)) = some (some (.int .i64 0), 1, 8) := by kernel_rfl

/-- The copy so far: k cells of l, and noughts behind them. -/
def partCopy (l : List Int) (k : Nat) : List Value := ics (l.take k) ++ List.replicate (l.length - k) (.int .i64 0)
theorem partCopy_zero (l : List Int) : partCopy l 0 = List.replicate l.length (.int .i64 0) := by simp [partCopy, ics]
theorem partCopy_all (l : List Int) : partCopy l l.length = ics l := by simp [partCopy]
theorem partCopy_succ (l : List Int) (k : Nat) (hk : k < l.length) : (partCopy l k).set k (.int .i64 (l.getD k 0)) = partCopy l (k + 1) := by
  have e : l.length - k = (l.length - (k + 1)) + 1 := by omega
  unfold partCopy
  rw [e, List.replicate_succ, List.set_append_right k _ (by simp [ics, List.length_take]; omega)]
  have h2 : k - (ics (List.take k l)).length = 0 := by simp [ics, List.length_take]; omega
  rw [h2, List.set_cons_zero]
  have h3 : ics (List.take (k + 1) l) = ics (List.take k l) ++ [.int .i64 (l.getD k 0)] := by
    have hg : l.getD k 0 = l[k] := by simp [hk]
    rw [List.take_succ_eq_append_getElem hk, hg]
    simp only [ics, List.map_append, List.map_cons, List.map_nil]
  rw [h3]
  simp

/-- The marks so far. -/
def partMark (l : List Int) (m : Int) (k : Nat) : List Value := ics (marks m k) ++ (ics l).drop k
theorem marks_succ (m : Int) (k : Nat) : marks m (k + 1) = marks m k ++ [m + k] := by
  induction k generalizing m with
  | zero => simp [marks]
  | succ k ih =>
    have e : m + 1 + (k : Int) = m + ((k + 1 : Nat) : Int) := by omega
    rw [marks, ih (m + 1), marks, e]
    rfl
theorem partMark_zero (l : List Int) (m : Int) : partMark l m 0 = ics l := by simp [partMark, marks, ics]
theorem partMark_all (l : List Int) (m : Int) : partMark l m l.length = ics (marks m l.length) := by
  unfold partMark
  rw [List.drop_of_length_le (by simp [ics])]
  simp
theorem partMark_succ (l : List Int) (m : Int) (k : Nat) (hk : k < l.length) : (partMark l m k).set k (.int .i64 (m + k)) = partMark l m (k + 1) := by
  have hd : (ics l).drop k = (ics l)[k]'(by simp [ics]; exact hk) :: (ics l).drop (k + 1) := List.drop_eq_getElem_cons _
  unfold partMark
  have h1 : (ics (marks m k)).length = k := by simp [ics, marks_length]
  rw [hd, List.set_append_right k _ (by omega)]
  have h2 : k - (ics (marks m k)).length = 0 := by omega
  rw [h2, List.set_cons_zero, marks_succ]
  simp only [ics, List.map_append, List.map_cons, List.map_nil, List.append_assoc, List.singleton_append]

end Go.Proofs.Yteoggoopfjkdkaa
