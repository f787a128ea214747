/-
  The contracts of the laws' own helpers on slices of ints: a copy, an equality, marks that are laid and marks that are held.
-/
import Derived.Test.YtmghhhceemmdpaaChecked
import Derived.Test.YtmghhhceemmdpaaWords
import Derived.WalkKit
import Derived.WalkSpells
import Derived.Deep.QuietTactic
import Derived.BigQuiet
namespace Go.Proofs.Ytmghhhceemmdpaa
open Go.RowKit

theorem int_info : (Try.prog.info? 3).map (fun i => (i.zero, i.size, i.bytes)) = some (some (.int .i64 0), 1, 8) := by kernel_rfl

/-- The copy so far: k cells of l, and noughts behind them. -/
def partCopy (l : List Int) (k : Nat) : List Value := ics (l.take k) ++ List.replicate (l.length - k) (.int .i64 0)
theorem partCopy_zero (l : List Int) : partCopy l 0 = List.replicate l.length (.int .i64 0) := by simp [partCopy, ics]
theorem partCopy_all (l : List Int) : partCopy l l.length = ics l := by simp [partCopy]
theorem partCopy_succ (l : List Int) (k : Nat) (hk : k < l.length) : (partCopy l k).set k (.int .i64 (l.getD k 0)) = partCopy l (k + 1) := by
  have e : l.length - k = (l.length - (k + 1)) + 1 := by omega
  unfold partCopy
  rw [e, List.replicate_succ, List.set_append_right k _ (by simp [ics, List.length_take]; omega)]
  have h2 : k - (ics (List.take k l)).length = 0 := by simp [ics, List.length_take]; omega
  rw [h2, List.set_cons_zero]
  have h3 : ics (List.take (k + 1) l) = ics (List.take k l) ++ [.int .i64 (l.getD k 0)] := by
    have hg : l.getD k 0 = l[k] := by simp [hk]
    rw [List.take_succ_eq_append_getElem hk, hg]
    simp only [ics, List.map_append, List.map_cons, List.map_nil]
  rw [h3]
  simp

set_option maxHeartbeats 400000 in
theorem toIntS_any (v : Value) (l : List Int) (w : World) (h : RI w w.heap.size v l) (hn : l.length ≤ 1048576) :
    Calls Try.prog 33 #[v] w (RetL 3 w l) := by
  obtain ⟨A, c, rfl, hlc, hc⟩ := h
  obtain ⟨i0, hi, hz0, hz1, hz2⟩ := info_parts int_info
  go_enter Try.func33, Try.ntmps33
  go_wp2_with (at_make; refine wpList_make_full _ rfl _ _ 22 rfl w.heap.size 3 i0 _ 1 Try.underlying22 hi hz0 hz1 _ _ _ _ l.length rfl rfl rfl rfl (by rw [hz2]; omega) (by unfold maxLen; omega) (Nat.le_refl _) ?_; intro w1 hown hg)
  have hown1 : w1.ownsRow w.heap.size 3 1 (.slice (some ⟨w.heap.size, 0, none⟩) l.length l.length) l.length (partCopy l 0) := by
    rw [partCopy_zero, ← toList_madeCells_one]
    have h1 : (Value.int IntKind.i64 0).cells = #[Value.int IntKind.i64 0] := rfl
    rw [Nat.mul_one, h1] at hown
    exact hown
  have hb1 : Below w.heap.size w w1 := (Below.refl _ _).grown hg (Nat.le_refl _) (by intro k hk; cases hk)
  have hn' : (l.length : Int) ≤ 1048576 := by omega
  clear hown hg
  go_loopw [4] (fun i wr => ∃ k : Nat, k ≤ l.length ∧ i = .int .i64 k ∧ wr.ownsRow w.heap.size 3 1 (.slice (some ⟨w.heap.size, 0, none⟩) l.length l.length) l.length (partCopy l k) ∧ Below w.heap.size w wr)
    (fun i _ => l.length - (intOf i).toNat)
  case atStart => exact ⟨0, Nat.zero_le _, rfl, hown1, hb1⟩
  case round =>
    obtain ⟨k, hk, rfl, hown, hb⟩ := hrel
    by_cases hlt : k < l.length
    · obtain ⟨b, off, rfl, hbB, hcell⟩ := hc (by omega)
      have hst' := partCopy_succ l k hlt
      have hcx : wr.cell? ⟨b, off + k, none⟩ = some (.int .i64 (l.getD k 0)) := (hb.cell (p := ⟨b, off + k, none⟩) hbB).trans (hcell k hlt)
      generalize l.getD k 0 = x at hst' hcx
      have hcy : ∃ u, wr.cell? ⟨w.heap.size, k, none⟩ = some u := by
        rw [World.ownsRow.cellAt hown k (by omega)]
        have : k < (partCopy l k).length := by rw [hown.1]; omega
        exact ⟨_, List.getElem?_eq_getElem this⟩
      obtain ⟨u, hcu⟩ := hcy
      have hfz := World.ownsRow.frozenAt hown k
      have hst := World.ownsRow.stored hown k (.int .i64 x)
      rw [hst'] at hst
      have hb2 : Below w.heap.size w (wr.setCell ⟨w.heap.size, k, none⟩ (.int .i64 x)) := hb.setCell (p := ⟨w.heap.size, k, none⟩) (Nat.le_refl _) _
      have hs1 := hst.1
      clear hst hown hst'
      go_wp2
      go_roundw
      case rel => exact ⟨k + 1, by omega, by go_num, hs1, hb2⟩
      case measure => simp [intOf]; omega
    · obtain rfl : k = l.length := by omega
      rw [partCopy_all] at hown
      go_wp2
      go_ret
      exact ⟨_, rfl, OI.of_row hown, hb⟩

/-- Two slices that read alike are equal. -/
theorem eqIntS_same (v u : Value) (l : List Int) (w : World) (h : RI w w.heap.size v l) (h' : RI w w.heap.size u l) (hn : l.length ≤ 1048576) :
    Calls Try.prog 27 #[v, u] w (RetV w (.bool true)) := by
  obtain ⟨A, c, rfl, hlc, hc⟩ := h
  obtain ⟨A', c', rfl, hlc', hc'⟩ := h'
  have hn' : (l.length : Int) ≤ 1048576 := by omega
  go_enter Try.func27, Try.ntmps27
  go_wp2
  go_loopw [5] (fun i wr => ∃ k : Nat, k ≤ l.length ∧ i = .int .i64 k ∧ Below w.heap.size w wr) (fun i _ => l.length - (intOf i).toNat)
  case atStart => exact ⟨0, Nat.zero_le _, rfl, Below.refl _ _⟩
  case round =>
    obtain ⟨k, hk, rfl, hb⟩ := hrel
    by_cases hlt : k < l.length
    · obtain ⟨b, off, rfl, hbB, hcell⟩ := hc (by omega)
      obtain ⟨b', off', rfl, hbB', hcell'⟩ := hc' (by omega)
      have hcx : wr.cell? ⟨b, off + k, none⟩ = some (.int .i64 (l.getD k 0)) := (hb.cell (p := ⟨b, off + k, none⟩) hbB).trans (hcell k hlt)
      have hcy : wr.cell? ⟨b', off' + k, none⟩ = some (.int .i64 (l.getD k 0)) := (hb.cell (p := ⟨b', off' + k, none⟩) hbB').trans (hcell' k hlt)
      generalize l.getD k 0 = x at hcx hcy
      have hi : (k : Int) < (l.length : Int) := by omega
      go_wp2
      go_quiet (fail)
      go_wp2
      go_roundw
      case rel => exact ⟨k + 1, by omega, by go_num, below_drewN hb _⟩
      case measure => simp [intOf]; omega
    · obtain rfl : k = l.length := by omega
      go_wp2
      go_ret
      exact ⟨rfl, hb⟩

/-- The marks so far. -/
def partMark (l : List Int) (m : Int) (k : Nat) : List Value := ics (marks m k) ++ (ics l).drop k
theorem marks_succ (m : Int) (k : Nat) : marks m (k + 1) = marks m k ++ [m + k] := by
  induction k generalizing m with
  | zero => simp [marks]
  | succ k ih =>
    have e : m + 1 + (k : Int) = m + ((k + 1 : Nat) : Int) := by omega
    rw [marks, ih (m + 1), marks, e]
    rfl
theorem partMark_zero (l : List Int) (m : Int) : partMark l m 0 = ics l := by simp [partMark, marks, ics]
theorem partMark_all (l : List Int) (m : Int) : partMark l m l.length = ics (marks m l.length) := by
  unfold partMark
  rw [List.drop_of_length_le (by simp [ics])]
  simp
theorem partMark_succ (l : List Int) (m : Int) (k : Nat) (hk : k < l.length) : (partMark l m k).set k (.int .i64 (m + k)) = partMark l m (k + 1) := by
  have hd : (ics l).drop k = (ics l)[k]'(by simp [ics]; exact hk) :: (ics l).drop (k + 1) := List.drop_eq_getElem_cons _
  unfold partMark
  have h1 : (ics (marks m k)).length = k := by simp [ics, marks_length]
  rw [hd, List.set_append_right k _ (by omega)]
  have h2 : k - (ics (marks m k)).length = 0 := by omega
  rw [h2, List.set_cons_zero, marks_succ]
  simp only [ics, List.map_append, List.map_cons, List.map_nil, List.append_assoc, List.singleton_append]

/-- Marks are laid into a row of the call's own. -/
theorem markIntS_any (lo hi : Nat) (v : Value) (l : List Int) (m : Int) (w : World) (h : OI 3 w lo hi v l) (hn : l.length ≤ 1048576) (hm : 0 ≤ m) (hm' : m ≤ 100000000) :
    Calls Try.prog 28 #[v, .int .i64 m] w fun e w' => e = .returned (.int .i64 (m + l.length)) ∧ OI 3 w' lo hi v (marks m l.length) ∧ Wr lo hi w w' := by
  have hn' : (l.length : Int) ≤ 1048576 := by omega
  have h0 := h
  rcases h with ⟨rfl, A, c, rfl, hcm⟩ | ⟨g, c, rfl, hg, hgh, hr⟩
  · go_enter Try.func28, Try.ntmps28
    go_wp2
    go_loopw [1, 5] (fun u i wr => u = .int .i64 m ∧ i = .int .i64 0 ∧ wr = w) (fun _ _ _ => 0)
    case atStart => exact ⟨rfl, rfl, rfl⟩
    case round =>
      obtain ⟨rfl, rfl, rfl⟩ := hrel
      go_wp2
      go_ret
      exact ⟨by simp, h0, Wr.refl _ _ _⟩
  · have hrow : w.ownsRow lo 3 1 (.slice (some ⟨g, 0, none⟩) l.length c) l.length (partMark l m 0) := by rw [partMark_zero]; exact hr
    go_enter Try.func28, Try.ntmps28
    go_wp2
    go_loopw [1, 5] (fun u i wr => ∃ k : Nat, k ≤ l.length ∧ u = .int .i64 (m + k) ∧ i = .int .i64 k ∧ wr.ownsRow lo 3 1 (.slice (some ⟨g, 0, none⟩) l.length c) l.length (partMark l m k) ∧ w.grownBy wr (some g))
      (fun _ i _ => l.length - (intOf i).toNat)
    case atStart => exact ⟨0, Nat.zero_le _, by simp, rfl, hrow, World.grownBy.refl _ _⟩
    case round =>
      obtain ⟨k, hk, rfl, rfl, hown, hb⟩ := hrel
      by_cases hkl : k < l.length
      · have hcy : ∃ u, wr.cell? ⟨g, k, none⟩ = some u := by
          rw [World.ownsRow.cellAt hown k (by omega)]
          have : k < (partMark l m k).length := by rw [hown.1]; omega
          exact ⟨_, List.getElem?_eq_getElem this⟩
        obtain ⟨u, hcu⟩ := hcy
        have hfz := World.ownsRow.frozenAt hown k
        have hst := World.ownsRow.stored hown k (.int .i64 (m + k))
        rw [partMark_succ l m k hkl] at hst
        have hs1 := hst.1
        have hb2 : w.grownBy (wr.setCell ⟨g, k, none⟩ (.int .i64 (m + k))) (some g) := grown_trans hb hst.2
        clear hst hown
        go_wp2
        go_roundw
        case rel => exact ⟨k + 1, by omega, by go_num, by go_num, hs1, hb2⟩
        case measure => simp [intOf]; omega
      · obtain rfl : k = l.length := by omega
        rw [partMark_all] at hown
        go_wp2
        go_ret
        exact ⟨rfl, .inr ⟨g, c, by rw [marks_length], hg, hgh, by rw [marks_length]; exact hown⟩, Wr.of_row hb hg hgh⟩

/-- Marks that are there are held. -/
theorem heldIntS_any (v : Value) (n : Nat) (m : Int) (w : World) (h : RI w w.heap.size v (marks m n)) (hn : n ≤ 1048576) (hm : 0 ≤ m) (hm' : m ≤ 100000000) :
    Calls Try.prog 29 #[v, .int .i64 m] w (RetV w (.int .i64 (m + n))) := by
  obtain ⟨A, c, rfl, hlc, hc⟩ := h
  rw [marks_length] at hc ⊢
  go_enter Try.func29, Try.ntmps29
  go_wp2
  go_loopw [1, 5] (fun u i wr => ∃ k : Nat, k ≤ n ∧ u = .int .i64 (m + k) ∧ i = .int .i64 k ∧ Below w.heap.size w wr) (fun _ i _ => n - (intOf i).toNat)
  case atStart => exact ⟨0, Nat.zero_le _, by simp, rfl, Below.refl _ _⟩
  case round =>
    obtain ⟨k, hk, rfl, rfl, hb⟩ := hrel
    by_cases hlt : k < n
    · obtain ⟨b, off, rfl, hbB, hcell⟩ := hc (by omega)
      have hcx : wr.cell? ⟨b, off + k, none⟩ = some (.int .i64 (m + k)) := by
        rw [← marks_get m n k hlt]
        exact (hb.cell (p := ⟨b, off + k, none⟩) hbB).trans (hcell k hlt)
      go_wp2
      go_roundw
      case rel => exact ⟨k + 1, by omega, by go_num, by go_num, hb⟩
      case measure => simp [intOf]; omega
    · obtain rfl : k = n := by omega
      go_wp2
      go_ret
      exact ⟨rfl, hb⟩
end Go.Proofs.Ytmghhhceemmdpaa
