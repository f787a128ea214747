/-
  The order of starts, and whether starts are a schedule: the program's side.
-/
import Derived.Test.YteoggoopfjkdkaaSortJ
import Derived.Test.YteoggoopfjkdkaaJobs
namespace Go.Proofs.Yteoggoopfjkdkaa
open Go.RowKit
set_option maxRecDepth 100000
set_option linter.unusedVariables false

/-- What 'orderOf' leaves: an order, sorted by the starts. -/
def RetOrd (E : TypeId) (ss : List Int) (w : World) (e : Ending) (w' : World) : Prop :=
  ∃ u d, e = .returned u ∧ Order ss.length d ∧ Srt ss d ss.length ∧ OI E w' w.heap.size w'.heap.size u d ∧ Below w.heap.size w w'
def partIdx (n k : Nat) : List Int := idx k ++ List.replicate (n - k) 0
theorem partIdx_len (n k : Nat) (h : k ≤ n) : (partIdx n k).length = n := by simp [partIdx, idx_len]; omega
theorem partIdx_succ (n k : Nat) (h : k < n) : (ics (partIdx n k)).set k (.int .i64 k) = ics (partIdx n (k + 1)) := by
  unfold partIdx ics
  rw [← List.map_set]
  congr 1
  have e : n - k = (n - (k + 1)) + 1 := by omega
  have e2 : idx (k + 1) = idx k ++ [(k : Int)] := by simp [idx, List.range_succ]
  rw [e, List.replicate_succ, List.set_append_right k _ (by rw [idx_len]; omega), idx_len, Nat.sub_self, List.set_cons_zero, e2, List.append_assoc]
  rfl
set_option maxHeartbeats 1000000 in
theorem orderOf_any (v : Value) (ss : List Int) (w : World) (h : RI w w.heap.size v ss) (hn : ss.length ≤ 20) :
    Calls Try.prog 69 #[v] w (RetOrd 3 ss w) := by
  obtain ⟨A, c, rfl, hlc, hc⟩ := h
  obtain ⟨i0, hi, hz0, hz1, hz2⟩ := info_parts int_info
  obtain ⟨n, hN⟩ : ∃ n, ss.length = n := ⟨_, rfl⟩
  have HN := Lib.hid hN
  rw [hN] at hc hlc hn ⊢
  have hn' : (n : Int) ≤ 20 := by omega
  have hW : Below w.heap.size w (w.alloc (.cells #[.slice A n c] 26)) := (Below.refl _ _).alloc (Nat.le_refl _) _
  have hB0 := BK.made w 26 #[.slice A n c]
  have hcA : 0 < n → ∃ b off, A = some ⟨b, off, none⟩ ∧ b < w.heap.size + 1 ∧ ∀ j, j < n → w.cell? ⟨b, off + j, none⟩ = some (.int .i64 (ss.getD j 0)) := fun h => by
    obtain ⟨b, off, h1, h2, h3⟩ := hc h
    exact ⟨b, off, h1, by omega, h3⟩
  have HCA := Lib.hid hcA
  have HC := Lib.hid hc
  clear hN hcA hc
  go_enter Try.func69, Try.ntmps69
  go_wp2_with (at_make; refine wpList_make_full _ rfl _ _ 26 rfl (w.heap.size + 1) 3 i0 _ 1 Try.underlying26 hi hz0 hz1 _ _ _ _ n rfl rfl rfl rfl (by rw [hz2]; omega) (by unfold maxLen; omega) (by simp) ?_; intro w2 hown hg2)
  have hsz : (w.alloc (.cells #[.slice A n c] 26)).heap.size = w.heap.size + 1 := by simp
  have hb1 : Below (w.heap.size + 1) (w.alloc (.cells #[.slice A n c] 26)) w2 := (Below.refl _ _).grown hg2 (by simp) (by intro k hk; cases hk)
  have hs2 := hb1.size
  rw [hsz] at hs2
  have hB2 := hB0.step (hb1.mono (by simp))
  have HB2 := Lib.hid hB2
  have hown1 : w2.ownsRow (w.heap.size + 1) 3 1 (.slice (some ⟨w.heap.size + 1, 0, none⟩) n n) n (ics (partIdx n 0)) := by
    have h1 : (Value.int IntKind.i64 0).cells = #[Value.int IntKind.i64 0] := rfl
    rw [Nat.mul_one, h1, toList_madeCells_one] at hown
    simpa [partIdx, idx, ics] using hown
  have HT := Lib.hid (hW.trans (hb1.mono (by omega)))
  clear hown hg2 hb1 hB2 hB0 hW hsz
  go_loopw [10] (fun i wr => ∃ j : Nat, j ≤ n ∧ i = .int .i64 j ∧ wr.ownsRow (w.heap.size + 1) 3 1 (.slice (some ⟨w.heap.size + 1, 0, none⟩) n n) n (ics (partIdx n j)) ∧ Below (w.heap.size + 1) w2 wr)
    (fun i _ => n - (intOf i).toNat)
  case atStart => exact ⟨0, Nat.zero_le _, rfl, hown1, Below.refl _ _⟩
  case round =>
    obtain ⟨j, hj, rfl, hown, hbw⟩ := hrel
    by_cases hlt : j < n
    · have hcy : ∃ u, wr.cell? ⟨w.heap.size + 1, j, none⟩ = some u := by
        rw [World.ownsRow.cellAt hown j (by omega)]
        exact ⟨_, List.getElem?_eq_getElem (by rw [ics_length, partIdx_len _ _ hj]; omega)⟩
      obtain ⟨u, hcu⟩ := hcy
      have hfz := World.ownsRow.frozenAt hown j
      have hst := World.ownsRow.stored hown j (.int .i64 j)
      rw [partIdx_succ n j hlt] at hst
      have HBN := Lib.hid (hbw.setCell (p := ⟨w.heap.size + 1, j, none⟩) (Nat.le_refl _) (.int .i64 j))
      have HS1 := Lib.hid hst.1
      have hji : (j : Int) < (n : Int) := by omega
      clear hst hown hbw
      go_wp2_with fail
      go_roundw
      case rel => exact ⟨j + 1, by omega, by go_num, HS1.out, HBN.out⟩
      case measure => simp [intOf]; omega
    · obtain rfl : j = n := by omega
      have e9 : partIdx j j = idx j := by simp [partIdx]
      rw [e9] at hown
      have hs3 := hbw.size
      have c3 := (hbw.cell (p := ⟨w.heap.size, 0, none⟩) (by simp)).trans (HB2.out.cell 0)
      simp at c3
      have HCW : 0 < j → ∃ b off, A = some ⟨b, off, none⟩ ∧ b < w.heap.size + 1 ∧ ∀ q, q < j → wr.cell? ⟨b, off + q, none⟩ = some (.int .i64 (ss.getD q 0)) := fun h => by
        obtain ⟨b, off, h1, h2, h3⟩ := HC.out h
        exact ⟨b, off, h1, by omega, fun q hq => ((HT.out.trans (hbw.mono (by omega))).cell (p := ⟨b, off + q, none⟩) h2).trans (h3 q hq)⟩
      have HS := Lib.hid (sortStable_any A w.heap.size c (w.heap.size + 1) j (w.heap.size + 1) j ss (idx j) wr HN c3 hn HCW (by omega) (by omega) hown (order_idx j))
      have HT3 := Lib.hid (HT.out.trans (hbw.mono (by omega)))
      clear hown HCW c3
      go_wp2_with fail
      refine HS.out.mono ?_; rintro e w4 ⟨rfl, d, ho, hsr, hown4, hb4⟩
      have hdl := ho.len
      have HOI : Hid (OI 3 w4 (w.heap.size + 1) w4.heap.size (.slice (some ⟨w.heap.size + 1, 0, none⟩) j j) d) := by
        have h9 := hown4
        exact OI.of_row (by rw [hdl]; exact h9)
      have HT4 := Lib.hid (HT3.out.trans (hb4.mono (by omega)))
      have HO := Lib.hid ho
      have HSR := Lib.hid hsr
      clear hown4 hb4 ho hsr hdl
      go_wp2_with fail
      go_ret
      exact ⟨_, d, rfl, by rw [HN.out]; exact HO.out, by rw [HN.out]; exact HSR.out, HOI.out.wide (by omega) (Nat.le_refl _), HT4.out⟩
end Go.Proofs.Yteoggoopfjkdkaa
