/-
  Token rings: the contracts of FullShares.
-/
import Derived.Test.YtfkjiagagidmmaaTokA
import Derived.Test.YtfkjiagagidmmaaAcc
namespace Go.Proofs.Ytfkjiagagidmmaa
open Go.RowKit
set_option maxRecDepth 100000
set_option linter.unusedVariables false

theorem fullShares_no {x : Tr} {n : Int} (h : (isTr x && wi n 0 100) = false) : fullShares x n = ([], false) := by simp [fullShares, h]
theorem fullShares_yes {x : Tr} {n : Int} (h : (isTr x && wi n 0 100) = true) : fullShares x n = (List.replicate x.k.toNat (x.h * n), true) := by simp [fullShares, h]
/-- The shares so far: j of n. -/
def partShare (V : Int) (n j : Nat) : List Int := List.replicate j V ++ List.replicate (n - j) 0
theorem partShare_succ (V : Int) (n j : Nat) (h : j < n) : (ics (partShare V n j)).set j (.int .i64 V) = ics (partShare V n (j + 1)) := by
  unfold partShare ics
  rw [← List.map_set]
  congr 1
  have e : n - j = (n - (j + 1)) + 1 := by omega
  rw [e, List.replicate_succ, List.set_append_right j _ (by simp), List.length_replicate, Nat.sub_self, List.set_cons_zero, List.replicate_succ', List.append_assoc]
  rfl
theorem partShare_len (V : Int) (n j : Nat) (h : j ≤ n) : (partShare V n j).length = n := by simp [partShare]; omega

set_option maxHeartbeats 1000000 in
theorem implFullShares_any (x : Tr) (n : Int) (w : World) (hx : (Lit.int .i64 n).wf = true) : Calls Try.prog 25 #[TrV x, .int .i64 n] w (RetLB 3 w (fullShares x n).1 (fullShares x n).2) := by
  have HG := Lib.hid (fun w => implIsTokenRing_any x w)
  obtain ⟨i0, hi, hz0, hz1, hz2⟩ := info_parts int_info
  cases hg : isTr x
  · rw [fullShares_no (by simp [hg])]
    rw [hg] at HG
    obtain ⟨k, h, q⟩ := x
    simp only [TrV] at HG ⊢
    have hW : Below w.heap.size w (w.alloc (.cells #[.int .i64 k, .int .i64 h, .int .i64 q] 25)) := (Below.refl _ _).alloc (Nat.le_refl _) _
    clear hg
    go_enter Try.func25, Try.ntmps25
    go_wp2_with fail
    refine (HG.out _).mono ?_; rintro e w1 ⟨rfl, hb⟩
    go_wp2_with fail
    go_ret2
    exact ⟨_, rfl, .inl ⟨rfl, none, 0, rfl, by simp, fun _ => rfl⟩, hW.trans (hb.mono hW.size)⟩
  cases hwa : wi n 0 100
  · rw [fullShares_no (by simp [hwa])]
    rw [hg] at HG
    obtain ⟨k, h, q⟩ := x
    simp only [TrV] at HG ⊢
    have hW : Below w.heap.size w (w.alloc (.cells #[.int .i64 k, .int .i64 h, .int .i64 q] 25)) := (Below.refl _ _).alloc (Nat.le_refl _) _
    clear hg
    go_enter Try.func25, Try.ntmps25
    go_wp2_with fail
    refine (HG.out _).mono ?_; rintro e w1 ⟨rfl, hb⟩
    go_wp2_with (go_at_call 34; refine (isWithin_wi _ _ _ _).mono ?_; rintro e w' ⟨rfl, rfl⟩)
    go_ret2
    exact ⟨_, rfl, .inl ⟨rfl, none, 0, rfl, by simp, fun _ => rfl⟩, hW.trans (hb.mono hW.size)⟩
  rw [fullShares_yes (by simp [hg, hwa])]
  rw [hg] at HG
  have hin := isTr_in hg
  obtain ⟨k, h, q⟩ := x
  simp only [TrV] at HG hin ⊢
  have hn2 : 0 ≤ n ∧ n ≤ 100 := by simpa [wi] using hwa
  clear hg
  have hm := mul_in (a := h) (b := n) (A := 10) (B := 100) (by omega) (by omega) (by omega) (by omega)
  have e0 : IntKind.i64.wrap (h * n) = h * n := IntWalk.i64_in _ (by omega)
  obtain ⟨V, hV⟩ : ∃ V, h * n = V := ⟨_, rfl⟩
  have e1 : IntKind.i64.wrap (h * n) = V := by rw [e0, hV]
  have HV := Lib.hid hV
  rw [hV]
  clear e0 hm hV
  obtain ⟨K, rfl⟩ : ∃ K : Nat, k = (K : Int) := ⟨k.toNat, by omega⟩
  rw [Int.toNat_natCast]
  have hW : Below w.heap.size w (w.alloc (.cells #[.int .i64 K, .int .i64 h, .int .i64 q] 25)) := (Below.refl _ _).alloc (Nat.le_refl _) _
  have hB := BK.made w 25 #[.int .i64 K, .int .i64 h, .int .i64 q]
  go_enter Try.func25, Try.ntmps25
  go_wp2_with fail
  refine (HG.out _).mono ?_; rintro e w1 ⟨rfl, hb⟩
  have hB1 := hB.step hb
  have T1 := hW.trans (hb.mono hW.size)
  have c0 := hB1.cell 0
  have c1 := hB1.cell 1
  simp at c0 c1
  have hz := T1.size
  have hz3 := hB1.1
  clear hW hB hb
  go_wp2_with (first
    | (go_at_call 34; refine (isWithin_wi _ _ _ _).mono ?_; rintro e w' ⟨rfl, rfl⟩)
    | (at_make; refine wpList_make_full _ rfl _ _ 40 rfl w1.heap.size 3 i0 _ 1 Try.underlying40 hi hz0 hz1 _ _ _ _ K rfl rfl rfl rfl (by rw [hz2]; omega) (by unfold maxLen; omega) (Nat.le_refl _) ?_; intro w2 hown hg2))
  have hown1 : w2.ownsRow w1.heap.size 3 1 (.slice (some ⟨w1.heap.size, 0, none⟩) K K) K (ics (partShare V K 0)) := by
    have h1 : (Value.int IntKind.i64 0).cells = #[Value.int IntKind.i64 0] := rfl
    rw [Nat.mul_one, h1, toList_madeCells_one] at hown
    simpa [partShare, ics] using hown
  have hb1 : Below w1.heap.size w1 w2 := (Below.refl _ _).grown hg2 (Nat.le_refl _) (by intro k hk; cases hk)
  clear hown hg2 c0 c1
  go_loopw [21] (fun i wr => ∃ j : Nat, j ≤ K ∧ i = .int .i64 j ∧ wr.ownsRow w1.heap.size 3 1 (.slice (some ⟨w1.heap.size, 0, none⟩) K K) K (ics (partShare V K j)) ∧ Below w1.heap.size w1 wr)
    (fun i _ => K - (intOf i).toNat)
  case atStart => exact ⟨0, Nat.zero_le _, rfl, hown1, hb1⟩
  case round =>
    obtain ⟨j, hj, rfl, hown, hbw⟩ := hrel
    have hB2 := hB1.step hbw
    have c0 := hB2.cell 0
    have c1 := hB2.cell 1
    simp at c0 c1
    by_cases hlt : j < K
    · have hcy : ∃ u, wr.cell? ⟨w1.heap.size, j, none⟩ = some u := by
        rw [World.ownsRow.cellAt hown j (by omega)]
        exact ⟨_, List.getElem?_eq_getElem (by rw [ics_length, partShare_len _ _ _ hj]; omega)⟩
      obtain ⟨u, hcu⟩ := hcy
      have hfz := World.ownsRow.frozenAt hown j
      have hst := World.ownsRow.stored hown j (.int .i64 V)
      rw [partShare_succ V K j hlt] at hst
      have HB2 := Lib.hid (hbw.setCell (p := ⟨w1.heap.size, j, none⟩) (Nat.le_refl _) (.int .i64 V))
      have HS1 := Lib.hid hst.1
      have hji : (j : Int) < (K : Int) := by omega
      clear hst hown hbw hB2
      go_wp2_with fail
      go_roundw
      case rel => exact ⟨j + 1, by omega, by go_num, HS1.out, HB2.out⟩
      case measure => simp [intOf]; omega
    · obtain rfl : j = K := by omega
      have e9 : partShare V j j = List.replicate j V := by simp [partShare]
      rw [e9] at hown
      have HOI : Hid (OI 3 wr w1.heap.size wr.heap.size (.slice (some ⟨w1.heap.size, 0, none⟩) j j) (List.replicate j V)) := by
        have h9 := hown
        have e8 : (List.replicate j V).length = j := List.length_replicate
        exact OI.of_row (by rw [e8]; exact h9)
      clear hown
      go_wp2_with fail
      go_ret2
      exact ⟨_, rfl, HOI.out.wide hz (Nat.le_refl _), T1.trans (hbw.mono hz)⟩
set_option maxHeartbeats 1000000 in
theorem specFullShares_any (x : Tr) (n : Int) (w : World) (hx : (Lit.int .i64 n).wf = true) : Calls Try.prog 24 #[TrV x, .int .i64 n] w (RetLB 3 w (fullShares x n).1 (fullShares x n).2) := by
  have HG := Lib.hid (fun w => tkGood_any x w)
  obtain ⟨i0, hi, hz0, hz1, hz2⟩ := info_parts int_info
  cases hg : isTr x
  · rw [fullShares_no (by simp [hg])]
    rw [hg] at HG
    obtain ⟨k, h, q⟩ := x
    simp only [TrV] at HG ⊢
    have hW : Below w.heap.size w (w.alloc (.cells #[.int .i64 k, .int .i64 h, .int .i64 q] 25)) := (Below.refl _ _).alloc (Nat.le_refl _) _
    clear hg
    go_enter Try.func24, Try.ntmps24
    go_wp2_with fail
    refine (HG.out _).mono ?_; rintro e w1 ⟨rfl, hb⟩
    go_wp2_with fail
    go_ret2
    exact ⟨_, rfl, .inl ⟨rfl, none, 0, rfl, by simp, fun _ => rfl⟩, hW.trans (hb.mono hW.size)⟩
  cases hwa : wi n 0 100
  · rw [fullShares_no (by simp [hwa])]
    rw [hg] at HG
    obtain ⟨k, h, q⟩ := x
    simp only [TrV] at HG ⊢
    have hW : Below w.heap.size w (w.alloc (.cells #[.int .i64 k, .int .i64 h, .int .i64 q] 25)) := (Below.refl _ _).alloc (Nat.le_refl _) _
    clear hg
    go_enter Try.func24, Try.ntmps24
    go_wp2_with fail
    refine (HG.out _).mono ?_; rintro e w1 ⟨rfl, hb⟩
    go_wp2_with (go_at_call 41; refine (l1In_wi _ _ _ _).mono ?_; rintro e w' ⟨rfl, rfl⟩)
    go_ret2
    exact ⟨_, rfl, .inl ⟨rfl, none, 0, rfl, by simp, fun _ => rfl⟩, hW.trans (hb.mono hW.size)⟩
  rw [fullShares_yes (by simp [hg, hwa])]
  rw [hg] at HG
  have hin := isTr_in hg
  obtain ⟨k, h, q⟩ := x
  simp only [TrV] at HG hin ⊢
  have hn2 : 0 ≤ n ∧ n ≤ 100 := by simpa [wi] using hwa
  clear hg
  have hm := mul_in (a := n) (b := h) (A := 100) (B := 10) (by omega) (by omega) (by omega) (by omega)
  have e0 : IntKind.i64.wrap (n * h) = n * h := IntWalk.i64_in _ (by omega)
  obtain ⟨V, hV⟩ : ∃ V, n * h = V := ⟨_, rfl⟩
  have e1 : IntKind.i64.wrap (n * h) = V := by rw [e0, hV]
  have HV := Lib.hid hV
  rw [Int.mul_comm, hV]
  clear e0 hm hV
  obtain ⟨K, rfl⟩ : ∃ K : Nat, k = (K : Int) := ⟨k.toNat, by omega⟩
  rw [Int.toNat_natCast]
  have hW : Below w.heap.size w (w.alloc (.cells #[.int .i64 K, .int .i64 h, .int .i64 q] 25)) := (Below.refl _ _).alloc (Nat.le_refl _) _
  have hB := BK.made w 25 #[.int .i64 K, .int .i64 h, .int .i64 q]
  go_enter Try.func24, Try.ntmps24
  go_wp2_with fail
  refine (HG.out _).mono ?_; rintro e w1 ⟨rfl, hb⟩
  have hB1 := hB.step hb
  have T1 := hW.trans (hb.mono hW.size)
  have c0 := hB1.cell 0
  have c1 := hB1.cell 1
  simp at c0 c1
  have hz := T1.size
  have hz3 := hB1.1
  clear hW hB hb
  go_wp2_with (go_at_call 41; refine (l1In_wi _ _ _ _).mono ?_; rintro e w' ⟨rfl, rfl⟩)
  clear c0 c1
  go_loopw [6, 7] (fun u i wr => ∃ j : Nat, j ≤ K ∧ i = .int .i64 j ∧ Acc 3 wr w1.heap.size u (List.replicate j V) ∧ Below w1.heap.size w1 wr)
    (fun _ i _ => K - (intOf i).toNat)
  case atStart => exact ⟨0, Nat.zero_le _, rfl, Acc.nil _ _ _, Below.refl _ _⟩
  case round =>
    obtain ⟨j, hj, rfl, hacc, hbw⟩ := hrel
    have hB2 := hB1.step hbw
    have c0 := hB2.cell 0
    have c1 := hB2.cell 1
    simp at c0 c1
    have hsz := hbw.size
    by_cases hlt : j < K
    · have hji : (j : Int) < (K : Int) := by omega
      have hdl : (List.replicate j V).length < 1000000000 := by rw [List.length_replicate]; omega
      clear hB2
      go_wp2_with (at_builtin; refine wpList_push rfl _ _ _ rfl 3 i0 Try.underlying40 hi hz0 hz1 hz2 _ w1 w1.heap.size _ (List.replicate j V) _ rfl rfl hacc rfl hdl hsz hbw ?_; intro v3 w3 hacc3 hb3)
      rw [← List.replicate_succ'] at hacc3
      go_roundw
      case rel => first | exact ⟨j + 1, by omega, by go_num, hacc3, hb3⟩ | exact ⟨j + 1, by omega, by omega, hacc3, hb3⟩
      case measure => simp [intOf]; omega
    · obtain rfl : j = K := by omega
      have HOI := Lib.hid hacc.oi
      clear hacc
      go_wp2_with fail
      go_ret2
      exact ⟨_, rfl, HOI.out.wide hz (Nat.le_refl _), T1.trans (hbw.mono hz)⟩
end Go.Proofs.Ytfkjiagagidmmaa
