/-
  Chapter 7: the contracts of CountOneToken, both sides.
-/
import Derived.Test.YtgmknndmmpoliaaElG
namespace Go.Proofs.Ytgmknndmmpoliaa
open Go.RowKit
set_option maxRecDepth 100000
set_option linter.unusedVariables false

/-- How many of the first j have one token. -/
def cntN (L : List (List Int)) : Nat → Nat
  | 0 => 0
  | j + 1 => if oneB (L.getD j []) = true then cntN L j + 1 else cntN L j
theorem cntN_yes {L : List (List Int)} {j : Nat} (h : oneB (L.getD j []) = true) : cntN L (j + 1) = cntN L j + 1 := by rw [cntN, if_pos h]
theorem cntN_no {L : List (List Int)} {j : Nat} (h : oneB (L.getD j []) = false) : cntN L (j + 1) = cntN L j := by rw [cntN, if_neg (by rw [h]; simp)]
theorem cntN_le (L : List (List Int)) (j : Nat) : cntN L j ≤ j := by
  induction j with
  | zero => exact Nat.le_refl _
  | succ j ih =>
    rw [cntN]
    split <;> omega
def cntRg (n k : Int) : Int × Bool := if (wi n 2 5 && wi k 2 5) = true then (((cntN (allN k.toNat n.toNat) (allN k.toNat n.toNat).length : Nat) : Int), true) else (0, false)


set_option maxHeartbeats 2000000 in
theorem implCountOneToken_any (n k : Int) (w : World) (hx : (Lit.int .i64 n).wf = true) (hy : (Lit.int .i64 k).wf = true) :
    Calls Try.prog 30 #[.int .i64 n, .int .i64 k] w (RetV w (.tuple #[.int .i64 (cntRg n k).1, .bool (cntRg n k).2])) := by
  have HI := Lib.hid (isWithin_wi n 2 5 w)
  have HK := Lib.hid (isWithin_wi k 2 5 w)
  cases hg : wi n 2 5
  · rw [show cntRg n k = (0, false) from by simp [cntRg, hg]]
    rw [hg] at HI
    clear hg
    go_enter Try.func30, Try.ntmps30
    go_wp2_with fail
    refine HI.out.mono ?_; rintro e w' ⟨rfl, rfl⟩
    go_wp2_with fail
    go_ret2
    exact ⟨rfl, Below.refl _ _⟩
  rw [hg] at HI
  cases hg2 : wi k 2 5
  · rw [show cntRg n k = (0, false) from by simp [cntRg, hg2]]
    rw [hg2] at HK
    clear hg hg2
    go_enter Try.func30, Try.ntmps30
    go_wp2_with fail
    refine HI.out.mono ?_; rintro e w' ⟨rfl, rfl⟩
    go_wp2_with fail
    refine HK.out.mono ?_; rintro e w' ⟨rfl, rfl⟩
    go_wp2_with fail
    go_ret2
    exact ⟨rfl, Below.refl _ _⟩
  rw [hg2] at HK
  obtain ⟨N, rfl, hN⟩ : ∃ N : Nat, n = (N : Int) ∧ 2 ≤ N ∧ N ≤ 5 := by
    simp [wi] at hg
    exact ⟨n.toNat, by omega, by omega⟩
  obtain ⟨K, rfl, hK⟩ : ∃ K : Nat, k = (K : Int) ∧ 2 ≤ K ∧ K ≤ 5 := by
    simp [wi] at hg2
    exact ⟨k.toNat, by omega, by omega⟩
  rw [show cntRg (N : Int) (K : Int) = (((cntN (allN K N) (allN K N).length : Nat) : Int), true) from by simp [cntRg, hg, hg2]]
  clear hg hg2 hx hy
  have HA := Lib.hid (everyStates_any N K w hN.2 hK.2)
  have HROW := Lib.hid (allN_row K N)
  have hL1 : (allN K N).length ≤ 3125 := by rw [allN_length]; exact pow_small hK.2 hN.2
  obtain ⟨L, hL⟩ : ∃ L, L = allN K N := ⟨_, rfl⟩
  rw [← hL] at HA HROW hL1 ⊢
  clear hL
  have hLi : (L.length : Int) ≤ 3125 := by omega
  go_enter Try.func30, Try.ntmps30
  go_wp2_with fail
  refine HI.out.mono ?_; rintro e w' ⟨rfl, rfl⟩
  go_wp2_with fail
  refine HK.out.mono ?_; rintro e w' ⟨rfl, rfl⟩
  go_wp2_with fail
  refine HA.out.mono ?_; rintro e W1 ⟨u, rfl, hos, hb⟩
  obtain ⟨V, VA, vc, rfl, hV, hlc2, hcells, hrows⟩ := hos.rd
  have HRO := Lib.hid hrows
  have HCE := Lib.hid hcells
  have HB := Lib.hid hb
  clear hcells hrows hos hb hV
  go_wp2_with fail
  go_loopw [6, 21] (fun u i wr => ∃ j : Nat, j ≤ L.length ∧ u = .int .i64 (cntN L j : Nat) ∧ i = .int .i64 j ∧ Below W1.heap.size W1 wr) (fun _ i _ => L.length - (intOf i).toNat)
  case atStart => exact ⟨0, Nat.zero_le _, rfl, rfl, Below.refl _ _⟩
  case round =>
    obtain ⟨j, hj, rfl, rfl, hbw⟩ := hrel
    have hle := cntN_le L j
    by_cases hlt : j < L.length
    · obtain ⟨b, off, rfl, hbB, hcell⟩ := HCE.out (by omega)
      have hcx := (hbw.cell (p := ⟨b, off + j, none⟩) hbB).trans (hcell j hlt)
      clear hcell
      have hr3 := ((HRO.out j hlt).below hbw).more hbw.size
      have hsl : (L.getD j []).length = N := HROW.out _ (by simp [List.getD, hlt])
      have HYES : Hid (oneB (L.getD j []) = true → cntN L (j + 1) = cntN L j + 1) := fun h => cntN_yes h
      have HNO : Hid (oneB (L.getD j []) = false → cntN L (j + 1) = cntN L j) := fun h => cntN_no h
      obtain ⟨s, hs⟩ : ∃ s, s = L.getD j [] := ⟨_, rfl⟩
      rw [← hs] at hr3 hsl HYES HNO
      clear hs
      have hs2 : 2 ≤ s.length ∧ s.length ≤ 12 := by omega
      have HC := Lib.hid (implOne_any _ s wr hr3 hs2)
      obtain ⟨A5, c5, e5, _, _⟩ := hr3
      rw [e5] at hcx HC
      have HBW := Lib.hid hbw
      clear e5 hsl hbw hs2
      have hlt' : (j : Int) < (L.length : Int) := by omega
      cases hone : oneB s
      · have HN := Lib.hid (HNO.out hone)
        skip
        have HONE := Lib.hid hone
        rw [hone] at HC
        clear hone HYES HNO
        generalize s.length = sn at *
        generalize cntN L j = cj at *
        go_wp2_with fail
        refine HC.out.mono ?_; rintro e w5 ⟨rfl, hb5⟩
        have HB5 := Lib.hid (HBW.out.trans (hb5.mono HBW.out.size))
        clear hb5
        go_wp2_with fail
        go_roundw
        case rel => exact ⟨j + 1, by omega, by rw [HN.out] <;> go_num, by go_num, HB5.out⟩
        case measure => simp [intOf]; omega
      · have HN := Lib.hid (HYES.out hone)
        skip
        have HONE := Lib.hid hone
        rw [hone] at HC
        clear hone HYES HNO
        generalize s.length = sn at *
        generalize cntN L j = cj at *
        go_wp2_with fail
        refine HC.out.mono ?_; rintro e w5 ⟨rfl, hb5⟩
        have HB5 := Lib.hid (HBW.out.trans (hb5.mono HBW.out.size))
        clear hb5
        go_wp2_with fail
        go_roundw
        case rel => exact ⟨j + 1, by omega, by rw [HN.out] <;> go_num, by go_num, HB5.out⟩
        case measure => simp [intOf]; omega
    · obtain rfl : j = L.length := by omega
      go_wp2
      go_ret2
      exact ⟨rfl, HB.out.trans (hbw.mono HB.out.size)⟩


set_option maxHeartbeats 2000000 in
theorem specCountOneToken_any (n k : Int) (w : World) (hx : (Lit.int .i64 n).wf = true) (hy : (Lit.int .i64 k).wf = true) :
    Calls Try.prog 29 #[.int .i64 n, .int .i64 k] w (RetV w (.tuple #[.int .i64 (cntRg n k).1, .bool (cntRg n k).2])) := by
  have HI := Lib.hid (l1In_wi n 2 5 w)
  have HK := Lib.hid (l1In_wi k 2 5 w)
  cases hg : wi n 2 5
  · rw [show cntRg n k = (0, false) from by simp [cntRg, hg]]
    rw [hg] at HI
    clear hg
    go_enter Try.func29, Try.ntmps29
    go_wp2_with fail
    refine HI.out.mono ?_; rintro e w' ⟨rfl, rfl⟩
    go_wp2_with fail
    go_ret2
    exact ⟨rfl, Below.refl _ _⟩
  rw [hg] at HI
  cases hg2 : wi k 2 5
  · rw [show cntRg n k = (0, false) from by simp [cntRg, hg2]]
    rw [hg2] at HK
    clear hg hg2
    go_enter Try.func29, Try.ntmps29
    go_wp2_with fail
    refine HI.out.mono ?_; rintro e w' ⟨rfl, rfl⟩
    go_wp2_with fail
    refine HK.out.mono ?_; rintro e w' ⟨rfl, rfl⟩
    go_wp2_with fail
    go_ret2
    exact ⟨rfl, Below.refl _ _⟩
  rw [hg2] at HK
  obtain ⟨N, rfl, hN⟩ : ∃ N : Nat, n = (N : Int) ∧ 2 ≤ N ∧ N ≤ 5 := by
    simp [wi] at hg
    exact ⟨n.toNat, by omega, by omega⟩
  obtain ⟨K, rfl, hK⟩ : ∃ K : Nat, k = (K : Int) ∧ 2 ≤ K ∧ K ≤ 5 := by
    simp [wi] at hg2
    exact ⟨k.toNat, by omega, by omega⟩
  rw [show cntRg (N : Int) (K : Int) = (((cntN (allN K N) (allN K N).length : Nat) : Int), true) from by simp [cntRg, hg, hg2]]
  clear hg hg2 hx hy
  have HA := Lib.hid (elAll_any N K w hN.2 hK.2)
  have HROW := Lib.hid (allN_row K N)
  have hL1 : (allN K N).length ≤ 3125 := by rw [allN_length]; exact pow_small hK.2 hN.2
  obtain ⟨L, hL⟩ : ∃ L, L = allN K N := ⟨_, rfl⟩
  rw [← hL] at HA HROW hL1 ⊢
  clear hL
  have hLi : (L.length : Int) ≤ 3125 := by omega
  go_enter Try.func29, Try.ntmps29
  go_wp2_with fail
  refine HI.out.mono ?_; rintro e w' ⟨rfl, rfl⟩
  go_wp2_with fail
  refine HK.out.mono ?_; rintro e w' ⟨rfl, rfl⟩
  go_wp2_with fail
  refine HA.out.mono ?_; rintro e W1 ⟨u, rfl, hos, hb⟩
  obtain ⟨V, VA, vc, rfl, hV, hlc2, hcells, hrows⟩ := hos.rd
  have HRO := Lib.hid hrows
  have HCE := Lib.hid hcells
  have HB := Lib.hid hb
  clear hcells hrows hos hb hV
  go_wp2_with fail
  go_loopw [6, 21] (fun u i wr => ∃ j : Nat, j ≤ L.length ∧ u = .int .i64 (cntN L j : Nat) ∧ i = .int .i64 j ∧ Below W1.heap.size W1 wr) (fun _ i _ => L.length - (intOf i).toNat)
  case atStart => exact ⟨0, Nat.zero_le _, rfl, rfl, Below.refl _ _⟩
  case round =>
    obtain ⟨j, hj, rfl, rfl, hbw⟩ := hrel
    have hle := cntN_le L j
    by_cases hlt : j < L.length
    · obtain ⟨b, off, rfl, hbB, hcell⟩ := HCE.out (by omega)
      have hcx := (hbw.cell (p := ⟨b, off + j, none⟩) hbB).trans (hcell j hlt)
      clear hcell
      have hr3 := ((HRO.out j hlt).below hbw).more hbw.size
      have hsl : (L.getD j []).length = N := HROW.out _ (by simp [List.getD, hlt])
      have HYES : Hid (oneB (L.getD j []) = true → cntN L (j + 1) = cntN L j + 1) := fun h => cntN_yes h
      have HNO : Hid (oneB (L.getD j []) = false → cntN L (j + 1) = cntN L j) := fun h => cntN_no h
      obtain ⟨s, hs⟩ : ∃ s, s = L.getD j [] := ⟨_, rfl⟩
      rw [← hs] at hr3 hsl HYES HNO
      clear hs
      have hs2 : 2 ≤ s.length ∧ s.length ≤ 12 := by omega
      have HC := Lib.hid (specHolders_any _ s wr hr3 hs2)
      obtain ⟨A5, c5, e5, _, _⟩ := hr3
      rw [e5] at hcx HC
      have HBW := Lib.hid hbw
      clear e5 hsl hbw hs2
      have hlt' : (j : Int) < (L.length : Int) := by omega
      cases hone : oneB s
      · have HN := Lib.hid (HNO.out hone)
        unfold oneB at hone
        have HONE := Lib.hid hone
        skip
        clear hone HYES HNO
        generalize s.length = sn at *
        generalize cntN L j = cj at *
        go_wp2_with fail
        refine HC.out.mono ?_; rintro e w5 ⟨u5, rfl, ho5, hb5⟩
        have HB5 := Lib.hid (HBW.out.trans (hb5.mono HBW.out.size))
        obtain ⟨A9, c9, rfl, _, _⟩ := ho5.ri
        clear hb5 ho5
        have hone := HONE.out
        generalize (holdN s sn).length = hn at hone ⊢
        go_wp2_with fail
        go_roundw
        case rel => exact ⟨j + 1, by omega, by rw [HN.out] <;> go_num, by go_num, HB5.out⟩
        case measure => simp [intOf]; omega
      · have HN := Lib.hid (HYES.out hone)
        unfold oneB at hone
        have HONE := Lib.hid hone
        skip
        clear hone HYES HNO
        generalize s.length = sn at *
        generalize cntN L j = cj at *
        go_wp2_with fail
        refine HC.out.mono ?_; rintro e w5 ⟨u5, rfl, ho5, hb5⟩
        have HB5 := Lib.hid (HBW.out.trans (hb5.mono HBW.out.size))
        obtain ⟨A9, c9, rfl, _, _⟩ := ho5.ri
        clear hb5 ho5
        have hone := HONE.out
        generalize (holdN s sn).length = hn at hone ⊢
        obtain rfl : hn = 1 := by simp at hone; omega
        clear hone
        go_wp2_with fail
        go_roundw
        case rel => exact ⟨j + 1, by omega, by rw [HN.out] <;> go_num, by go_num, HB5.out⟩
        case measure => simp [intOf]; omega
    · obtain rfl : j = L.length := by omega
      go_wp2
      go_ret2
      exact ⟨rfl, HB.out.trans (hbw.mono HB.out.size)⟩

end Go.Proofs.Ytgmknndmmpoliaa
