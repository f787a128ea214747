/-
  Chapter 7: the model's election both ways, and the contracts of BothWays.
-/
import Derived.Test.YtgmknndmmpoliaaElW
import Derived.Test.YtgmknndmmpoliaaElO
import Derived.Deep.LoopGhost
import Derived.WalkMore
namespace Go.Proofs.Ytgmknndmmpoliaa
open Go.RowKit Go.Maps
set_option maxRecDepth 100000
set_option linter.unusedVariables false

theorem elLeast_any (a b : Int) (w : World) : Calls Try.prog 37 #[.int .i64 a, .int .i64 b] w fun e w' => e = .returned (.int .i64 (if a < b then a else b)) ∧ w = w' := by
  by_cases h : a < b
  · rw [if_pos h]
    go_enter Try.func37, Try.ntmps37
    go_wp2
    go_ret
    exact ⟨rfl, rfl⟩
  · rw [if_neg h]
    go_enter Try.func37, Try.ntmps37
    go_wp2
    go_ret
    exact ⟨rfl, rfl⟩
/-- A step in the one direction or in the other. -/
def stepOk (st : Int) (d n : Nat) : Prop := (st = 1 ∧ d = 1) ∨ (st = -1 ∧ d = n - 1)
theorem step_pos {st : Int} {d n i k : Nat} (h : stepOk st d n) (hn : 2 ≤ n ∧ n ≤ 12) (hi : i < n) (hk : k ≤ 12) : ((i : Int) + (k : Int) * st + (k : Int) * (n : Int)) % (n : Int) = ((posD n d i k : Nat) : Int) ∧ -12 ≤ (k : Int) * st ∧ (k : Int) * st ≤ 12 ∧ 0 ≤ (k : Int) * (n : Int) ∧ (k : Int) * (n : Int) ≤ 144 ∧ 0 ≤ (i : Int) + (k : Int) * st + (k : Int) * (n : Int) := by
  have hq : 0 ≤ (k : Int) * (n : Int) ∧ (k : Int) * (n : Int) ≤ 144 := by
    have a1 := Int.mul_le_mul (show (k : Int) ≤ 12 by omega) (show (n : Int) ≤ 12 by omega) (by omega) (by omega)
    have a2 := Int.mul_nonneg (show (0 : Int) ≤ k by omega) (show (0 : Int) ≤ n by omega)
    omega
  have hkn : (k : Int) ≤ (k : Int) * (n : Int) := by
    have a1 := Int.mul_le_mul_of_nonneg_left (show (1 : Int) ≤ n by omega) (show (0 : Int) ≤ k by omega)
    omega
  rcases h with ⟨rfl, rfl⟩ | ⟨rfl, rfl⟩
  · refine ⟨?_, by omega, by omega, hq.1, hq.2, by omega⟩
    rw [Int.mul_one, Int.add_mul_emod_self_right]
    unfold posD
    rw [Nat.mul_one, Int.natCast_emod]
    congr 1
  · refine ⟨?_, by omega, by omega, hq.1, hq.2, by omega⟩
    unfold posD
    rw [Int.natCast_emod]
    congr 1
    have e : ((n - 1 : Nat) : Int) = (n : Int) - 1 := by omega
    rw [Int.natCast_add, Int.natCast_mul, e, Int.mul_sub, Int.mul_one]
    omega
set_option maxHeartbeats 1000000 in
theorem elSent_any (v : Value) (l : List Int) (i d r : Nat) (st : Int) (w : World) (h : RI w w.heap.size v l) (hn : 2 ≤ l.length ∧ l.length ≤ 12) (hi : i < l.length) (hr : r ≤ 12) (hst : stepOk st d l.length) :
    Calls Try.prog 36 #[v, .int .i64 i, .int .i64 st, .int .i64 r] w (RetV w (.tuple #[.int .i64 (stopN (gD l i d) 0 r : Nat), .bool (ansN (gD l i d) 0 r)])) := by
  obtain ⟨A, c, rfl, hlc, hc⟩ := h
  obtain ⟨b, off, rfl, hbB, hcell⟩ := hc (by omega)
  have HC := Lib.hid hcell
  clear hc hcell
  obtain ⟨n, hnn⟩ : ∃ n, n = l.length := ⟨_, rfl⟩
  rw [← hnn] at hn hi hlc hst
  rw [← hnn]
  obtain ⟨g, hg⟩ : ∃ g, g = gD l i d := ⟨_, rfl⟩
  rw [← hg]
  have HG : Hid (∀ k, g k = decide (l.getD i 0 < l.getD (posD n d i k) 0)) := by
    show ∀ k, _
    intro k
    rw [hg, gD, ← hnn]
  have HN := Lib.hid hnn
  have HST := Lib.hid hst
  clear hg hnn hst
  have hn' : (2 : Int) ≤ (n : Int) ∧ (n : Int) ≤ 12 := by omega
  have hr' : (r : Int) ≤ 12 := by omega
  have hi' : (i : Int) < (n : Int) := by omega
  have hnz : (n : Int) ≠ 0 := by omega
  go_enter Try.func36, Try.ntmps36
  go_wp2_with fail
  go_loopg [11] (r + 1) (fun gg s11 wx => ∃ k : Nat, 1 ≤ k ∧ k + gg = r + 2 ∧ k ≤ r + 1 ∧ s11 = .int .i64 k ∧ Hid (stopN g (k - 1) (r - (k - 1)) = stopN g 0 r) ∧ Hid (ansN g (k - 1) (r - (k - 1)) = ansN g 0 r) ∧ Below w.heap.size w wx)
  case atStart => exact ⟨1, Nat.le_refl _, by omega, by omega, rfl, rfl, rfl, Below.refl _ _⟩
  case round =>
    obtain ⟨k, hk1, hkg, hkr, rfl, HS, HA, hb⟩ := hrel
    rename World => W1
    have HB := Lib.hid hb
    by_cases hlt : k ≤ r
    · obtain ⟨m, hm⟩ : ∃ m, k = m + 1 := ⟨k - 1, by omega⟩
      have HX : Hid (r - (k - 1) = (r - k) + 1) := by show _ = _; omega
      have hsp := step_pos (k := k) HST.out hn hi (by omega)
      have hp := posD_lt n d i k (by omega)
      have hc1 := (hb.cell (p := ⟨b, off + i, none⟩) hbB).trans (HC.out i (by rw [← HN.out]; exact hi))
      have hc2 := (hb.cell (p := ⟨b, off + posD n d i k, none⟩) hbB).trans (HC.out (posD n d i k) (by rw [← HN.out]; exact hp))
      have HG1 := Lib.hid (HG.out k)
      clear hb
      obtain ⟨P, hP⟩ : ∃ P, P = (k : Int) * st := ⟨_, rfl⟩
      obtain ⟨Q, hQ⟩ : ∃ Q, Q = (k : Int) * (n : Int) := ⟨_, rfl⟩
      rw [← hP, ← hQ] at hsp
      have hwP : IntKind.i64.wrap ((k : Int) * st) = P := by rw [← hP]; exact IntWalk.i64_in _ (by omega)
      have hwQ : IntKind.i64.wrap ((k : Int) * (n : Int)) = Q := by rw [← hQ]; exact IntWalk.i64_in _ (by omega)
      clear hP hQ
      obtain ⟨S1, hS1⟩ : ∃ S1, S1 = (i : Int) + P := ⟨_, rfl⟩
      obtain ⟨S2, hS2⟩ : ∃ S2, S2 = S1 + Q := ⟨_, rfl⟩
      have hw1 : IntKind.i64.wrap ((i : Int) + P) = S1 := by rw [← hS1]; exact IntWalk.i64_in _ (by omega)
      have hw2 : IntKind.i64.wrap (S1 + Q) = S2 := by rw [← hS2]; exact IntWalk.i64_in _ (by omega)
      have he : S2 % (n : Int) = ((posD n d i k : Nat) : Int) := by rw [hS2, hS1]; exact hsp.1
      have he2 : S2.tmod (n : Int) = ((posD n d i k : Nat) : Int) := by rw [Int.tmod_eq_emod_of_nonneg (by omega)]; exact he
      have hpw : IntKind.i64.wrap ((posD n d i k : Nat) : Int) = ((posD n d i k : Nat) : Int) := IntWalk.i64_in _ (by omega)
      clear hsp hS1 hS2
      generalize posD n d i k = q at hp hc2 HG1 he he2 hpw
      have hq' : (q : Int) < (n : Int) := by omega
      generalize l.getD i 0 = x at hc1 HG1
      generalize l.getD q 0 = y at hc2 HG1
      have hlt' : (k : Int) ≤ (r : Int) := by omega
      have HM := Lib.hid hm
      clear hm
      rcases Int.lt_or_le x y with hxy | hxy
      · have HT : Hid (stopN g 0 r = k) := by
          show _ = _
          rw [← HS.out, HX.out, HM.out, Nat.add_sub_cancel, stopN, ← HM.out, HG1.out, if_pos (by simpa using hxy)]
        have HU : Hid (ansN g 0 r = false) := by
          show _ = _
          rw [← HA.out, HX.out, HM.out, Nat.add_sub_cancel, ansN, ← HM.out, HG1.out, if_pos (by simpa using hxy)]
        go_wp2_with fail
        go_quiet (fail)
        go_wp2_with fail
        go_ret2
        exact ⟨by rw [HT.out, HU.out]; first | rfl | simp, below_drewN HB.out _⟩
      · have HT : Hid (stopN g (k + 1 - 1) (r - (k + 1 - 1)) = stopN g 0 r) := by
          show _ = _
          rw [← HS.out, HX.out, Nat.add_sub_cancel]
          conv => rhs; rw [HM.out, Nat.add_sub_cancel, stopN, ← HM.out, HG1.out, if_neg (by simpa using hxy)]
        have HU : Hid (ansN g (k + 1 - 1) (r - (k + 1 - 1)) = ansN g 0 r) := by
          show _ = _
          rw [← HA.out, HX.out, Nat.add_sub_cancel]
          conv => rhs; rw [HM.out, Nat.add_sub_cancel, ansN, ← HM.out, HG1.out, if_neg (by simpa using hxy)]
        go_wp2_with fail
        go_quiet (fail)
        go_wp2_with fail
        go_roundg (gk - 1)
        case measure => omega
        case rel => exact ⟨k + 1, by omega, by omega, by omega, by go_num, HT, HU, below_drewN HB.out _⟩
    · have hkr1 : k = r + 1 := by omega
      have HT : Hid (stopN g 0 r = r) := by
        show _ = _
        rw [← HS.out, hkr1, Nat.add_sub_cancel, Nat.sub_self, stopN]
      have HU : Hid (ansN g 0 r = true) := by
        show _ = _
        rw [← HA.out, hkr1, Nat.add_sub_cancel, Nat.sub_self, ansN]
      have hlt' : ¬ ((k : Int) ≤ (r : Int)) := by omega
      clear hkr1
      go_wp2_with fail
      go_ret2
      exact ⟨by rw [HT.out, HU.out]; first | rfl | simp, HB.out⟩

end Go.Proofs.Ytgmknndmmpoliaa
