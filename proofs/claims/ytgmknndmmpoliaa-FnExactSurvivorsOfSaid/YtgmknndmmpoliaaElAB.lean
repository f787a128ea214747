/-
  Chapter 7: the contracts of SurvivorsOf and RoundMessages, both sides.
-/
import Derived.Test.YtgmknndmmpoliaaElAA
import Derived.Test.YtgmknndmmpoliaaElC
namespace Go.Proofs.Ytgmknndmmpoliaa
open Go.RowKit
set_option maxRecDepth 100000
set_option linter.unusedVariables false

theorem rdF_le (l : List Int) (k p : Nat) : rdF l p k ≤ p + k := by
  induction k generalizing p with
  | zero => exact Nat.le_refl _
  | succ k ih =>
    rw [rdF]
    split
    · omega
    · have := ih (p + 1)
      omega
theorem rdN_le (l : List Int) : rdN l ≤ l.length := by
  have := rdF_le l l.length 0
  unfold rdN
  omega
/-- What SurvivorsOf says. -/
def srvRg (l : List Int) : List (List Int) × Bool := if nmOk l = true then (srvT l (rdN l), true) else ([], false)
/-- What RoundMessages says. -/
def rmsgRg (l : List Int) : Int × Bool := if nmOk l = true then (2 * (l.length : Int) * (rdN l : Int), true) else (0, false)
theorem srvRg_len (l : List Int) : (srvRg l).1.length ≤ 1048576 ∧ total (srvRg l).1 ≤ 1048576 := by
  unfold srvRg
  split
  · rename_i h
    have h1 := nmOk_in h
    have h2 := srvT_len l (rdN l)
    have h3 := total_el (srvT l (rdN l)) 12 fun x hx => by have := srvT_row l (rdN l) x hx; omega
    have h4 := rdN_le l
    simp only
    omega
  · simp [total]

theorem implSurvivorsOf_any (v : Value) (l : List Int) (w : World) (h : RI w w.heap.size v l) (hn : l.length ≤ 1048576) :
    Calls Try.prog 12 #[v] w (RetSB w (srvRg l).1 (srvRg l).2) := by
  have HA := Lib.hid (implAreNames0_any v l w h hn)
  cases hg : nmOk l
  · rw [show srvRg l = ([], false) from by simp [srvRg, hg]]
    rw [hg] at HA
    obtain ⟨A, c, rfl, _, _⟩ := h
    clear hg
    go_enter Try.func12, Try.ntmps12
    go_wp2_with fail
    refine HA.out.mono ?_; rintro e w' ⟨rfl, rfl⟩
    go_wp2_with fail
    go_ret2
    exact ⟨_, rfl, OS.nil _ _ _ _ _, Below.refl _ _⟩
  · have HC := Lib.hid (survivorsOf_any v l w h (nmOk_in hg) (nmOk_ok hg))
    have hin := nmOk_in hg
    have hin' : (2 : Int) ≤ (l.length : Int) ∧ (l.length : Int) ≤ 12 := by omega

    rw [show srvRg l = (srvT l (rdN l), true) from by simp [srvRg, hg]]
    rw [hg] at HA
    obtain ⟨A, c, rfl, _, _⟩ := h
    clear hg
    go_enter Try.func12, Try.ntmps12
    go_wp2_with fail
    refine HA.out.mono ?_; rintro e w' ⟨rfl, rfl⟩
    go_wp2_with fail
    refine HC.out.mono ?_; rintro e w1 ⟨u, rfl, hos, hb⟩
    go_wp2_with fail
    go_ret2
    exact ⟨_, rfl, hos, hb⟩

theorem implRoundMessages_any (v : Value) (l : List Int) (w : World) (h : RI w w.heap.size v l) (hn : l.length ≤ 1048576) :
    Calls Try.prog 19 #[v] w (RetV w (.tuple #[.int .i64 (rmsgRg l).1, .bool (rmsgRg l).2])) := by
  have HA := Lib.hid (implAreNames0_any v l w h hn)
  cases hg : nmOk l
  · rw [show rmsgRg l = (0, false) from by simp [rmsgRg, hg]]
    rw [hg] at HA
    obtain ⟨A, c, rfl, _, _⟩ := h
    clear hg
    go_enter Try.func19, Try.ntmps19
    go_wp2_with fail
    refine HA.out.mono ?_; rintro e w' ⟨rfl, rfl⟩
    go_wp2_with fail
    go_ret2
    exact ⟨rfl, Below.refl _ _⟩
  · have HC := Lib.hid (survivorsOf_any v l w h (nmOk_in hg) (nmOk_ok hg))
    have hin := nmOk_in hg
    have hin' : (2 : Int) ≤ (l.length : Int) ∧ (l.length : Int) ≤ 12 := by omega

    have hrd := rdN_le l
    have hsl := srvT_len l (rdN l)
    obtain ⟨Q, hQ⟩ : ∃ Q : Int, 2 * (l.length : Int) * (rdN l : Int) = Q := ⟨_, rfl⟩
    have hQb : 0 ≤ Q ∧ Q ≤ 288 := by
      have a1 := Int.mul_le_mul (show 2 * (l.length : Int) ≤ 24 by omega) (show (rdN l : Int) ≤ 12 by omega) (by omega) (by omega)
      have a2 := Int.mul_nonneg (show (0 : Int) ≤ 2 * (l.length : Int) by omega) (show (0 : Int) ≤ (rdN l : Int) by omega)
      omega
    rw [show rmsgRg l = (Q, true) from by rw [← hQ]; simp [rmsgRg, hg]]
    rw [hg] at HA
    obtain ⟨A, c, rfl, _, _⟩ := h
    clear hg
    go_enter Try.func19, Try.ntmps19
    go_wp2_with fail
    refine HA.out.mono ?_; rintro e w' ⟨rfl, rfl⟩
    go_wp2_with fail
    refine HC.out.mono ?_; rintro e w1 ⟨u, rfl, hos, hb⟩
    have HB := Lib.hid hb
    obtain ⟨V, VA, vc, rfl, _, _, _, _⟩ := hos.rd
    clear hos hb HC
    obtain ⟨K, hK⟩ : ∃ K, K = (srvT l (rdN l)).length := ⟨_, rfl⟩
    rw [← hK] at hsl ⊢
    clear hK
    generalize rdN l = r at hsl hrd hQ
    have hr' : (r : Int) ≤ 12 := by omega
    have e1 : (K : Int) - 1 = (r : Int) := by omega
    have hK' : (K : Int) ≤ 13 := by omega
    have hK1 : (1 : Int) ≤ (K : Int) := by omega
    clear hsl
    go_wp2_with fail
    go_ret2
    exact ⟨by first | rfl | simp, HB.out⟩

theorem specSurvivorsOf_any (v : Value) (l : List Int) (w : World) (h : RI w w.heap.size v l) (hn : l.length ≤ 1048576) :
    Calls Try.prog 10 #[v] w (RetSB w (srvRg l).1 (srvRg l).2) := by
  have HA := Lib.hid (elNames_any v l w h hn)
  cases hg : nmOk l
  · rw [show srvRg l = ([], false) from by simp [srvRg, hg]]
    rw [hg] at HA
    obtain ⟨A, c, rfl, _, _⟩ := h
    clear hg
    go_enter Try.func10, Try.ntmps10
    go_wp2_with fail
    refine HA.out.mono ?_; rintro e w' ⟨rfl, rfl⟩
    go_wp2_with fail
    go_ret2
    exact ⟨_, rfl, OS.nil _ _ _ _ _, Below.refl _ _⟩
  · have HC := Lib.hid (elSurvivors_any v l w h (nmOk_in hg))
    have hin := nmOk_in hg
    have hin' : (2 : Int) ≤ (l.length : Int) ∧ (l.length : Int) ≤ 12 := by omega

    rw [show srvRg l = (srvT l (rdN l), true) from by simp [srvRg, hg]]
    rw [hg] at HA
    obtain ⟨A, c, rfl, _, _⟩ := h
    clear hg
    go_enter Try.func10, Try.ntmps10
    go_wp2_with fail
    refine HA.out.mono ?_; rintro e w' ⟨rfl, rfl⟩
    go_wp2_with fail
    refine HC.out.mono ?_; rintro e w1 ⟨u, rfl, hos, hb⟩
    go_wp2_with fail
    go_ret2
    exact ⟨_, rfl, hos, hb⟩

theorem specRoundMessages_any (v : Value) (l : List Int) (w : World) (h : RI w w.heap.size v l) (hn : l.length ≤ 1048576) :
    Calls Try.prog 18 #[v] w (RetV w (.tuple #[.int .i64 (rmsgRg l).1, .bool (rmsgRg l).2])) := by
  have HA := Lib.hid (elNames_any v l w h hn)
  cases hg : nmOk l
  · rw [show rmsgRg l = (0, false) from by simp [rmsgRg, hg]]
    rw [hg] at HA
    obtain ⟨A, c, rfl, _, _⟩ := h
    clear hg
    go_enter Try.func18, Try.ntmps18
    go_wp2_with fail
    refine HA.out.mono ?_; rintro e w' ⟨rfl, rfl⟩
    go_wp2_with fail
    go_ret2
    exact ⟨rfl, Below.refl _ _⟩
  · have HC := Lib.hid (elSurvivors_any v l w h (nmOk_in hg))
    have hin := nmOk_in hg
    have hin' : (2 : Int) ≤ (l.length : Int) ∧ (l.length : Int) ≤ 12 := by omega

    have hrd := rdN_le l
    have hsl := srvT_len l (rdN l)
    obtain ⟨Q, hQ⟩ : ∃ Q : Int, 2 * (l.length : Int) * (rdN l : Int) = Q := ⟨_, rfl⟩
    have hQb : 0 ≤ Q ∧ Q ≤ 288 := by
      have a1 := Int.mul_le_mul (show 2 * (l.length : Int) ≤ 24 by omega) (show (rdN l : Int) ≤ 12 by omega) (by omega) (by omega)
      have a2 := Int.mul_nonneg (show (0 : Int) ≤ 2 * (l.length : Int) by omega) (show (0 : Int) ≤ (rdN l : Int) by omega)
      omega
    rw [show rmsgRg l = (Q, true) from by rw [← hQ]; simp [rmsgRg, hg]]
    rw [hg] at HA
    obtain ⟨A, c, rfl, _, _⟩ := h
    clear hg
    go_enter Try.func18, Try.ntmps18
    go_wp2_with fail
    refine HA.out.mono ?_; rintro e w' ⟨rfl, rfl⟩
    go_wp2_with fail
    refine HC.out.mono ?_; rintro e w1 ⟨u, rfl, hos, hb⟩
    have HB := Lib.hid hb
    obtain ⟨V, VA, vc, rfl, _, _, _, _⟩ := hos.rd
    clear hos hb HC
    obtain ⟨K, hK⟩ : ∃ K, K = (srvT l (rdN l)).length := ⟨_, rfl⟩
    rw [← hK] at hsl ⊢
    clear hK
    generalize rdN l = r at hsl hrd hQ
    have hr' : (r : Int) ≤ 12 := by omega
    have e1 : (K : Int) - 1 = (r : Int) := by omega
    have hK' : (K : Int) ≤ 13 := by omega
    have hK1 : (1 : Int) ≤ (K : Int) := by omega
    clear hsl
    go_wp2_with fail
    go_ret2
    exact ⟨by first | rfl | simp, HB.out⟩

end Go.Proofs.Ytgmknndmmpoliaa
