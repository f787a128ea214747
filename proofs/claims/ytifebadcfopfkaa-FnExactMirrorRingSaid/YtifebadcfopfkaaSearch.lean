/-
  The contracts of slices.BinarySearch at slices of ints and of cmp.Less.
-/
import Derived.Test.YtifebadcfopfkaaHasI
import Derived.Test.YtifebadcfopfkaaMathSet
namespace Go.Proofs.Ytifebadcfopfkaa
open Go.RowKit
set_option maxRecDepth 100000
set_option linter.unusedVariables false

theorem isNaN_any (x : Int) (w : World) : Calls Try.prog 139 #[.int .i64 x] w fun e w' => e = .returned (.bool false) ∧ w = w' := by
  have hb : (x != x) = false := by simp
  go_enter Try.func139, Try.ntmps139
  go_wp2
  go_ret
  exact ⟨rfl, rfl⟩
theorem isNaN2_any (x : Int) (w : World) : Calls Try.prog 130 #[.int .i64 x] w fun e w' => e = .returned (.bool false) ∧ w = w' := by
  have hb : (x != x) = false := by simp
  go_enter Try.func130, Try.ntmps130
  go_wp2
  go_ret
  exact ⟨rfl, rfl⟩
theorem less_any (x y : Int) (w : World) : Calls Try.prog 129 #[.int .i64 x, .int .i64 y] w fun e w' => e = .returned (.bool (decide (x < y))) ∧ w = w' := by
  go_enter Try.func129, Try.ntmps129
  go_wp2_with fail
  refine (isNaN_any _ _).mono ?_; rintro e w' ⟨rfl, rfl⟩
  go_wp2_with fail
  go_ret
  exact ⟨rfl, rfl⟩
def RetCut (w : World) (l : List Int) (t : Int) (e : Ending) (w' : World) : Prop := ∃ i : Nat, e = .returned (.tuple #[.int .i64 i, .bool (hasI l t)]) ∧ w = w' ∧ CutAt l t i
theorem search_any (v : Value) (l : List Int) (t : Int) (w : World) (h : RI w w.heap.size v l) (hn : l.length ≤ 1000) (hr : SS l) :
    Calls Try.prog 111 #[v, .int .i64 t] w (RetCut w l t) := by
  obtain ⟨A, c, rfl, hlc, hc⟩ := h
  have hn' : (l.length : Int) ≤ 1000 := by omega
  have HR := Lib.hid hr
  clear hr
  go_enter Try.func111, Try.ntmps111
  go_wp2_with fail
  go_loop [7, 8] (fun a b => ∃ i j : Nat, a = .int .i64 i ∧ b = .int .i64 j ∧ i ≤ j ∧ j ≤ l.length ∧ (∀ m, m < i → l.getD m 0 < t) ∧ (∀ m, j ≤ m → m < l.length → t ≤ l.getD m 0)) (fun a b => (intOf b).toNat - (intOf a).toNat)
  case atStart => exact ⟨0, l.length, rfl, rfl, Nat.zero_le _, Nat.le_refl _, fun m h => by omega, fun m h1 h2 => by omega⟩
  case round =>
    obtain ⟨i, j, rfl, rfl, hij, hj, hlo, hhi⟩ := hrel
    have HLO := Lib.hid hlo
    have HHI := Lib.hid hhi
    clear hlo hhi
    by_cases hlt : i < j
    · obtain ⟨bb, off, rfl, hbB, hcell⟩ := hc (by omega)
      have hcx : w.cell? ⟨bb, off + (i + j) / 2, none⟩ = some (.int .i64 (l.getD ((i + j) / 2) 0)) := hcell _ (by omega)
      have HC := Lib.hid hcell
      clear hcell hc
      have HX : Hid (∀ x, x = l.getD ((i + j) / 2) 0 → x < t → ∀ m, m < (i + j) / 2 + 1 → l.getD m 0 < t) := by
        show ∀ x, _
        rintro x rfl hx m hm
        by_cases e : m < i
        · exact HLO.out m e
        · by_cases e2 : m = (i + j) / 2
          · rw [e2]; exact hx
          · have h1 := List.pairwise_iff_getElem.1 HR.out m ((i + j) / 2) (by omega) (by omega) (by omega)
            simp only [List.getD, show m < l.length by omega, show (i + j) / 2 < l.length by omega, List.getElem?_eq_getElem, Option.getD_some] at hx ⊢
            omega
      have HY : Hid (∀ x, x = l.getD ((i + j) / 2) 0 → ¬ x < t → ∀ m, (i + j) / 2 ≤ m → m < l.length → t ≤ l.getD m 0) := by
        show ∀ x, _
        rintro x rfl hx m hm hml
        by_cases e2 : m = (i + j) / 2
        · rw [e2]; omega
        · have h1 := List.pairwise_iff_getElem.1 HR.out ((i + j) / 2) m (by omega) (by omega) (by omega)
          simp only [List.getD, show m < l.length by omega, show (i + j) / 2 < l.length by omega, List.getElem?_eq_getElem, Option.getD_some] at hx ⊢
          omega
      obtain ⟨x, hx⟩ : ∃ x, x = l.getD ((i + j) / 2) 0 := ⟨_, rfl⟩
      rw [← hx] at hcx
      have HXX := Lib.hid hx
      clear hx
      go_wp2_with fail
      refine (less_any _ _ _).mono ?_; rintro e w' ⟨rfl, rfl⟩
      by_cases hxt : x < t
      · have HA := Lib.hid (HX.out x HXX.out (by omega))
        rw [decide_eq_true hxt]
        go_wp2_with fail
        go_round
        case rel => exact ⟨(i + j) / 2 + 1, j, by go_num, rfl, by omega, hj, HA.out, HHI.out⟩
        case measure => simp [intOf]; omega
      · have HA := Lib.hid (HY.out x HXX.out (by omega))
        rw [decide_eq_false hxt]
        go_wp2_with fail
        go_round
        case rel => exact ⟨i, (i + j) / 2, rfl, by go_num, by omega, by omega, HLO.out, HA.out⟩
        case measure => simp [intOf]; omega
    · obtain rfl : i = j := by omega
      have hcut : CutAt l t i := ⟨hj, HLO.out, HHI.out⟩
      have HH : Hid (hasI l t = decide (i < l.length ∧ l.getD i 0 = t)) := hcut.has HR.out.at
      have HCUT := Lib.hid hcut
      clear hcut
      by_cases hil : i < l.length
      · obtain ⟨bb, off, rfl, hbB, hcell⟩ := hc (by omega)
        have hcx : w.cell? ⟨bb, off + i, none⟩ = some (.int .i64 (l.getD i 0)) := hcell _ hil
        have HC := Lib.hid hcell
        clear hcell hc
        generalize l.getD i 0 = x at hcx HH
        by_cases hxt : x = t
        · have hb : (x == t) = true := by simp [hxt]
          have H2 : Hid (hasI l t = true) := by show _ = _; rw [HH.out]; simp [hil, hxt]
          clear hxt
          go_wp2_with fail
          go_ret2
          exact ⟨i, by rw [H2.out]; rfl, rfl, HCUT.out⟩
        · have hb : (x == t) = false := by simp [hxt]
          have H2 : Hid (hasI l t = false) := by show _ = _; rw [HH.out]; simp [hxt]
          clear hxt
          go_wp2_with fail
          refine (isNaN2_any _ _).mono ?_; rintro e w' ⟨rfl, rfl⟩
          go_wp2_with fail
          go_ret2
          exact ⟨i, by rw [H2.out]; rfl, rfl, HCUT.out⟩
      · have H2 : Hid (hasI l t = false) := by show _ = _; rw [HH.out]; simp [hil]
        go_wp2_with fail
        go_ret2
        exact ⟨i, by rw [H2.out]; rfl, rfl, HCUT.out⟩
end Go.Proofs.Ytifebadcfopfkaa
