/-
  The helpers of the drawn laws: rows that are the same.
-/
import Derived.Test.YtdggaeipfbacmaaCurD
import Derived.Test.YtdggaeipfbacmaaWordsSS
import Derived.RegionTactic
import Derived.BigRegion
namespace Go.Proofs.Ytdggaeipfbacmaa
open Go.RowKit
set_option maxRecDepth 100000
set_option linter.unusedVariables false

/-- A row, with its cell. -/
theorem RS.rowAt {w : World} {B : Nat} {A : Option Addr} {n c : Nat} {L : List (List Int)} (h : RS w B (.slice A n c) L) (j : Nat) (hj : j < L.length) :
    ∃ b off A2 c2, A = some ⟨b, off, none⟩ ∧ w.cell? ⟨b, off + j, none⟩ = some (.slice A2 (L.getD j []).length c2) ∧ RI w B (.slice A2 (L.getD j []).length c2) (L.getD j []) := by
  obtain ⟨V, A', c', hv, hV, hlc, hc, hr⟩ := h
  injection hv with h1 h3 h4
  subst h1
  obtain ⟨b, off, hA, hb, hcell⟩ := hc (by omega)
  have h2 := hr j hj
  obtain ⟨A2, c2, hv2, _⟩ := h2
  have h2 := hr j hj
  have h5 := hcell j hj
  rw [hv2] at h2 h5
  exact ⟨b, off, A2, c2, hA, h5, h2⟩
theorem RS.form {w : World} {B : Nat} {v : Value} {L : List (List Int)} (h : RS w B v L) : ∃ A c, v = .slice A L.length c := by
  obtain ⟨V, A', c', hv, _⟩ := h
  exact ⟨A', c', hv⟩
set_option maxHeartbeats 1000000 in
theorem kRows_any (a b : Value) (L : List (List Int)) (w : World) (ha : RS w w.heap.size a L) (hb : RS w w.heap.size b L) (hl : L.length ≤ 1048576) (hr : ∀ l ∈ L, l.length ≤ 1048576) :
    Calls Try.prog 10 #[a, b] w (RetV w (.bool true)) := by
  obtain ⟨A1, c1, rfl⟩ := ha.form
  obtain ⟨A2, c2, rfl⟩ := hb.form
  have hl' : (L.length : Int) ≤ 1048576 := by omega
  have H1 := Lib.hid ha
  have H2 := Lib.hid hb
  have HR := Lib.hid hr
  clear ha hb hr
  go_enter Try.func10, Try.ntmps10
  go_wp2_with fail
  go_loopw [13] (fun i wr => ∃ j : Nat, j ≤ L.length ∧ i = .int .i64 j ∧ Below w.heap.size w wr) (fun i _ => L.length - (intOf i).toNat)
  case atStart => exact ⟨0, Nat.zero_le _, rfl, Below.refl _ _⟩
  case round =>
    obtain ⟨j, hj, rfl, hT⟩ := hrel
    have HT := Lib.hid hT
    have hs1 := hT.size
    by_cases hlt : j < L.length
    · obtain ⟨b1, o1, A3, c3, rfl, d1, q1⟩ := (H1.out.below hT).rowAt j hlt
      obtain ⟨b2, o2, A4, c4, rfl, d2, q2⟩ := (H2.out.below hT).rowAt j hlt
      have hrl := HR.out (L.getD j []) (by rw [List.getD_eq_getElem?_getD, List.getElem?_eq_getElem hlt]; exact List.getElem_mem hlt)
      generalize L.getD j [] = l at d1 d2 q1 q2 hrl
      have HS : Hid (∀ m, Calls Try.prog 11 #[.slice A3 l.length c3, .slice A4 l.length c4] (wr.drewN m) (RetV (wr.drewN m) (.bool true))) := fun m => kSame_any _ _ l w.heap.size (wr.drewN m) (q1.drewN m) (q2.drewN m) hrl
      clear q1 q2 hT H1 H2 hrl HR
      go_upto_region 6 with fail
      go_region_with (go_at_call 11; refine (HS.out _).mono ?_; rintro e w3 ⟨rfl, hb3⟩)
      all_goals
        have hb4 : Below w.heap.size w w3 := HT.out.trans ((below_drewN (Below.refl _ _) _).trans (hb3.mono hs1))
        clear hb3
        go_wp2_with fail
        go_roundw
        case rel => exact ⟨j + 1, by omega, by go_num, hb4⟩
        case measure => simp [intOf]; omega
    · obtain rfl : j = L.length := by omega
      clear hT H1 H2
      go_wp2_with fail
      go_ret
      exact ⟨rfl, HT.out⟩
end Go.Proofs.Ytdggaeipfbacmaa
