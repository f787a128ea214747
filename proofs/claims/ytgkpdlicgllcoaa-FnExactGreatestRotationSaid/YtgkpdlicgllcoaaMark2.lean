/-
  Marks that are laid on a slice of slices of ints, above those of a first argument.
-/
import Derived.Test.YtgkpdlicgllcoaaIntSS
namespace Go.Proofs.Ytgkpdlicgllcoaa
open Go.RowKit
set_option maxRecDepth 100000
set_option linter.unusedVariables false

set_option maxHeartbeats 1000000 in
theorem markIntSS2_any {T : TypeId} (hTE : T ≠ 3) (lo hi : Nat) (v : Value) (L : List (List Int)) (m : Int) (w : World) (h : OS T 3 w lo hi v L) (hn : L.length ≤ 1048576) (ht : total L ≤ 1048576) (hm : 0 ≤ m) (hm' : m ≤ 2000000) :
    Calls Try.prog 52 #[v, .int .i64 m] w fun e w' => e = .returned (.int .i64 (m + total L)) ∧ OS T 3 w' lo hi v (marksSS m L) ∧ Wr lo hi w w' := by
  have hn' : (L.length : Int) ≤ 1048576 := by omega
  have hvs : ∃ A c, v = .slice A L.length c := by obtain ⟨_, A, c, hv, _⟩ := h.rd; exact ⟨A, c, hv⟩
  obtain ⟨VA, vc, rfl⟩ := hvs
  go_enter Try.func52, Try.ntmps52
  go_wp2
  go_loopw [1, 5] (fun u i wr => ∃ A B : List (List Int), A ++ B = L ∧ u = .int .i64 (m + total A) ∧ i = .int .i64 A.length ∧ OS T 3 wr lo hi (.slice VA L.length vc) (marksSS m A ++ B) ∧ Wr lo hi w wr) (fun _ i _ => L.length - (intOf i).toNat)
  case atStart => exact ⟨[], L, rfl, by simp [total], rfl, h, Wr.refl _ _ _⟩
  case round =>
    obtain ⟨A, B, hAB, rfl, rfl, hos, hw⟩ := hrel
    cases B with
    | nil =>
      rw [List.append_nil] at hAB hos
      subst hAB
      go_wp2
      go_ret
      exact ⟨rfl, hos, hw⟩
    | cons l B =>
      have htl : total A + (l.length + total B) = total L := by rw [← hAB, total_append]; rfl
      obtain ⟨g, c, u, hv, hcl, hcall⟩ := OS.mark_call hTE (m + total A) hos (by omega) (by omega) (by omega)
      have hLn : A.length < L.length := by rw [← hAB]; simp
      have hi : (A.length : Int) < (L.length : Int) := by omega
      rw [marksSS_length] at hcl
      injection hv with hv1 hv2 hv3
      subst hv1
      have HC := Lib.hid hcall
      have HH : Hid (A ++ l :: B = L) := hAB
      have HW := Lib.hid hw
      have HT := Lib.hid htl
      clear hcall hAB hw htl hos h hv2 hv3
      go_wp2_with fail
      refine HC.out.mono ?_; rintro e w2 ⟨rfl, hos2, hw2⟩
      have HO := Lib.hid hos2
      have HW2 := Lib.hid (HW.out.trans hw2)
      clear hos2 hw2
      go_wp2_with fail
      go_roundw
      case rel =>
        refine ⟨A ++ [l], B, by rw [List.append_assoc]; exact HH.out, ?_, ?_, ?_, HW2.out⟩
        · rw [total_append]; simp only [total]; congr 1; push_cast; omega
        · simp
        · rw [marksSS_append, List.append_assoc]; exact HO.out
      case measure => simp [intOf]; omega

end Go.Proofs.Ytgkpdlicgllcoaa
