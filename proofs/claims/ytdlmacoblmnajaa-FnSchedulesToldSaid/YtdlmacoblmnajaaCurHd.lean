/-
  The draws of jobs with starts.
-/
import Derived.Test.YtdlmacoblmnajaaCurH
namespace Go.Proofs.Ytdlmacoblmnajaa
open Go.RowKit
set_option maxRecDepth 100000
set_option linter.unusedVariables false

def RetSt (w : World) (e : Ending) (w' : World) : Prop :=
  ∃ (u v : Value) (l : List Jb) (s : List Int), e = .returned (.tuple #[u, v]) ∧ (l.length ≤ 21 ∧ s.length ≤ 22) ∧ RJbS w' w'.heap.size u l ∧ RI w' w'.heap.size v s ∧ Below w.heap.size w w'
theorem drawOrderOfStarts_any (v : Value) (n : Nat) (w : World) (h : RB w w.heap.size v n) (hn : n ≤ 1048576) :
    Calls Try.prog 20 #[v] w (RetSt w) := by
  have h0 := CurAt.made h
  obtain ⟨A, c, rfl, hlc, hc⟩ := h
  clear hc
  go_enter Try.func20, Try.ntmps20
  go_wp2_with fail
  refine (scheduled_any w.heap.size w.heap.size n 0 _ h0 (by omega) hn).mono ?_; rintro e w1 ⟨u, x, l, s, rfl, hl, r1, r2, h1, g1⟩
  have hb : Below w.heap.size w w1 := ((Below.refl _ _).alloc (Nat.le_refl _) _).trans (g1.below (Nat.le_refl _) (by simp))
  clear h0 h1 g1
  go_wp2_with fail
  go_ret2
  exact ⟨u, x, l, s, rfl, hl, r1, r2, hb⟩
theorem drawIsSchedule_any (v : Value) (n : Nat) (w : World) (h : RB w w.heap.size v n) (hn : n ≤ 1048576) :
    Calls Try.prog 5 #[v] w (RetSt w) := by
  have HA := Lib.hid (drawOrderOfStarts_any v n w h hn)
  obtain ⟨A, c, rfl, hlc, hc⟩ := h
  clear hc
  go_enter Try.func5, Try.ntmps5
  go_wp2_with fail
  refine HA.out.mono ?_; rintro e w1 ⟨u, x, l, s, rfl, hl, r1, r2, hb⟩
  go_wp2_with fail
  go_ret2
  exact ⟨u, x, l, s, rfl, hl, r1, r2, hb⟩
end Go.Proofs.Ytdlmacoblmnajaa
