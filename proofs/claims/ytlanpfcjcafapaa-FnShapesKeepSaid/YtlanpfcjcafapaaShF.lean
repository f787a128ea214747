/-
  Chapter 8: the contracts of AddTraffic, both sides.
-/
import Derived.Test.YtlanpfcjcafapaaShA
import Derived.Test.YtlanpfcjcafapaaRow5
import Derived.Deep.LoopGhost
namespace Go.Proofs.Ytlanpfcjcafapaa
open Go.RowKit
set_option maxRecDepth 100000
set_option linter.unusedVariables false

theorem getD_end {l : List Int} {k : Nat} (h : ¬ k < l.length) : l.getD k 0 = 0 := by simp [List.getD, Nat.not_lt.1 h]
theorem comingAt_any (k : Nat) (v : Value) (l : List Int) (w : World) (h : RI w w.heap.size v l) (hn : l.length ≤ 1048576) (hk : k ≤ 1048576) :
    Calls Try.prog 102 #[.int .i64 (k : Int), v] w fun e w' => e = .returned (.int .i64 (l.getD k 0)) ∧ w = w' := by
  obtain ⟨A, c, rfl, hlc, hc⟩ := h
  have hn' : (l.length : Int) ≤ 1048576 := by omega
  by_cases hlt : k < l.length
  · obtain ⟨b, off, rfl, hbB, hcell⟩ := hc (by omega)
    have hcx := hcell k hlt
    have hlt' : (k : Int) < (l.length : Int) := by omega
    clear hcell hc
    generalize l.getD k 0 = x at hcx ⊢
    go_enter Try.func102, Try.ntmps102
    go_wp2_with fail
    go_ret
    exact ⟨rfl, rfl⟩
  · rw [getD_end hlt]
    have hlt' : ¬ ((k : Int) < (l.length : Int)) := by omega
    clear hc
    go_enter Try.func102, Try.ntmps102
    go_wp2_with fail
    go_ret
    exact ⟨rfl, rfl⟩
end Go.Proofs.Ytlanpfcjcafapaa
