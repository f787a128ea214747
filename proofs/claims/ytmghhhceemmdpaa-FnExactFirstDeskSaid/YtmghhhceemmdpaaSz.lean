/-
  The contract of the laws' measure of a slice of ints.
-/
import Derived.Test.YtmghhhceemmdpaaBk
namespace Go.Proofs.Ytmghhhceemmdpaa
open Go.RowKit
set_option maxRecDepth 100000

theorem szIntS_any (v : Value) (l : List Int) (n : Int) (w : World) (h : RI w w.heap.size v l) (h0 : 0 ≤ n) (h1 : n ≤ 1048576) (h2 : l.length ≤ maxLen) :
    Calls Try.prog 30 #[v, .int .i64 n] w fun e w' => e = .returned (.int .i64 (if n < l.length then -1 else n - l.length)) ∧ w = w' := by
  obtain ⟨A, c, rfl, hlc, hc⟩ := h
  clear hc
  unfold maxLen at h2
  have h3 : (l.length : Int) ≤ 9223372036854775807 := by omega
  rcases Int.lt_or_le n l.length with hlt | hlt
  · rw [if_pos hlt]
    have hneg : n - (l.length : Int) < 0 := by omega
    go_enter Try.func30, Try.ntmps30
    go_wp2
    go_ret
    exact ⟨rfl, rfl⟩
  · rw [if_neg (by omega)]
    have hneg : 0 ≤ n - (l.length : Int) := by omega
    go_enter Try.func30, Try.ntmps30
    go_wp2
    go_ret
    exact ⟨rfl, rfl⟩
def szLeft (n : Int) (l : List Int) : Int := if n < l.length then -1 else n - l.length
theorem szLeft_neg {n : Int} {l : List Int} (h : n < l.length) : szLeft n l = -1 := if_pos h
theorem szLeft_pos {n : Int} {l : List Int} (h : ¬ n < l.length) : szLeft n l = n - l.length := if_neg h
end Go.Proofs.Ytmghhhceemmdpaa
