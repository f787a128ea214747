/-
  The draws of jobs, and the helpers of the drawn laws that compare lists.
-/
import Derived.Test.YtdlmacoblmnajaaCurJ
import Derived.Test.YtdlmacoblmnajaaJobs
namespace Go.Proofs.Ytdlmacoblmnajaa
open Go.RowKit
set_option maxRecDepth 100000
set_option linter.unusedVariables false

/-- A cursor that has just been made. -/
theorem CurAt.made {w : World} {s : Value} {n : Nat} (h : RB w w.heap.size s n) : CurAt (w.alloc (.cells #[s, .int .i64 0, .int .u64 0] 50)) w.heap.size w.heap.size n 0 :=
  ⟨Nat.le_refl _, s, 0, 0, BK.made w _ _, by omega, by omega, h.below ((Below.refl _ _).alloc (Nat.le_refl _) _)⟩
/-- What a draw of jobs leaves. -/
def RetDrawn (w : World) (e : Ending) (w' : World) : Prop :=
  ∃ (u : Value) (l : List Jb), e = .returned u ∧ l.length ≤ 21 ∧ OJbS w' w.heap.size w'.heap.size u l ∧ Below w.heap.size w w'
/-- Two lists that are the same are told to be the same. -/
theorem kSame_any (a b : Value) (l : List Int) (B : Nat) (w : World) (ha : RI w B a l) (hb : RI w B b l) (hl : l.length ≤ 1048576) :
    Calls Try.prog 18 #[a, b] w (RetV w (.bool true)) := by
  obtain ⟨A1, c1, rfl, hc1, hd1⟩ := ha
  obtain ⟨A2, c2, rfl, hc2, hd2⟩ := hb
  have hl' : (l.length : Int) ≤ 1048576 := by omega
  have H1 := Lib.hid hd1
  have H2 := Lib.hid hd2
  clear hd1 hd2
  go_enter Try.func18, Try.ntmps18
  go_wp2_with fail
  go_loopw [13] (fun i wr => ∃ j : Nat, j ≤ l.length ∧ i = .int .i64 j ∧ Below w.heap.size w wr ∧ (∀ b o, b < B → wr.cell? ⟨b, o, none⟩ = w.cell? ⟨b, o, none⟩)) (fun i _ => l.length - (intOf i).toNat)
  case atStart => exact ⟨0, Nat.zero_le _, rfl, Below.refl _ _, fun _ _ _ => rfl⟩
  case round =>
    obtain ⟨j, hj, rfl, hT, hK⟩ := hrel
    have HT := Lib.hid hT
    have HK := Lib.hid hK
    by_cases hlt : j < l.length
    · obtain ⟨b1, o1, rfl, hb1, q1⟩ := H1.out (by omega)
      obtain ⟨b2, o2, rfl, hb2, q2⟩ := H2.out (by omega)
      have d1 := (hK b1 (o1 + j) hb1).trans (q1 j hlt)
      have d2 := (hK b2 (o2 + j) hb2).trans (q2 j hlt)
      generalize l.getD j 0 = x at d1 d2
      clear q1 q2 hK hT H1 H2
      go_wp2
      go_quiet (fail)
      go_wp2
      go_roundw
      case rel => exact ⟨j + 1, by omega, by go_num, below_drewN HT.out _, fun b o hb => HK.out b o hb⟩
      case measure => simp [intOf]; omega
    · obtain rfl : j = l.length := by omega
      clear hK hT
      go_wp2
      go_ret
      exact ⟨rfl, HT.out⟩
/-- Whether bytes are more than the laws take. -/
theorem big_all (a b : Value) (n m B : Nat) (w : World) (ha : RB w B a n) (hb : RB w B b m) :
    Calls Try.prog 4 #[a, b] w (RetV w (.bool (decide ((1048576 : Int) < n) || decide ((1048576 : Int) - n < m)))) := by
  obtain ⟨A1, c1, rfl, hc1, hd1⟩ := ha
  obtain ⟨A2, c2, rfl, hc2, hd2⟩ := hb
  clear hd1 hd2
  have h1 : (n : Int) ≤ 9223372036854775807 := by unfold maxLen at hc1; omega
  have h2 : (m : Int) ≤ 9223372036854775807 := by unfold maxLen at hc2; omega
  by_cases hn : (1048576 : Int) < n
  · rw [decide_eq_true hn, Bool.true_or]
    go_enter Try.func4, Try.ntmps4
    go_wp2_with fail
    go_ret
    exact ⟨rfl, Below.refl _ _⟩
  · rw [decide_eq_false hn, Bool.false_or]
    have hn2 : (n : Int) ≤ 1048576 := by omega
    go_enter Try.func4, Try.ntmps4
    go_wp2_with fail
    go_ret
    exact ⟨rfl, Below.refl _ _⟩
/-- Bytes within the bounds. -/
theorem big_any (a b : Value) (n m B : Nat) (w : World) (ha : RB w B a n) (hb : RB w B b m) (hn : n + m ≤ 1048576) :
    Calls Try.prog 4 #[a, b] w (RetV w (.bool false)) := by
  have h := big_all a b n m B w ha hb
  rw [decide_eq_false (by omega), decide_eq_false (by omega)] at h
  exact h
/-- The lengths of jobs, added up. -/
def sumJ (l : List Jb) : Int := l.foldl (fun n x => n + x.l) 0
end Go.Proofs.Ytdlmacoblmnajaa
