/-
  The contracts of HasCheck.
-/
import Derived.Test.YtaokdocflbabjaaCheck
import Derived.Deep.QuietTactic
namespace Go.Proofs.Ytaokdocflbabjaa
open Go.RowKit
set_option maxRecDepth 100000

theorem quiet_left {P : Program} {f : FuncId} {args : Array Value} {w : World} {n : Nat} {v : Value}
    (h : Calls P f args (w.drewN n) fun e w' => e = .returned v ∧ w.drewN n = w') : Calls P f args (w.drewN n) fun e w' => e = .returned v ∧ ∃ m, w' = w.drewN m :=
  h.mono fun _ _ ⟨he, hm⟩ => ⟨he, n, hm.symm⟩

theorem ret_bb {a b c d : Bool} (h : (a, c) = (b, d)) : Ending.returned (.tuple #[.bool a, .bool c]) = .returned (.tuple #[.bool b, .bool d]) := by
  injection h with h1 h2; rw [h1, h2]

/-- The last one of bytes is the check of all others. -/
def hasC (l : List Int) : Bool := l.getD (l.length - 1) 0 == ((chk (l.take (l.length - 1)) : Nat) : Int)
def hasOf (l : List Int) : Bool × Bool := if areB l = true ∧ 0 < l.length then (hasC l, true) else (false, false)
theorem hasOf_yes {l : List Int} (h1 : areB l = true) (h2 : 0 < l.length) : hasOf l = (hasC l, true) := by unfold hasOf; rw [if_pos ⟨h1, h2⟩]
theorem hasOf_no {l : List Int} (h : ¬ (areB l = true ∧ 0 < l.length)) : hasOf l = (false, false) := by unfold hasOf; rw [if_neg h]
theorem okAll_take {lo hi : Int} {l : List Int} (h : okAll lo hi l = true) (k : Nat) : okAll lo hi (l.take k) = true := by
  unfold okAll at h ⊢
  rw [List.all_eq_true] at h ⊢
  exact fun x hx => h x (List.mem_of_mem_take hx)

theorem implHasCheck_yes (v : Value) (l : List Int) (w : World) (h : RI w w.heap.size v l) (hA : areB l = true) (h0 : 0 < l.length) :
    Calls Try.prog 49 #[v] w (RetV w (.tuple #[.bool (hasC l), .bool true])) := by
  have h1 := h
  have hl := areB_len hA
  have hok := Lib.hid (okAll_take (areB_ok hA) (l.length - 1))
  obtain ⟨A, c, rfl, hlc, hc⟩ := h
  obtain ⟨b, off, rfl, hbB, hcell⟩ := hc h0
  have hcx := hcell (l.length - 1) (by omega)
  have hf := h1.front (l.length - 1) (by omega)
  have hpos : (1 : Int) ≤ (l.length : Int) := by omega
  have hz : (l.length : Int) ≤ 40 := by omega
  have hne : ((l.length : Int) == 0) = false := beq_eq_false_iff_ne.2 (by omega)
  have HD : Hid (hasC l = (l.getD (l.length - 1) 0 == ((chk (l.take (l.length - 1)) : Nat) : Int))) := rfl
  clear hcell hc
  generalize l.getD (l.length - 1) 0 = x at hcx HD
  go_enter Try.func49, Try.ntmps49
  go_wp2_with fail
  refine (areBytes_any _ _ _ h1 (by omega)).mono ?_; rintro e w' ⟨rfl, rfl⟩
  go_wp2_with fail
  go_quiet ((go_at_call 79; exact quiet_left (checkOfBytes_any _ _ _ (hf.drewN _) (by simp; omega) hok.out)))
  go_wp2_with fail
  go_ret2
  exact ⟨ret_bb (by rw [HD.out]), below_drewN (Below.refl _ _) _⟩

theorem implHasCheck_any (v : Value) (l : List Int) (w : World) (h : RI w w.heap.size v l) (hn : l.length ≤ 1048576) :
    Calls Try.prog 49 #[v] w (RetV w (.tuple #[.bool (hasOf l).1, .bool (hasOf l).2])) := by
  by_cases hy : areB l = true ∧ 0 < l.length
  · rw [hasOf_yes hy.1 hy.2]
    exact implHasCheck_yes v l w h hy.1 hy.2
  · rw [hasOf_no hy]
    have h1 := h
    obtain ⟨A, c, rfl, hlc, hc⟩ := h
    clear hc
    rcases Nat.eq_zero_or_pos l.length with h0 | h0
    · have hnil := List.eq_nil_of_length_eq_zero h0
      subst hnil
      clear h0 hy
      go_enter Try.func49, Try.ntmps49
      go_wp2_with fail
      go_ret2
      exact ⟨rfl, Below.refl _ _⟩
    · cases hB : areB l
      · have hne : ((l.length : Int) == 0) = false := beq_eq_false_iff_ne.2 (by omega)
        clear hy
        go_enter Try.func49, Try.ntmps49
        go_wp2_with fail
        refine (areBytes_any _ _ _ h1 hn).mono ?_; rintro e w' ⟨rfl, rfl⟩
        go_wp2_with fail
        go_ret2
        exact ⟨rfl, Below.refl _ _⟩
      · exact absurd ⟨hB, h0⟩ hy

theorem frHas_yes (v : Value) (l : List Int) (w : World) (h : RI w w.heap.size v l) (hall : okAll 0 255 l = true) (h0 : 0 < l.length) (hl : l.length ≤ 1048576) :
    Calls Try.prog 80 #[v] w (RetV w (.bool (hasC l))) := by
  have h1 := h
  have hok := Lib.hid (okAll_take hall (l.length - 1))
  obtain ⟨A, c, rfl, hlc, hc⟩ := h
  obtain ⟨b, off, rfl, hbB, hcell⟩ := hc h0
  have hcx := hcell (l.length - 1) (by omega)
  have hf := h1.front (l.length - 1) (by omega)
  have hpos : (1 : Int) ≤ (l.length : Int) := by omega
  have hz : (l.length : Int) ≤ 1048576 := by omega
  have HD : Hid (hasC l = (l.getD (l.length - 1) 0 == ((chk (l.take (l.length - 1)) : Nat) : Int))) := rfl
  clear hcell hc
  generalize l.getD (l.length - 1) 0 = x at hcx HD
  go_enter Try.func80, Try.ntmps80
  go_wp2_with fail
  go_quiet ((go_at_call 78; exact quiet_left (frCheck_any _ _ _ (hf.drewN _) (by simp; omega) hok.out)))
  go_wp2_with fail
  go_ret
  exact ⟨ret_bool (by rw [HD.out]; exact Bool.beq_comm), below_drewN (Below.refl _ _) _⟩

theorem specHasCheck_any (v : Value) (l : List Int) (w : World) (h : RI w w.heap.size v l) (hn : l.length ≤ 1048576) :
    Calls Try.prog 48 #[v] w (RetV w (.tuple #[.bool (hasOf l).1, .bool (hasOf l).2])) := by
  have h1 := h
  obtain ⟨A, c, rfl, hlc, hc⟩ := h
  clear hc
  cases hB : areB l
  · rw [hasOf_no (by rw [hB]; simp)]
    go_enter Try.func48, Try.ntmps48
    go_wp2_with fail
    refine (frBytes_any _ _ _ h1 hn).mono ?_; rintro e w' ⟨rfl, rfl⟩
    go_wp2_with fail
    go_ret2
    exact ⟨rfl, Below.refl _ _⟩
  · rcases Nat.eq_zero_or_pos l.length with h0 | h0
    · rw [hasOf_no (by omega)]
      have hnil := List.eq_nil_of_length_eq_zero h0
      subst hnil
      clear h0
      go_enter Try.func48, Try.ntmps48
      go_wp2_with fail
      refine (frBytes_any _ _ _ h1 hn).mono ?_; rintro e w' ⟨rfl, rfl⟩
      go_wp2_with fail
      go_ret2
      exact ⟨rfl, Below.refl _ _⟩
    · rw [hasOf_yes hB h0]
      have hne : ((l.length : Int) == 0) = false := beq_eq_false_iff_ne.2 (by omega)
      have hok := Lib.hid (areB_ok hB)
      go_enter Try.func48, Try.ntmps48
      go_wp2_with fail
      refine (frBytes_any _ _ _ h1 hn).mono ?_; rintro e w' ⟨rfl, rfl⟩
      go_wp2_with fail
      refine (frHas_yes _ _ _ h1 hok.out h0 hn).mono ?_; rintro e w1 ⟨rfl, hb⟩
      go_wp2_with fail
      go_ret2
      exact ⟨rfl, hb⟩
end Go.Proofs.Ytaokdocflbabjaa
