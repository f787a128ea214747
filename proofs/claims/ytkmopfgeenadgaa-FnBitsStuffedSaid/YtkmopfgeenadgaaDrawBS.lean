/-
  The draws of bits and bytes.
-/
import Derived.Test.YtkmopfgeenadgaaBytesD
namespace Go.Proofs.Ytkmopfgeenadgaa
open Go.RowKit
set_option maxRecDepth 100000
set_option linter.unusedVariables false
/-- What a draw leaves. -/
def RetDL (w : World) (e : Ending) (w' : World) : Prop := ∃ (u : Value) (l : List Int), e = .returned u ∧ l.length ≤ 1000 ∧ RI w' w'.heap.size u l ∧ Below w.heap.size w w'
theorem drawFromBits_any (v : Value) (n : Nat) (w : World) (h : RB w w.heap.size v n) (hn : n ≤ 1048576) : Calls Try.prog 16 #[v] w (RetDL w) := by
  have h0 := CurAt.made h
  obtain ⟨A, c, rfl, hlc, hc⟩ := h
  clear hc
  go_enter Try.func16, Try.ntmps16
  go_wp2_with fail
  refine (bits_any w.heap.size w.heap.size n 0 _ h0 (by omega) hn).mono ?_; rintro e w1 ⟨u, l, rfl, hl, hj, h1, g1⟩
  have hb : Below w.heap.size w w1 := ((Below.refl _ _).alloc (Nat.le_refl _) _).trans (g1.below (Nat.le_refl _) (by simp))
  go_wp2_with fail
  go_ret
  exact ⟨u, l, rfl, by omega, hj.ri, hb⟩
theorem drawStuffBits_any (v : Value) (n : Nat) (w : World) (h : RB w w.heap.size v n) (hn : n ≤ 1048576) : Calls Try.prog 5 #[v] w (RetDL w) := by
  have HA := Lib.hid (drawFromBits_any v n w h hn)
  obtain ⟨A, c, rfl, hlc, hc⟩ := h
  clear hc
  go_enter Try.func5, Try.ntmps5
  go_wp2_with fail
  refine HA.out.mono ?_; rintro e w1 ⟨u, l, rfl, hl, hj, hb⟩
  go_wp2_with fail
  go_ret
  exact ⟨u, l, rfl, hl, hj, hb⟩
theorem drawFrameOf_any (v : Value) (n : Nat) (w : World) (h : RB w w.heap.size v n) (hn : n ≤ 1048576) : Calls Try.prog 27 #[v] w (RetDL w) := by
  have h0 := CurAt.made h
  obtain ⟨A, c, rfl, hlc, hc⟩ := h
  clear hc
  go_enter Try.func27, Try.ntmps27
  go_wp2_with fail
  refine (bytes_any w.heap.size w.heap.size n 0 _ h0 (by omega) hn).mono ?_; rintro e w1 ⟨u, l, rfl, hl, hj, h1, g1⟩
  have hb : Below w.heap.size w w1 := ((Below.refl _ _).alloc (Nat.le_refl _) _).trans (g1.below (Nat.le_refl _) (by simp))
  go_wp2_with fail
  go_ret
  exact ⟨u, l, rfl, by omega, hj, hb⟩
theorem drawBitsOf_any (v : Value) (n : Nat) (w : World) (h : RB w w.heap.size v n) (hn : n ≤ 1048576) : Calls Try.prog 13 #[v] w (RetDL w) := by
  have HA := Lib.hid (drawFrameOf_any v n w h hn)
  obtain ⟨A, c, rfl, hlc, hc⟩ := h
  clear hc
  go_enter Try.func13, Try.ntmps13
  go_wp2_with fail
  refine HA.out.mono ?_; rintro e w1 ⟨u, l, rfl, hl, hj, hb⟩
  go_wp2_with fail
  go_ret
  exact ⟨u, l, rfl, hl, hj, hb⟩
theorem drawUnstuffBits_any (v : Value) (n : Nat) (w : World) (h : RB w w.heap.size v n) (hn : n ≤ 1048576) : Calls Try.prog 11 #[v] w (RetDL w) := by
  have h0 := CurAt.made h
  obtain ⟨A, c, rfl, hlc, hc⟩ := h
  clear hc
  go_enter Try.func11, Try.ntmps11
  go_wp2_with fail
  refine (bits_any w.heap.size w.heap.size n 0 _ h0 (by omega) hn).mono ?_; rintro e w1 ⟨u, l, rfl, hl, hj, h1, g1⟩
  have hb : Below w.heap.size w w1 := ((Below.refl _ _).alloc (Nat.le_refl _) _).trans (g1.below (Nat.le_refl _) (by simp))
  have hr := hj.ri
  clear g1 h0
  cases hA : areBit l
  · go_wp2_with fail
    refine (frAre_any _ l _ hr (by omega)).mono ?_; rintro e w2 ⟨rfl, rfl⟩
    simp only [hA]
    go_wp2_with fail
    refine (bits_any w.heap.size w.heap.size n _ _ h1 (by omega) hn).mono ?_; rintro e w3 ⟨u3, l3, rfl, hl3, hj3, h3, g3⟩
    have hb3 := hb.trans (g3.below (Nat.le_refl _) hb.size)
    go_wp2_with fail
    go_ret
    exact ⟨u3, l3, rfl, by omega, hj3.ri, hb3⟩
  · go_wp2_with fail
    refine (frAre_any _ l _ hr (by omega)).mono ?_; rintro e w2 ⟨rfl, rfl⟩
    simp only [hA]
    go_wp2_with fail
    refine (one_any w.heap.size w.heap.size n _ 2 _ h1 (by omega) hn (by omega) (by omega)).mono ?_; rintro e w3 ⟨bb, rfl, h3, g3⟩
    have hb3 := hb.trans (g3.below (Nat.le_refl _) hb.size)
    cases bb
    · go_wp2_with fail
      refine (bits_any w.heap.size w.heap.size n _ _ h3 (by omega) hn).mono ?_; rintro e w4 ⟨u4, l4, rfl, hl4, hj4, h4, g4⟩
      have hb4 := hb3.trans (g4.below (Nat.le_refl _) hb3.size)
      go_wp2_with fail
      go_ret
      exact ⟨u4, l4, rfl, by omega, hj4.ri, hb4⟩
    · have hr3 := (hj.far g3 (.inr (by simp))).ri.more g3.size
      go_wp2_with fail
      refine (frStuff_any _ l _ hr3 (by omega) (areBit_ok hA)).mono ?_; rintro e w4 ⟨u4, rfl, ho4, hb4⟩
      have hb5 := hb3.trans (hb4.mono hb3.size)
      go_wp2_with fail
      go_ret
      exact ⟨u4, _, rfl, by have := stuffOf_len l; omega, ho4.ri, hb5⟩
end Go.Proofs.Ytkmopfgeenadgaa
