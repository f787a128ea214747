/-
  The contracts of the check: that of the program and that of the model.
-/
import Derived.Test.YtkmopfgeenadgaaValid
import Derived.Test.YtkmopfgeenadgaaMath
namespace Go.Proofs.Ytkmopfgeenadgaa
open Go.RowKit
set_option maxRecDepth 100000

theorem ret_int {k : IntKind} {a b : Int} (h : a = b) : Ending.returned (.int k a) = .returned (.int k b) := by rw [h]

theorem frCheck_any (v : Value) (l : List Int) (w : World) (h : RI w w.heap.size v l) (hn : l.length ≤ 1048576) (hall : okAll 0 255 l = true) :
    Calls Try.prog 45 #[v] w fun e w' => e = .returned (.int .i64 (chk l)) ∧ w = w' := by
  obtain ⟨A, c, rfl, hlc, hc⟩ := h
  have hn' : (l.length : Int) ≤ 1048576 := by omega
  have HB := Lib.hid (fun j hj => okAll_at hall j hj)
  have HL := Lib.hid (chk_lt_take l (fun j hj => okAll_at hall j hj))
  clear hall
  go_enter Try.func45, Try.ntmps45
  go_wp2
  go_loop [3, 9] (fun r i => ∃ k : Nat, k ≤ l.length ∧ i = .int .i64 k ∧ r = .int .i64 (chk (l.take k) : Nat)) (fun _ i => l.length - (intOf i).toNat)
  case atStart => exact ⟨0, Nat.zero_le _, rfl, rfl⟩
  case round =>
    obtain ⟨k, hk, rfl, rfl⟩ := hrel
    by_cases hlt : k < l.length
    · obtain ⟨b, off, rfl, hbB, hcell⟩ := hc (by omega)
      have hcx : w.cell? ⟨b, off + k, none⟩ = some (.int .i64 (l.getD k 0)) := hcell k hlt
      have HC := Lib.hid hcell
      clear hcell hc
      have hx := HB.out k hlt
      have HS := Lib.hid (chk_snoc l k hlt)
      have hr := HL.out k hk
      generalize chk (l.take k) = r at hr HS ⊢
      generalize l.getD k 0 = x at hcx hx HS
      obtain ⟨xn, rfl⟩ := Int.eq_ofNat_of_zero_le hx.1
      have hx2 : xn < 256 := by omega
      have ex := i64_xor_nat r xn (by omega) (by omega)
      have hrx := xor_lt256 hr hx2
      rw [Int.toNat_natCast] at HS
      generalize r ^^^ xn = y at ex hrx HS
      go_wp2
      go_loop [3, 6] (fun t i => ∃ j : Nat, j ≤ 8 ∧ i = .int .i64 j ∧ t = .int .i64 (tXn j y : Nat)) (fun _ i => 8 - (intOf i).toNat)
      case atStart => exact ⟨0, by omega, rfl, rfl⟩
      case round =>
        obtain ⟨j, hj, rfl, rfl⟩ := hrel
        by_cases hj8 : j < 8
        · have ht := tXn_lt j y hrx
          have HT : Hid (tXn (j + 1) y = tX (tXn j y)) := rfl
          generalize tXn j y = t at ht HT
          have ht' : (t : Int) < 256 := by omega
          by_cases h2 : 127 < t
          · have ex2 : bits .xor .i64 ((t : Int) * 2 % 256) 7 = ((2 * t % 256 ^^^ 7 : Nat) : Int) := by
              have := i64_xor_nat (2 * t % 256) 7 (by omega) (by omega)
              rw [← this]; congr 1; omega
            rw [← tX_two t ht h2] at ex2
            have h2' : (255 : Int) < (t : Int) * 2 := by omega
            have HT2 : Hid (tX t = (2 * t) ^^^ 263) := by show tX t = _; rw [tX, if_pos h2]
            generalize 2 * t ^^^ 263 = z at ex2 HT2
            go_wp2
            go_round
            case rel => exact ⟨j + 1, by omega, by go_num, by rw [HT.out, HT2.out]⟩
            case measure => simp [intOf]; omega
          · have HT2 : Hid (((tX t : Nat) : Int) = (t : Int) * 2) := by show ((tX t : Nat) : Int) = _; rw [tX, if_neg h2]; omega
            go_wp2
            go_round
            case rel => exact ⟨j + 1, by omega, by go_num, by rw [HT.out, HT2.out]⟩
            case measure => simp [intOf]; omega
        · obtain rfl : j = 8 := by omega
          go_wp2
          go_round
          case rel => exact ⟨k + 1, by omega, by go_num, by rw [HS.out]⟩
          case measure => simp [intOf]; omega
    · obtain rfl : k = l.length := by omega
      go_wp2
      go_ret
      exact ⟨ret_int (by simp), rfl⟩

/-- What CheckOf says. -/
def chkOf (l : List Int) : Int × Bool := if areB l then (((chk l : Nat) : Int), true) else (0, false)
theorem chkOf_yes {l : List Int} (h : areB l = true) : chkOf l = (((chk l : Nat) : Int), true) := by unfold chkOf; rw [if_pos h]
theorem chkOf_no {l : List Int} (h : areB l = false) : chkOf l = (0, false) := by unfold chkOf; rw [if_neg (by simp [h])]
theorem ret_ib {a b : Int} {c d : Bool} (h : (a, c) = (b, d)) : Ending.returned (.tuple #[.int .i64 a, .bool c]) = .returned (.tuple #[.int .i64 b, .bool d]) := by
  injection h with h1 h2; rw [h1, h2]

end Go.Proofs.Ytkmopfgeenadgaa
