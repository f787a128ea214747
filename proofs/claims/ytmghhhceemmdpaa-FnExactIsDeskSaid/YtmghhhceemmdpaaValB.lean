/-
  The contracts of the small functions that look whether numbers, bytes and bits are what they should be: those of the program and those of the model.
-/
import Derived.Test.YtmghhhceemmdpaaIn
namespace Go.Proofs.Ytmghhhceemmdpaa
open Go.RowKit

def areB (l : List Int) : Bool := decide (l.length ≤ 40) && okAll 0 255 l
def areBit (l : List Int) : Bool := decide (l.length ≤ 400) && okAll 0 1 l
theorem areB_len {l : List Int} (h : areB l = true) : l.length ≤ 40 := by simp [areB] at h; exact h.1
theorem areB_ok {l : List Int} (h : areB l = true) : okAll 0 255 l = true := by simp [areB] at h; exact h.2
theorem areBit_len {l : List Int} (h : areBit l = true) : l.length ≤ 400 := by simp [areBit] at h; exact h.1
theorem areBit_ok {l : List Int} (h : areBit l = true) : okAll 0 1 l = true := by simp [areBit] at h; exact h.2

theorem l1All_any (v : Value) (l : List Int) (lo g : Int) (w : World) (h : RI w w.heap.size v l) (hn : l.length ≤ 1048576) :
    Calls Try.prog 40 #[v, .int .i64 lo, .int .i64 g] w fun e w' => e = .returned (.bool (okAll lo g l)) ∧ w = w' := by
  obtain ⟨A, c, rfl, hlc, hc⟩ := h
  have hn' : (l.length : Int) ≤ 1048576 := by omega
  go_enter Try.func40, Try.ntmps40
  go_wp2
  go_loop [11] (fun i => ∃ k : Nat, k ≤ l.length ∧ i = .int .i64 k ∧ ∀ j, j < k → lo ≤ l.getD j 0 ∧ l.getD j 0 ≤ g) (fun i => l.length - (intOf i).toNat)
  case atStart => exact ⟨0, Nat.zero_le _, rfl, fun j hj => absurd hj (by omega)⟩
  case round =>
    obtain ⟨k, hk, rfl, hall⟩ := hrel
    have HA := Lib.hid hall
    clear hall
    by_cases hlt : k < l.length
    · obtain ⟨b, off, rfl, hbB, hcell⟩ := hc (by omega)
      have hcx : w.cell? ⟨b, off + k, none⟩ = some (.int .i64 (l.getD k 0)) := hcell k hlt
      have HC := Lib.hid hcell
      clear hcell hc
      obtain ⟨x, hx⟩ : ∃ x, x = l.getD k 0 := ⟨_, rfl⟩
      rw [← hx] at hcx
      have HX := Lib.hid hx
      clear hx
      by_cases hw : lo ≤ x ∧ x ≤ g
      · go_wp2_with (go_at_call 37; refine (l1In_is _ _ _ _ true (by simp [hw])).mono ?_; rintro e w' ⟨rfl, rfl⟩)
        go_round
        case rel =>
          refine ⟨k + 1, by omega, by go_num, fun j hj => ?_⟩
          by_cases hjk : j = k
          · subst hjk; rw [← HX.out]; exact hw
          · exact HA.out j (by omega)
        case measure => simp [intOf]; omega
      · have HN := Lib.hid hw
        clear hw
        go_wp2_with (go_at_call 37; refine (l1In_is _ _ _ _ false (by simpa using HN.out)).mono ?_; rintro e w' ⟨rfl, rfl⟩)
        go_ret
        exact ⟨ret_bool (okAll_no hlt (by rw [← HX.out]; exact HN.out)).symm, rfl⟩
    · obtain rfl : k = l.length := by omega
      go_wp2
      go_ret
      exact ⟨ret_bool (okAll_of HA.out).symm, rfl⟩

theorem areBytes_any (v : Value) (l : List Int) (w : World) (h : RI w w.heap.size v l) (hn : l.length ≤ 1048576) :
    Calls Try.prog 36 #[v] w fun e w' => e = .returned (.bool (areB l)) ∧ w = w' := by
  have h0 := h
  obtain ⟨A, c, rfl, hlc, _⟩ := h
  have hn' : (l.length : Int) ≤ 1048576 := by omega
  by_cases hl : l.length ≤ 40
  · go_enter Try.func36, Try.ntmps36
    go_wp2_with (go_at_call 41; refine (areAllUpTo_any _ _ _ _ h0 hn).mono ?_; rintro e w' ⟨rfl, rfl⟩)
    go_ret
    exact ⟨ret_bool (by simp [areB, hl]), rfl⟩
  · go_enter Try.func36, Try.ntmps36
    go_wp2
    go_ret
    exact ⟨ret_bool (by simp [areB]; omega), rfl⟩

end Go.Proofs.Ytmghhhceemmdpaa
