/-
  The contracts on the distance of two lists of bytes.
-/
import Derived.Test.YtaokdocflbabjaaValid
import Derived.Test.YtaokdocflbabjaaMath
namespace Go.Proofs.Ytaokdocflbabjaa
open Go.RowKit
set_option maxRecDepth 100000

/-- How many ones a byte has. -/
def hwf : Nat → Nat → Nat
  | 0, _ => 0
  | f + 1, n => n % 2 + hwf f (n / 2)
def hw (n : Nat) : Nat := hwf 8 n
theorem hw_all : ∀ r : Fin 256, hw r.val = r.val % 2 + hw (r.val / 2) ∧ hw r.val ≤ 8 := by decide +kernel
theorem hw_step (r : Nat) (h : r < 256) : hw r = r % 2 + hw (r / 2) := (hw_all ⟨r, h⟩).1
theorem hw_le (r : Nat) (h : r < 256) : hw r ≤ 8 := (hw_all ⟨r, h⟩).2
/-- At how many places the bits of the first k bytes are different. -/
def dst (a b : List Int) : Nat → Nat
  | 0 => 0
  | k + 1 => dst a b k + hw ((a.getD k 0).toNat ^^^ (b.getD k 0).toNat)
theorem dst_le (a b : List Int) (ha : ∀ j, j < a.length → 0 ≤ a.getD j 0 ∧ a.getD j 0 ≤ 255) (hb : ∀ j, j < b.length → 0 ≤ b.getD j 0 ∧ b.getD j 0 ≤ 255) (k : Nat) (h1 : k ≤ a.length) (h2 : k ≤ b.length) : dst a b k ≤ 8 * k := by
  induction k with
  | zero => simp [dst]
  | succ k ih =>
    have := ih (by omega) (by omega)
    have h3 := ha k (by omega)
    have h4 := hb k (by omega)
    have := hw_le _ (xor_lt256 (a := (a.getD k 0).toNat) (b := (b.getD k 0).toNat) (by omega) (by omega))
    simp only [dst]
    omega
/-- What DistanceOf says. -/
def distOf (a b : List Int) : Int × Bool := if areB a = true ∧ areB b = true ∧ a.length = b.length then (((dst a b a.length : Nat) : Int), true) else (0, false)
theorem distOf_yes {a b : List Int} (h1 : areB a = true) (h2 : areB b = true) (h3 : a.length = b.length) : distOf a b = (((dst a b a.length : Nat) : Int), true) := by unfold distOf; rw [if_pos ⟨h1, h2, h3⟩]
theorem distOf_no {a b : List Int} (h : ¬ (areB a = true ∧ areB b = true ∧ a.length = b.length)) : distOf a b = (0, false) := by unfold distOf; rw [if_neg h]

theorem implDistanceOf_yes (v v' : Value) (a b : List Int) (w : World) (h : RI w w.heap.size v a) (h' : RI w w.heap.size v' b) (h1 : areB a = true) (h2 : areB b = true) (h3 : a.length = b.length) :
    Calls Try.prog 53 #[v, v'] w (RetV w (.tuple #[.int .i64 (dst a b a.length : Nat), .bool true])) := by
  have h0 := h
  have h0' := h'
  have hl1 := areB_len h1
  have hl2 := areB_len h2
  have HA := Lib.hid (fun j hj => okAll_at (areB_ok h1) j hj)
  have HB := Lib.hid (fun j hj => okAll_at (areB_ok h2) j hj)
  have HD := Lib.hid (dst_le a b (fun j hj => okAll_at (areB_ok h1) j hj) (fun j hj => okAll_at (areB_ok h2) j hj))
  obtain ⟨A, c, rfl, hlc, hc⟩ := h
  obtain ⟨A', c', rfl, hlc', hc'⟩ := h'
  have e1 : (a.length : Int) ≤ b.length := by omega
  have e2 : (b.length : Int) ≤ a.length := by omega
  have e3 : a.length ≤ b.length := by omega
  have hz : (a.length : Int) ≤ 40 := by omega
  clear h3
  go_enter Try.func53, Try.ntmps53
  go_wp2_with fail
  refine (areBytes_any _ _ _ h0 (by omega)).mono ?_; rintro e w' ⟨rfl, rfl⟩
  go_wp2_with fail
  refine (areBytes_any _ _ _ h0' (by omega)).mono ?_; rintro e w' ⟨rfl, rfl⟩
  go_wp2_with fail
  go_loopw [6, 26] (fun d i wr => ∃ k : Nat, k ≤ a.length ∧ i = .int .i64 k ∧ d = .int .i64 (dst a b k : Nat) ∧ Below w.heap.size w wr) (fun _ i _ => a.length - (intOf i).toNat)
  case atStart => exact ⟨0, Nat.zero_le _, rfl, rfl, Below.refl _ _⟩
  case round =>
    obtain ⟨k, hk, rfl, rfl, hb⟩ := hrel
    have hdk := HD.out k hk (by omega)
    by_cases hlt : k < a.length
    · obtain ⟨b1, off, rfl, hbB, hcell⟩ := hc (by omega)
      obtain ⟨b2, off', rfl, hbB', hcell'⟩ := hc' (by omega)
      have hcx : wr.cell? ⟨b1, off + k, none⟩ = some (.int .i64 (a.getD k 0)) := (hb.cell (p := ⟨b1, off + k, none⟩) hbB).trans (hcell k hlt)
      have hcy : wr.cell? ⟨b2, off' + k, none⟩ = some (.int .i64 (b.getD k 0)) := (hb.cell (p := ⟨b2, off' + k, none⟩) hbB').trans (hcell' k (by omega))
      have HC := Lib.hid hcell
      have HC' := Lib.hid hcell'
      clear hcell hc hcell' hc'
      have hx := HA.out k hlt
      have hy := HB.out k (by omega)
      have HS : Hid (dst a b (k + 1) = dst a b k + hw ((a.getD k 0).toNat ^^^ (b.getD k 0).toNat)) := rfl
      generalize a.getD k 0 = x at hcx hx HS
      generalize b.getD k 0 = y at hcy hy HS
      obtain ⟨xn, rfl⟩ := Int.eq_ofNat_of_zero_le hx.1
      obtain ⟨yn, rfl⟩ := Int.eq_ofNat_of_zero_le hy.1
      have hx2 : xn < 256 := by omega
      have hy2 : yn < 256 := by omega
      have ex := i64_xor_nat xn yn (by omega) (by omega)
      have hrx := xor_lt256 hx2 hy2
      simp only [Int.toNat_natCast] at HS
      generalize xn ^^^ yn = r at ex hrx HS
      have hi1 : (k : Int) < (a.length : Int) := by omega
      have hi2 : (k : Int) < (b.length : Int) := by omega
      have hwl := hw_le r hrx
      have HS2 : Hid (dst a b k + hw r = dst a b (k + 1)) := HS.out.symm
      obtain ⟨D, hDe⟩ : ∃ D, D = dst a b (k + 1) := ⟨_, rfl⟩
      rw [← hDe] at HS2
      have HDE := Lib.hid hDe
      clear hDe
      generalize dst a b k = d0 at hdk HS2 ⊢
      clear HS
      go_wp2
      go_quiet (fail)
      go_wp2
      go_loop [6, 8] (fun d t => ∃ (r : Nat) (e : Nat), r < 256 ∧ e + hw r = D ∧ D ≤ 320 ∧ t = .int .i64 r ∧ d = .int .i64 e) (fun _ t => (intOf t).toNat)
      case atStart => exact ⟨r, d0, hrx, HS2.out, by have := HS2.out; omega, rfl, rfl⟩
      case round =>
        obtain ⟨q, e, hq, hsum, hD, rfl, rfl⟩ := hrel
        have HQ := Lib.hid hsum
        have he : e ≤ 320 := by omega
        clear hsum
        by_cases hq0 : 0 < q
        · have HW := Lib.hid (hw_step q hq)
          have hq0' : (0 : Int) < (q : Int) := by omega
          go_wp2
          go_round
          case rel => exact ⟨q / 2, e + q % 2, by omega, by have := HQ.out; rw [HW.out] at this; omega, hD, by go_num, by go_num⟩
          case measure => simp [intOf]; omega
        · obtain rfl : q = 0 := by omega
          have HF : Hid (e = D) := by show e = D; have := HQ.out; have h00 : hw 0 = 0 := rfl; omega
          go_wp2
          go_roundw
          case rel => first | exact ⟨k + 1, by omega, by go_num, by rw [HF.out, HDE.out], below_drewN hb _⟩ | exact ⟨k + 1, by omega, by go_num, by rw [HF.out, HDE.out], hb⟩
          case measure => simp [intOf]; omega
    · obtain rfl : k = a.length := by omega
      go_wp2
      go_ret2
      exact ⟨rfl, hb⟩
theorem implDistanceOf_any (v v' : Value) (a b : List Int) (w : World) (h : RI w w.heap.size v a) (h' : RI w w.heap.size v' b) (hn : a.length ≤ 1048576) (hn' : b.length ≤ 1048576) :
    Calls Try.prog 53 #[v, v'] w (RetV w (.tuple #[.int .i64 (distOf a b).1, .bool (distOf a b).2])) := by
  have h0 := h
  have h0' := h'
  cases h1 : areB a
  · rw [distOf_no (by rw [h1]; simp)]
    go_enter Try.func53, Try.ntmps53
    go_wp2_with (go_at_call 65; refine (areBytes_any _ _ _ h0 hn).mono ?_; rintro e w' ⟨rfl, rfl⟩)
    go_ret2
    exact ⟨rfl, Below.refl _ _⟩
  · cases h2 : areB b
    · rw [distOf_no (by rw [h2]; simp)]
      go_enter Try.func53, Try.ntmps53
      go_wp2_with fail
      refine (areBytes_any _ _ _ h0 hn).mono ?_; rintro e w' ⟨rfl, rfl⟩
      go_wp2_with fail
      refine (areBytes_any _ _ _ h0' hn').mono ?_; rintro e w' ⟨rfl, rfl⟩
      go_wp2_with fail
      go_ret2
      exact ⟨rfl, Below.refl _ _⟩
    · by_cases h3 : a.length = b.length
      · rw [distOf_yes h1 h2 h3]
        exact implDistanceOf_yes v v' a b w h h' h1 h2 h3
      · rw [distOf_no (fun h => h3 h.2.2)]
        obtain ⟨A, c, rfl, hlc, hc⟩ := h
        obtain ⟨A', c', rfl, hlc', hc'⟩ := h'
        clear hc hc'
        have h3' : ((a.length : Int) == (b.length : Int)) = false := beq_eq_false_iff_ne.2 (fun e => h3 (by omega))
        clear h3
        go_enter Try.func53, Try.ntmps53
        go_wp2_with fail
        refine (areBytes_any _ _ _ h0 hn).mono ?_; rintro e w' ⟨rfl, rfl⟩
        go_wp2_with fail
        refine (areBytes_any _ _ _ h0' hn').mono ?_; rintro e w' ⟨rfl, rfl⟩
        go_wp2_with fail
        go_ret2
        exact ⟨rfl, Below.refl _ _⟩

theorem specDistanceOf_yes (v v' : Value) (a b : List Int) (w : World) (h : RI w w.heap.size v a) (h' : RI w w.heap.size v' b) (h1 : areB a = true) (h2 : areB b = true) (h3 : a.length = b.length) :
    Calls Try.prog 52 #[v, v'] w (RetV w (.tuple #[.int .i64 (dst a b a.length : Nat), .bool true])) := by
  have h0 := h
  have h0' := h'
  have hl1 := areB_len h1
  have hl2 := areB_len h2
  have HA := Lib.hid (fun j hj => okAll_at (areB_ok h1) j hj)
  have HB := Lib.hid (fun j hj => okAll_at (areB_ok h2) j hj)
  have HD := Lib.hid (dst_le a b (fun j hj => okAll_at (areB_ok h1) j hj) (fun j hj => okAll_at (areB_ok h2) j hj))
  obtain ⟨A, c, rfl, hlc, hc⟩ := h
  obtain ⟨A', c', rfl, hlc', hc'⟩ := h'
  have e1 : (a.length : Int) ≤ b.length := by omega
  have e2 : (b.length : Int) ≤ a.length := by omega
  have e3 : a.length ≤ b.length := by omega
  have hz : (a.length : Int) ≤ 40 := by omega
  clear h3
  go_enter Try.func52, Try.ntmps52
  go_wp2_with fail
  refine (frBytes_any _ _ _ h0 (by omega)).mono ?_; rintro e w' ⟨rfl, rfl⟩
  go_wp2_with fail
  refine (frBytes_any _ _ _ h0' (by omega)).mono ?_; rintro e w' ⟨rfl, rfl⟩
  go_wp2_with fail
  go_loopw [6, 27] (fun d i wr => ∃ k : Nat, k ≤ a.length ∧ i = .int .i64 k ∧ d = .int .i64 (dst a b k : Nat) ∧ Below w.heap.size w wr) (fun _ i _ => a.length - (intOf i).toNat)
  case atStart => exact ⟨0, Nat.zero_le _, rfl, rfl, Below.refl _ _⟩
  case round =>
    obtain ⟨k, hk, rfl, rfl, hb⟩ := hrel
    have hdk := HD.out k hk (by omega)
    by_cases hlt : k < a.length
    · obtain ⟨b1, off, rfl, hbB, hcell⟩ := hc (by omega)
      obtain ⟨b2, off', rfl, hbB', hcell'⟩ := hc' (by omega)
      have hcx : wr.cell? ⟨b1, off + k, none⟩ = some (.int .i64 (a.getD k 0)) := (hb.cell (p := ⟨b1, off + k, none⟩) hbB).trans (hcell k hlt)
      have hcy : wr.cell? ⟨b2, off' + k, none⟩ = some (.int .i64 (b.getD k 0)) := (hb.cell (p := ⟨b2, off' + k, none⟩) hbB').trans (hcell' k (by omega))
      have HC := Lib.hid hcell
      have HC' := Lib.hid hcell'
      clear hcell hc hcell' hc'
      have hx := HA.out k hlt
      have hy := HB.out k (by omega)
      have HS : Hid (dst a b (k + 1) = dst a b k + hw ((a.getD k 0).toNat ^^^ (b.getD k 0).toNat)) := rfl
      generalize a.getD k 0 = x at hcx hx HS
      generalize b.getD k 0 = y at hcy hy HS
      obtain ⟨xn, rfl⟩ := Int.eq_ofNat_of_zero_le hx.1
      obtain ⟨yn, rfl⟩ := Int.eq_ofNat_of_zero_le hy.1
      have hx2 : xn < 256 := by omega
      have hy2 : yn < 256 := by omega
      have ex := i64_xor_nat xn yn (by omega) (by omega)
      have hrx := xor_lt256 hx2 hy2
      simp only [Int.toNat_natCast] at HS
      generalize xn ^^^ yn = r at ex hrx HS
      have hi1 : (k : Int) < (a.length : Int) := by omega
      have hi2 : (k : Int) < (b.length : Int) := by omega
      have hwl := hw_le r hrx
      have HS2 : Hid (dst a b k + hw r = dst a b (k + 1)) := HS.out.symm
      obtain ⟨D, hDe⟩ : ∃ D, D = dst a b (k + 1) := ⟨_, rfl⟩
      rw [← hDe] at HS2
      have HDE := Lib.hid hDe
      clear hDe
      generalize dst a b k = d0 at hdk HS2 ⊢
      clear HS
      go_wp2
      go_loop [6, 9] (fun d t => ∃ (r : Nat) (e : Nat), r < 256 ∧ e + hw r = D ∧ D ≤ 320 ∧ t = .int .i64 r ∧ d = .int .i64 e) (fun _ t => (intOf t).toNat)
      case atStart => exact ⟨r, d0, hrx, HS2.out, by have := HS2.out; omega, rfl, rfl⟩
      case round =>
        obtain ⟨q, e, hq, hsum, hD, rfl, rfl⟩ := hrel
        have HQ := Lib.hid hsum
        have he : e ≤ 320 := by omega
        clear hsum
        by_cases hq0 : 0 < q
        · have HW := Lib.hid (hw_step q hq)
          have hq0' : (0 : Int) < (q : Int) := by omega
          go_wp2
          go_round
          case rel => exact ⟨q / 2, e + q % 2, by omega, by have := HQ.out; rw [HW.out] at this; omega, hD, by go_num, by go_num⟩
          case measure => simp [intOf]; omega
        · obtain rfl : q = 0 := by omega
          have HF : Hid (e = D) := by show e = D; have := HQ.out; have h00 : hw 0 = 0 := rfl; omega
          go_wp2
          go_roundw
          case rel => first | exact ⟨k + 1, by omega, by go_num, by rw [HF.out, HDE.out], below_drewN hb _⟩ | exact ⟨k + 1, by omega, by go_num, by rw [HF.out, HDE.out], hb⟩
          case measure => simp [intOf]; omega
    · obtain rfl : k = a.length := by omega
      go_wp2
      go_ret2
      exact ⟨rfl, hb⟩
theorem specDistanceOf_any (v v' : Value) (a b : List Int) (w : World) (h : RI w w.heap.size v a) (h' : RI w w.heap.size v' b) (hn : a.length ≤ 1048576) (hn' : b.length ≤ 1048576) :
    Calls Try.prog 52 #[v, v'] w (RetV w (.tuple #[.int .i64 (distOf a b).1, .bool (distOf a b).2])) := by
  have h0 := h
  have h0' := h'
  cases h1 : areB a
  · rw [distOf_no (by rw [h1]; simp)]
    go_enter Try.func52, Try.ntmps52
    go_wp2_with (go_at_call 67; refine (frBytes_any _ _ _ h0 hn).mono ?_; rintro e w' ⟨rfl, rfl⟩)
    go_ret2
    exact ⟨rfl, Below.refl _ _⟩
  · cases h2 : areB b
    · rw [distOf_no (by rw [h2]; simp)]
      go_enter Try.func52, Try.ntmps52
      go_wp2_with fail
      refine (frBytes_any _ _ _ h0 hn).mono ?_; rintro e w' ⟨rfl, rfl⟩
      go_wp2_with fail
      refine (frBytes_any _ _ _ h0' hn').mono ?_; rintro e w' ⟨rfl, rfl⟩
      go_wp2_with fail
      go_ret2
      exact ⟨rfl, Below.refl _ _⟩
    · by_cases h3 : a.length = b.length
      · rw [distOf_yes h1 h2 h3]
        exact specDistanceOf_yes v v' a b w h h' h1 h2 h3
      · rw [distOf_no (fun h => h3 h.2.2)]
        obtain ⟨A, c, rfl, hlc, hc⟩ := h
        obtain ⟨A', c', rfl, hlc', hc'⟩ := h'
        clear hc hc'
        have h3' : ((a.length : Int) == (b.length : Int)) = false := beq_eq_false_iff_ne.2 (fun e => h3 (by omega))
        clear h3
        go_enter Try.func52, Try.ntmps52
        go_wp2_with fail
        refine (frBytes_any _ _ _ h0 hn).mono ?_; rintro e w' ⟨rfl, rfl⟩
        go_wp2_with fail
        refine (frBytes_any _ _ _ h0' hn').mono ?_; rintro e w' ⟨rfl, rfl⟩
        go_wp2_with fail
        go_ret2
        exact ⟨rfl, Below.refl _ _⟩
end Go.Proofs.Ytaokdocflbabjaa
