/-
  The contracts on bits of bytes.
-/
import Derived.Test.YtkmopfgeenadgaaValid
import Derived.Test.YtkmopfgeenadgaaMath
namespace Go.Proofs.Ytkmopfgeenadgaa
open Go.RowKit
set_option maxRecDepth 100000

theorem frBits_any (v : Value) (l : List Int) (w : World) (h : RI w w.heap.size v l) (hl : l.length ≤ 1048576) (hall : okAll 0 255 l = true) :
    Calls Try.prog 31 #[v] w (RetL 3 w (bitsL l)) := by
  obtain ⟨A, c, rfl, hlc, hc⟩ := h
  have hn' : (l.length : Int) ≤ 1048576 := by omega
  obtain ⟨i0, hi, hz0, hz1, hz2⟩ := info_parts int_info
  have HB := Lib.hid (fun j hj => okAll_at hall j hj)
  go_enter Try.func31, Try.ntmps31
  go_wp2
  go_loopw [3, 9] (fun v i wr => ∃ k : Nat, k ≤ l.length ∧ i = .int .i64 k ∧ Acc 3 wr w.heap.size v (bitsL (l.take k)) ∧ Below w.heap.size w wr) (fun _ i _ => l.length - (intOf i).toNat)
  case atStart => exact ⟨0, Nat.zero_le _, rfl, Acc.nil _ _ _, Below.refl _ _⟩
  case round =>
    obtain ⟨k, hk, rfl, hacc, hb⟩ := hrel
    by_cases hlt : k < l.length
    · obtain ⟨b, off, rfl, hbB, hcell⟩ := hc (by omega)
      have hcx : wr.cell? ⟨b, off + k, none⟩ = some (.int .i64 (l.getD k 0)) := (hb.cell (p := ⟨b, off + k, none⟩) hbB).trans (hcell k hlt)
      have HC := Lib.hid hcell
      clear hcell hc
      have HS := Lib.hid (bitsL_snoc l k hlt)
      have HN := Lib.hid (bitsL_length (l.take k))
      have hx := HB.out k hlt
      generalize l.getD k 0 = x at hcx hx HS
      obtain ⟨xn, rfl⟩ := Int.eq_ofNat_of_zero_le hx.1
      rw [Int.toNat_natCast] at HS
      have hx2 : xn < 256 := by omega
      have hlen : (bitsL (l.take k)).length ≤ 8 * l.length := by rw [HN.out, List.length_take]; omega
      generalize bitsL (l.take k) = done at hacc HS HN hlen
      obtain ⟨wo, rfl⟩ : ∃ wo : World, wo = wr := ⟨_, rfl⟩
      go_wp2
      go_loopw [3, 6] (fun v i wr => ∃ j : Nat, j ≤ 8 ∧ i = .int .i64 (7 - j) ∧ Acc 3 wr w.heap.size v (done ++ (bitsB xn).take j) ∧ Below w.heap.size w wr) (fun _ i _ => (intOf i + 1).toNat)
      case atStart => exact ⟨0, Nat.zero_le _, rfl, by simpa using hacc, hb⟩
      case round =>
        obtain ⟨j, hj, rfl, hacc, hb⟩ := hrel
        by_cases hj8 : j < 8
        · have hsz := hb.size
          have HT : Hid ((bitsB xn).take (j + 1) = (bitsB xn).take j ++ [bitAt xn j]) := bitsB_take xn j hj8
          have hdl : (done ++ (bitsB xn).take j).length < 1000000000 := by rw [List.length_append, List.length_take]; omega
          have HQ : Hid (bitAt xn j = ((xn / 2 ^ (7 - j) % 2 : Nat) : Int)) := by show bitAt xn j = _; rfl
          have hq : (xn : Int) / 2 ^ (7 - j) = ((xn / 2 ^ (7 - j) : Nat) : Int) := by simp
          have hq2 : xn / 2 ^ (7 - j) < 256 := Nat.lt_of_le_of_lt (Nat.div_le_self _ _) hx2
          generalize xn / 2 ^ (7 - j) = q at hq hq2 HQ
          have HA : Hid (done ++ (bitsB xn).take (j + 1) = done ++ (bitsB xn).take j ++ [bitAt xn j]) := by show done ++ _ = _; rw [HT.out, List.append_assoc]
          generalize done ++ (bitsB xn).take j = acc at hacc hdl HA
          go_wp2_with (at_builtin; refine wpList_push rfl _ _ _ rfl 3 i0 Try.underlying24 hi hz0 hz1 hz2 _ w w.heap.size _ acc _ rfl rfl hacc rfl hdl hsz hb ?_; intro v1 w1 hacc1 hb1)
          go_roundw
          case rel => exact ⟨j + 1, by omega, by go_num, by rw [HA.out, HQ.out]; exact hacc1, hb1⟩
          case measure => simp [intOf]; omega
        · obtain rfl : j = 8 := by omega
          go_wp2
          go_roundw
          case rel => exact ⟨k + 1, by omega, by go_num, by rw [HS.out]; exact hacc, hb⟩
          case measure => simp [intOf]; omega
    · obtain rfl : k = l.length := by omega
      rw [List.take_length] at hacc
      go_wp2
      go_ret
      exact ⟨_, rfl, hacc.oi, hb⟩

theorem bitsOfBytes_any (v : Value) (l : List Int) (w : World) (h : RI w w.heap.size v l) (hl : l.length ≤ 1048576) (hall : okAll 0 255 l = true) :
    Calls Try.prog 29 #[v] w (RetL 3 w (bitsL l)) := by
  obtain ⟨A, c, rfl, hlc, hc⟩ := h
  have hn' : (l.length : Int) ≤ 1048576 := by omega
  obtain ⟨i0, hi, hz0, hz1, hz2⟩ := info_parts int_info
  have HB := Lib.hid (fun j hj => okAll_at hall j hj)
  go_enter Try.func29, Try.ntmps29
  go_wp2_with (at_make; refine wpList_make_own _ rfl _ _ 24 rfl w.heap.size 3 i0 _ 1 Try.underlying24 hi hz0 hz1 _ _ _ (l.length * 8) rfl rfl (by omega) (by rw [hz2]; omega) (by unfold maxLen; omega) (Nat.le_refl _) ?_; intro w1 hown hg)
  have hb1 : Below w.heap.size w w1 := (Below.refl _ _).grown hg (Nat.le_refl _) (by intro k hk; cases hk)
  have ha1 : Acc 3 w1 w.heap.size (.slice (some ⟨w.heap.size, 0, none⟩) 0 (l.length * 8)) [] := hown
  clear hown hg
  go_loopw [3, 13] (fun v i wr => ∃ k : Nat, k ≤ l.length ∧ i = .int .i64 k ∧ Acc 3 wr w.heap.size v (bitsL (l.take k)) ∧ Below w.heap.size w wr) (fun _ i _ => l.length - (intOf i).toNat)
  case atStart => exact ⟨0, Nat.zero_le _, rfl, ha1, hb1⟩
  case round =>
    obtain ⟨k, hk, rfl, hacc, hb⟩ := hrel
    by_cases hlt : k < l.length
    · obtain ⟨b, off, rfl, hbB, hcell⟩ := hc (by omega)
      have hcx : wr.cell? ⟨b, off + k, none⟩ = some (.int .i64 (l.getD k 0)) := (hb.cell (p := ⟨b, off + k, none⟩) hbB).trans (hcell k hlt)
      have HC := Lib.hid hcell
      clear hcell hc
      have HS := Lib.hid (bitsL_snoc l k hlt)
      have HN := Lib.hid (bitsL_length (l.take k))
      have hx := HB.out k hlt
      generalize l.getD k 0 = x at hcx hx HS
      obtain ⟨xn, rfl⟩ := Int.eq_ofNat_of_zero_le hx.1
      rw [Int.toNat_natCast] at HS
      have hx2 : xn < 256 := by omega
      have hlen : (bitsL (l.take k)).length ≤ 8 * l.length := by rw [HN.out, List.length_take]; omega
      generalize bitsL (l.take k) = done at hacc HS HN hlen
      obtain ⟨wo, rfl⟩ : ∃ wo : World, wo = wr := ⟨_, rfl⟩
      go_wp2
      go_loopw [3, 6] (fun v i wr => ∃ j : Nat, j ≤ 8 ∧ i = .int .i64 (7 - j) ∧ Acc 3 wr w.heap.size v (done ++ (bitsB xn).take j) ∧ Below w.heap.size w wr) (fun _ i _ => (intOf i + 1).toNat)
      case atStart => exact ⟨0, Nat.zero_le _, rfl, by simpa using hacc, hb⟩
      case round =>
        obtain ⟨j, hj, rfl, hacc, hb⟩ := hrel
        by_cases hj8 : j < 8
        · have hsz := hb.size
          have HT : Hid ((bitsB xn).take (j + 1) = (bitsB xn).take j ++ [bitAt xn j]) := bitsB_take xn j hj8
          have hdl : (done ++ (bitsB xn).take j).length < 1000000000 := by rw [List.length_append, List.length_take]; omega
          have HQ : Hid (bitAt xn j = ((xn / 2 ^ (7 - j) % 2 : Nat) : Int)) := by show bitAt xn j = _; rfl
          have hq : (xn : Int) / 2 ^ (7 - j) = ((xn / 2 ^ (7 - j) : Nat) : Int) := by simp
          have hq2 : xn / 2 ^ (7 - j) < 256 := Nat.lt_of_le_of_lt (Nat.div_le_self _ _) hx2
          generalize xn / 2 ^ (7 - j) = q at hq hq2 HQ
          have HD := Lib.hid (and_one q hq2)
          have HA : Hid (done ++ (bitsB xn).take (j + 1) = done ++ (bitsB xn).take j ++ [bitAt xn j]) := by show done ++ _ = _; rw [HT.out, List.append_assoc]
          generalize done ++ (bitsB xn).take j = acc at hacc hdl HA
          go_wp2_with (at_builtin; refine wpList_push rfl _ _ _ rfl 3 i0 Try.underlying24 hi hz0 hz1 hz2 _ w w.heap.size _ acc _ rfl rfl hacc rfl hdl hsz hb ?_; intro v1 w1 hacc1 hb1)
          go_roundw
          case rel => exact ⟨j + 1, by omega, by go_num, by rw [HA.out, HQ.out, ← HD.out]; exact hacc1, hb1⟩
          case measure => simp [intOf]; omega
        · obtain rfl : j = 8 := by omega
          go_wp2
          go_roundw
          case rel => exact ⟨k + 1, by omega, by go_num, by rw [HS.out]; exact hacc, hb⟩
          case measure => simp [intOf]; omega
    · obtain rfl : k = l.length := by omega
      rw [List.take_length] at hacc
      go_wp2
      go_ret
      exact ⟨_, rfl, hacc.oi, hb⟩

/-- What BitsOf says. -/
def bitsOf (l : List Int) : List Int × Bool := if areB l then (bitsL l, true) else ([], false)
theorem bitsOf_yes {l : List Int} (h : areB l = true) : bitsOf l = (bitsL l, true) := by unfold bitsOf; rw [if_pos h]
theorem bitsOf_no {l : List Int} (h : areB l = false) : bitsOf l = ([], false) := by unfold bitsOf; rw [if_neg (by simp [h])]
theorem bitsOf_len (l : List Int) : (bitsOf l).1.length ≤ 1048576 := by
  cases h : areB l
  · rw [bitsOf_no h]; simp
  · rw [bitsOf_yes h]
    have := areB_len h
    show (bitsL l).length ≤ _
    rw [bitsL_length]; omega

theorem implBitsOf_any (v : Value) (l : List Int) (w : World) (h : RI w w.heap.size v l) (hn : l.length ≤ 1048576) :
    Calls Try.prog 14 #[v] w (RetLB 3 w (bitsOf l).1 (bitsOf l).2) := by
  cases hB : areB l
  · rw [bitsOf_no hB]
    go_enter Try.func14, Try.ntmps14
    go_wp2_with (go_at_call 28; refine (areBytes_any _ _ _ h hn).mono ?_; rintro e w' ⟨rfl, rfl⟩)
    go_ret2
    exact ⟨_, rfl, (Acc.nil _ _ _).oi, Below.refl _ _⟩
  · rw [bitsOf_yes hB]
    have HO := Lib.hid (areB_ok hB)
    go_enter Try.func14, Try.ntmps14
    go_wp2_with (first | (go_at_call 28; refine (areBytes_any _ _ _ h hn).mono ?_; rintro e w' ⟨rfl, rfl⟩) | (go_at_call 29; refine (bitsOfBytes_any _ _ _ h hn HO.out).mono ?_; rintro e w1 ⟨u, rfl, ho, hb⟩))
    go_ret2
    exact ⟨_, rfl, ho, hb⟩

theorem specBitsOf_any (v : Value) (l : List Int) (w : World) (h : RI w w.heap.size v l) (hn : l.length ≤ 1048576) :
    Calls Try.prog 15 #[v] w (RetLB 3 w (bitsOf l).1 (bitsOf l).2) := by
  cases hB : areB l
  · rw [bitsOf_no hB]
    go_enter Try.func15, Try.ntmps15
    go_wp2_with (go_at_call 30; refine (frBytes_any _ _ _ h hn).mono ?_; rintro e w' ⟨rfl, rfl⟩)
    go_ret2
    exact ⟨_, rfl, (Acc.nil _ _ _).oi, Below.refl _ _⟩
  · rw [bitsOf_yes hB]
    have HO := Lib.hid (areB_ok hB)
    go_enter Try.func15, Try.ntmps15
    go_wp2_with (first | (go_at_call 30; refine (frBytes_any _ _ _ h hn).mono ?_; rintro e w' ⟨rfl, rfl⟩) | (go_at_call 31; refine (frBits_any _ _ _ h hn HO.out).mono ?_; rintro e w1 ⟨u, rfl, ho, hb⟩))
    go_ret2
    exact ⟨_, rfl, ho, hb⟩
end Go.Proofs.Ytkmopfgeenadgaa
