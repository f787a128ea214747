/-
  The contracts on stuffed bits.
-/
import Derived.Test.YtkmopfgeenadgaaValid
import Derived.Test.YtkmopfgeenadgaaMathStuff
namespace Go.Proofs.Ytkmopfgeenadgaa
open Go.RowKit
set_option maxRecDepth 100000

theorem onesBehind_zero (n : Int) (w : World) : Calls Try.prog 23 #[.int .i64 n, .int .i64 0] w fun e w' => e = .returned (.int .i64 0) ∧ w = w' := by
  go_enter Try.func23, Try.ntmps23
  go_wp2
  go_ret
  exact ⟨rfl, rfl⟩
theorem onesBehind_one (n : Int) (w : World) (h : 0 ≤ n ∧ n ≤ 1000) : Calls Try.prog 23 #[.int .i64 n, .int .i64 1] w fun e w' => e = .returned (.int .i64 (n + 1)) ∧ w = w' := by
  obtain ⟨h1, h2⟩ := h
  go_enter Try.func23, Try.ntmps23
  go_wp2
  go_ret
  exact ⟨rfl, rfl⟩

theorem stuffedBits_any (v : Value) (l : List Int) (w : World) (h : RI w w.heap.size v l) (hl : l.length ≤ 1048576) (hall : okAll 0 1 l = true) :
    Calls Try.prog 20 #[v] w (RetL 3 w (stuffOf l)) := by
  obtain ⟨A, c, rfl, hlc, hc⟩ := h
  have hn' : (l.length : Int) ≤ 1048576 := by omega
  obtain ⟨i0, hi, hz0, hz1, hz2⟩ := info_parts int_info
  have HB := Lib.hid (fun j hj => okAll_at hall j hj)
  clear hall
  go_enter Try.func20, Try.ntmps20
  go_wp2_with (at_make; refine wpList_make_own _ rfl _ _ 24 rfl w.heap.size 3 i0 _ 1 Try.underlying24 hi hz0 hz1 _ _ _ (l.length + l.length / 5) rfl rfl (by omega) (by rw [hz2]; omega) (by unfold maxLen; omega) (Nat.le_refl _) ?_; intro w1 hown hg)
  have hb1 : Below w.heap.size w w1 := (Below.refl _ _).grown hg (Nat.le_refl _) (by intro k hk; cases hk)
  have ha1 : Acc 3 w1 w.heap.size (.slice (some ⟨w.heap.size, 0, none⟩) 0 (l.length + l.length / 5)) [] := hown
  clear hown hg
  go_loopw [3, 4, 16] (fun v n i wr => ∃ k : Nat, k ≤ l.length ∧ i = .int .i64 k ∧ n = .int .i64 ((stf (l.take k)).2 : Nat) ∧ Acc 3 wr w.heap.size v (stf (l.take k)).1 ∧ Below w.heap.size w wr) (fun _ _ i _ => l.length - (intOf i).toNat)
  case atStart => exact ⟨0, Nat.zero_le _, rfl, rfl, ha1, hb1⟩
  case round =>
    obtain ⟨k, hk, rfl, rfl, hacc, hb⟩ := hrel
    by_cases hlt : k < l.length
    · obtain ⟨b, off, rfl, hbB, hcell⟩ := hc (by omega)
      have hcx : wr.cell? ⟨b, off + k, none⟩ = some (.int .i64 (l.getD k 0)) := (hb.cell (p := ⟨b, off + k, none⟩) hbB).trans (hcell k hlt)
      have HC := Lib.hid hcell
      clear hcell hc
      have HS := Lib.hid (stf_snoc l k hlt)
      have hx := HB.out k hlt
      have hbd := stf_bd l k hk
      have hsz := hb.size
      generalize l.getD k 0 = x at hcx hx HS
      generalize stf (l.take k) = st at hacc HS hbd ⊢
      obtain ⟨acc, n⟩ := st
      simp only at hacc hbd ⊢
      obtain ⟨hb4, hlen⟩ := hbd
      have hn4 : (n : Int) ≤ 4 := by omega
      by_cases hx0 : x = 0
      · subst hx0
        have HR : Hid (stf (l.take (k + 1)) = (acc ++ [0], 0)) := by show _ = _; rw [HS.out]; unfold stfStep; rw [if_pos rfl]
        go_wp2_with (first | (go_at_call 23; refine (onesBehind_zero _ _).mono ?_; rintro e w' ⟨rfl, rfl⟩) | (at_builtin; refine wpList_push rfl (.tmp 20) (.tmp 22) _ rfl 3 i0 Try.underlying24 hi hz0 hz1 hz2 _ w w.heap.size _ acc _ rfl rfl hacc rfl (by omega) hsz hb ?_; intro v1 w1 hacc1 hb1))
        go_roundw
        case rel => first | exact ⟨k + 1, by omega, by go_num, by rw [HR.out]; go_num, by rw [HR.out]; exact hacc1, hb1⟩ | exact ⟨k + 1, by omega, by omega, by rw [HR.out]; omega, by rw [HR.out]; exact hacc1⟩
        case measure => simp [intOf]; omega
      · obtain rfl : x = 1 := by omega
        by_cases h4 : n = 4
        · subst h4
          have HR : Hid (stf (l.take (k + 1)) = (acc ++ [1] ++ [0], 0)) := by show _ = _; rw [HS.out]; unfold stfStep; rw [if_neg (by decide), if_pos rfl]
          go_wp2_with (first | (go_at_call 23; refine (onesBehind_one _ _ (by omega)).mono ?_; rintro e w' ⟨rfl, rfl⟩) | (at_builtin; refine wpList_push rfl (.tmp 20) (.tmp 22) _ rfl 3 i0 Try.underlying24 hi hz0 hz1 hz2 _ w w.heap.size _ acc _ rfl rfl hacc rfl (by omega) hsz hb ?_; intro v1 w1 hacc1 hb1; have hsz1 := hb1.size) | (at_builtin; refine wpList_push rfl (.tmp 29) (.tmp 30) _ rfl 3 i0 Try.underlying24 hi hz0 hz1 hz2 _ w w.heap.size _ _ _ rfl rfl hacc1 rfl (by simp; omega) hsz1 hb1 ?_; intro v2 w2 hacc2 hb2))
          go_roundw
          case rel => first | exact ⟨k + 1, by omega, by go_num, by rw [HR.out]; go_num, by rw [HR.out]; exact hacc2, hb2⟩ | exact ⟨k + 1, by omega, by omega, by rw [HR.out]; omega, by rw [HR.out]; exact hacc2⟩
          case measure => simp [intOf]; omega
        · have HR : Hid (stf (l.take (k + 1)) = (acc ++ [1], n + 1)) := by show _ = _; rw [HS.out]; unfold stfStep; rw [if_neg (by decide), if_neg h4]
          have hn3 : (n : Int) ≤ 3 := by omega
          have HN := Lib.hid h4
          clear h4
          go_wp2_with (first | (go_at_call 23; refine (onesBehind_one _ _ (by omega)).mono ?_; rintro e w' ⟨rfl, rfl⟩) | (at_builtin; refine wpList_push rfl (.tmp 20) (.tmp 22) _ rfl 3 i0 Try.underlying24 hi hz0 hz1 hz2 _ w w.heap.size _ acc _ rfl rfl hacc rfl (by omega) hsz hb ?_; intro v1 w1 hacc1 hb1))
          go_roundw
          case rel => first | exact ⟨k + 1, by omega, by go_num, by rw [HR.out]; go_num, by rw [HR.out]; exact hacc1, hb1⟩ | exact ⟨k + 1, by omega, by omega, by rw [HR.out]; omega, by rw [HR.out]; exact hacc1⟩
          case measure => simp [intOf]; omega
    · obtain rfl : k = l.length := by omega
      rw [List.take_length] at hacc
      go_wp2
      go_ret
      exact ⟨_, rfl, hacc.oi, hb⟩
theorem frStuff_any (v : Value) (l : List Int) (w : World) (h : RI w w.heap.size v l) (hl : l.length ≤ 1048576) (hall : okAll 0 1 l = true) :
    Calls Try.prog 22 #[v] w (RetL 3 w (stuffOf l)) := by
  obtain ⟨A, c, rfl, hlc, hc⟩ := h
  have hn' : (l.length : Int) ≤ 1048576 := by omega
  obtain ⟨i0, hi, hz0, hz1, hz2⟩ := info_parts int_info
  have HB := Lib.hid (fun j hj => okAll_at hall j hj)
  clear hall
  go_enter Try.func22, Try.ntmps22
  go_wp2
  go_loopw [3, 4, 9] (fun v n i wr => ∃ k : Nat, k ≤ l.length ∧ i = .int .i64 k ∧ n = .int .i64 ((stf (l.take k)).2 : Nat) ∧ Acc 3 wr w.heap.size v (stf (l.take k)).1 ∧ Below w.heap.size w wr) (fun _ _ i _ => l.length - (intOf i).toNat)
  case atStart => exact ⟨0, Nat.zero_le _, rfl, rfl, Acc.nil _ _ _, Below.refl _ _⟩
  case round =>
    obtain ⟨k, hk, rfl, rfl, hacc, hb⟩ := hrel
    by_cases hlt : k < l.length
    · obtain ⟨b, off, rfl, hbB, hcell⟩ := hc (by omega)
      have hcx : wr.cell? ⟨b, off + k, none⟩ = some (.int .i64 (l.getD k 0)) := (hb.cell (p := ⟨b, off + k, none⟩) hbB).trans (hcell k hlt)
      have HC := Lib.hid hcell
      clear hcell hc
      have HS := Lib.hid (stf_snoc l k hlt)
      have hx := HB.out k hlt
      have hbd := stf_bd l k hk
      have hsz := hb.size
      generalize l.getD k 0 = x at hcx hx HS
      generalize stf (l.take k) = st at hacc HS hbd ⊢
      obtain ⟨acc, n⟩ := st
      simp only at hacc hbd ⊢
      obtain ⟨hb4, hlen⟩ := hbd
      have hn4 : (n : Int) ≤ 4 := by omega
      by_cases hx0 : x = 0
      · subst hx0
        have HR : Hid (stf (l.take (k + 1)) = (acc ++ [0], 0)) := by show _ = _; rw [HS.out]; unfold stfStep; rw [if_pos rfl]
        go_wp2_with (first | (at_builtin; refine wpList_push rfl (.tmp 13) (.tmp 15) _ rfl 3 i0 Try.underlying24 hi hz0 hz1 hz2 _ w w.heap.size _ acc _ rfl rfl hacc rfl (by omega) hsz hb ?_; intro v1 w1 hacc1 hb1))
        go_roundw
        case rel => first | exact ⟨k + 1, by omega, by go_num, by rw [HR.out]; go_num, by rw [HR.out]; exact hacc1, hb1⟩ | exact ⟨k + 1, by omega, by omega, by rw [HR.out]; omega, by rw [HR.out]; exact hacc1⟩
        case measure => simp [intOf]; omega
      · obtain rfl : x = 1 := by omega
        by_cases h4 : n = 4
        · subst h4
          have HR : Hid (stf (l.take (k + 1)) = (acc ++ [1] ++ [0], 0)) := by show _ = _; rw [HS.out]; unfold stfStep; rw [if_neg (by decide), if_pos rfl]
          go_wp2_with (first | (at_builtin; refine wpList_push rfl (.tmp 13) (.tmp 15) _ rfl 3 i0 Try.underlying24 hi hz0 hz1 hz2 _ w w.heap.size _ acc _ rfl rfl hacc rfl (by omega) hsz hb ?_; intro v1 w1 hacc1 hb1; have hsz1 := hb1.size) | (at_builtin; refine wpList_push rfl (.tmp 23) (.tmp 24) _ rfl 3 i0 Try.underlying24 hi hz0 hz1 hz2 _ w w.heap.size _ _ _ rfl rfl hacc1 rfl (by simp; omega) hsz1 hb1 ?_; intro v2 w2 hacc2 hb2))
          go_roundw
          case rel => first | exact ⟨k + 1, by omega, by go_num, by rw [HR.out]; go_num, by rw [HR.out]; exact hacc2, hb2⟩ | exact ⟨k + 1, by omega, by omega, by rw [HR.out]; omega, by rw [HR.out]; exact hacc2⟩
          case measure => simp [intOf]; omega
        · have HR : Hid (stf (l.take (k + 1)) = (acc ++ [1], n + 1)) := by show _ = _; rw [HS.out]; unfold stfStep; rw [if_neg (by decide), if_neg h4]
          have hn3 : (n : Int) ≤ 3 := by omega
          have HN := Lib.hid h4
          clear h4
          go_wp2_with (first | (at_builtin; refine wpList_push rfl (.tmp 13) (.tmp 15) _ rfl 3 i0 Try.underlying24 hi hz0 hz1 hz2 _ w w.heap.size _ acc _ rfl rfl hacc rfl (by omega) hsz hb ?_; intro v1 w1 hacc1 hb1))
          go_roundw
          case rel => first | exact ⟨k + 1, by omega, by go_num, by rw [HR.out]; go_num, by rw [HR.out]; exact hacc1, hb1⟩ | exact ⟨k + 1, by omega, by omega, by rw [HR.out]; omega, by rw [HR.out]; exact hacc1⟩
          case measure => simp [intOf]; omega
    · obtain rfl : k = l.length := by omega
      rw [List.take_length] at hacc
      go_wp2
      go_ret
      exact ⟨_, rfl, hacc.oi, hb⟩
end Go.Proofs.Ytkmopfgeenadgaa
