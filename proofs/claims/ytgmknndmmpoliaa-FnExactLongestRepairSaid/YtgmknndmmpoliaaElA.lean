/-
  Chapter 7: the contracts of names, of the winner and of sums: those of the program and those of the model.
-/
import Derived.Test.YtgmknndmmpoliaaHasI
import Derived.Test.YtgmknndmmpoliaaMathEl
import Derived.Test.YtgmknndmmpoliaaCat
import Derived.Deep.QuietTactic
namespace Go.Proofs.Ytgmknndmmpoliaa
open Go.RowKit
set_option maxRecDepth 100000
set_option linter.unusedVariables false

/-- What AreNames says. -/
def nmOk (l : List Int) : Bool := wi l.length 2 12 && okAll 0 999 l && allNew l l.length
theorem nmOk_of {l : List Int} (h1 : 2 ≤ (l.length : Int) ∧ (l.length : Int) ≤ 12) (h2 : okAll 0 999 l = true) : nmOk l = allNew l l.length := by simp [nmOk, wi, h1, h2]
theorem nmOk_len {l : List Int} (h1 : ¬ (2 ≤ (l.length : Int) ∧ (l.length : Int) ≤ 12)) : nmOk l = false := by
  have : wi l.length 2 12 = false := by simpa [wi] using h1
  simp [nmOk, this]
theorem nmOk_all {l : List Int} (h2 : okAll 0 999 l = false) : nmOk l = false := by simp [nmOk, h2]
theorem nmOk_in {l : List Int} (h : nmOk l = true) : 2 ≤ l.length ∧ l.length ≤ 12 := by simp [nmOk, wi] at h; omega
theorem nmOk_ok {l : List Int} (h : nmOk l = true) : okAll 0 999 l = true := by simp only [nmOk, Bool.and_eq_true] at h; exact h.1.2
theorem nmOk_new {l : List Int} (h : nmOk l = true) : allNew l l.length = true := by simp only [nmOk, Bool.and_eq_true] at h; exact h.2
theorem elIn_any (v : Value) (l : List Int) (lo g : Int) (w : World) (h : RI w w.heap.size v l) (hn : l.length ≤ 1048576) :
    Calls Try.prog 53 #[v, .int .i64 lo, .int .i64 g] w fun e w' => e = .returned (.bool (okAll lo g l)) ∧ w = w' := by
  obtain ⟨A, c, rfl, hlc, hc⟩ := h
  have hn' : (l.length : Int) ≤ 1048576 := by omega
  go_enter Try.func53, Try.ntmps53
  go_wp2
  go_loop [11] (fun i => ∃ k : Nat, k ≤ l.length ∧ i = .int .i64 k ∧ ∀ j, j < k → lo ≤ l.getD j 0 ∧ l.getD j 0 ≤ g) (fun i => l.length - (intOf i).toNat)
  case atStart => exact ⟨0, Nat.zero_le _, rfl, fun j hj => absurd hj (by omega)⟩
  case round =>
    obtain ⟨k, hk, rfl, hall⟩ := hrel
    have HA := Lib.hid hall
    clear hall
    by_cases hlt : k < l.length
    · obtain ⟨b, off, rfl, hbB, hcell⟩ := hc (by omega)
      have hcx : w.cell? ⟨b, off + k, none⟩ = some (.int .i64 (l.getD k 0)) := hcell k hlt
      have HC := Lib.hid hcell
      clear hcell hc
      obtain ⟨x, hx⟩ : ∃ x, x = l.getD k 0 := ⟨_, rfl⟩
      rw [← hx] at hcx
      have HX := Lib.hid hx
      clear hx
      by_cases hw : lo ≤ x ∧ x ≤ g
      · go_wp2_with (go_at_call 39; refine (l1In_is _ _ _ _ true (by simp [hw])).mono ?_; rintro e w' ⟨rfl, rfl⟩)
        go_round
        case rel =>
          refine ⟨k + 1, by omega, by go_num, fun j hj => ?_⟩
          by_cases hjk : j = k
          · subst hjk; rw [← HX.out]; exact hw
          · exact HA.out j (by omega)
        case measure => simp [intOf]; omega
      · have HN := Lib.hid hw
        clear hw
        go_wp2_with (go_at_call 39; refine (l1In_is _ _ _ _ false (by simpa using HN.out)).mono ?_; rintro e w' ⟨rfl, rfl⟩)
        go_ret
        exact ⟨ret_bool (okAll_no hlt (by rw [← HX.out]; exact HN.out)).symm, rfl⟩
    · obtain rfl : k = l.length := by omega
      go_wp2
      go_ret
      exact ⟨ret_bool (okAll_of HA.out).symm, rfl⟩
theorem elOwn_any (v : Value) (l : List Int) (w : World) (h : RI w w.heap.size v l) (hn : l.length ≤ 1048576) :
    Calls Try.prog 55 #[v] w (RetL 3 w l) := by
  have h0 := h
  have hsh := Lib.hid h.shape
  obtain ⟨A, c, rfl, hlc, hc⟩ := h
  clear hc
  obtain ⟨i0, hi, hz0, hz1, hz2⟩ := info_parts int_info
  have hb0 : Below w.heap.size w (w.alloc (.cells #[] 3)) := (Below.refl _ _).alloc (Nat.le_refl _) _
  have ha : Acc 3 (w.alloc (.cells #[] 3)) w.heap.size (.slice (some ⟨w.heap.size, 0, none⟩) 0 0) [] := World.ownsRow_made w #[] 0 (Nat.le_refl _) (by simp) rfl
  go_enter Try.func55, Try.ntmps55
  go_wp2_with (at_builtin; refine wpList_cat rfl (.tmp 3) (.tmp 4) 22 rfl 3 i0 Try.underlying22 hi hz0 hz1 hz2 w w.heap.size w.heap.size _ _ _ l rfl ha rfl (h0.below hb0) hsh.out (by simp; omega) hb0 hb0.size ?_; intro v2 w2 ha2 hb2)
  go_ret
  exact ⟨_, rfl, by simpa using ha2.oi, hb2⟩


theorem implAreNames0_any (v : Value) (l : List Int) (w : World) (h : RI w w.heap.size v l) (hn : l.length ≤ 1048576) :
    Calls Try.prog 33 #[v] w fun e w' => e = .returned (.bool (nmOk l)) ∧ w = w' := by
  have h0 := h
  obtain ⟨A, c, rfl, hlc, hc⟩ := h
  have hn' : (l.length : Int) ≤ 1048576 := by omega
  by_cases h1 : ¬ (2 ≤ (l.length : Int) ∧ (l.length : Int) ≤ 12)
  · rw [nmOk_len h1]
    clear hc
    go_enter Try.func33, Try.ntmps33
    go_wp2_with (go_at_call 41; refine (isWithin_is _ _ _ _ false (by simpa using h1)).mono ?_; rintro e w' ⟨rfl, rfl⟩)
    go_ret
    exact ⟨rfl, rfl⟩
  rw [Classical.not_not] at h1
  have HW : Hid (decide (2 ≤ (l.length : Int) ∧ (l.length : Int) ≤ 12) = true) := by show _ = _; simp [h1]
  rcases h2 : okAll 0 999 l with _ | _
  · rw [nmOk_all h2]
    have HO := areAllUpTo_any _ l 999 w h0 hn
    rw [h2] at HO
    have HH := Lib.hid HO
    clear hc HO h2
    go_enter Try.func33, Try.ntmps33
    go_wp2_with (first | (go_at_call 41; refine (isWithin_is _ _ _ _ true HW.out).mono ?_; rintro e w' ⟨rfl, rfl⟩) | (go_at_call 56; (with_reducible refine HH.out.mono ?_); rintro e w' ⟨rfl, rfl⟩))
    go_ret
    exact ⟨rfl, rfl⟩
  rw [nmOk_of h1 h2]
  have HO := areAllUpTo_any _ l 999 w h0 hn
  rw [h2] at HO
  have HH := Lib.hid HO
  clear HO h2
  go_enter Try.func33, Try.ntmps33
  go_wp2_with (first | (go_at_call 41; refine (isWithin_is _ _ _ _ true HW.out).mono ?_; rintro e w' ⟨rfl, rfl⟩) | (go_at_call 56; (with_reducible refine HH.out.mono ?_); rintro e w' ⟨rfl, rfl⟩))
  go_loop [16] (fun i => ∃ k : Nat, k ≤ l.length ∧ i = .int .i64 k ∧ allNew l k = true) (fun i => l.length - (intOf i).toNat)
  case atStart => exact ⟨0, Nat.zero_le _, rfl, rfl⟩
  case round =>
    obtain ⟨k, hk, rfl, hall⟩ := hrel
    have HA := Lib.hid hall
    clear hall
    by_cases hlt : k < l.length
    · have hfr := h0.front k (by omega)
      obtain ⟨b, off, rfl, hbB, hcell⟩ := hc (by omega)
      have hcx : w.cell? ⟨b, off + k, none⟩ = some (.int .i64 (l.getD k 0)) := hcell k hlt
      have hct := contains_any _ (l.take k) (l.getD k 0) w hfr (by simp; omega)
      clear hcell hc hfr
      rcases hnew : newAt l k with _ | _
      · rw [show hasI (l.take k) (l.getD k 0) = true from by simpa [newAt] using hnew] at hct
        have HT := Lib.hid hct
        have HN : Hid (allNew l l.length = false) := allNew_no hnew hlt
        clear hct hnew
        generalize l.getD k 0 = x at hcx HT
        go_wp2_with (go_at_call 57; (with_reducible refine HT.out.mono ?_); rintro e w' ⟨rfl, rfl⟩)
        go_ret
        exact ⟨ret_bool HN.out.symm, rfl⟩
      · rw [show hasI (l.take k) (l.getD k 0) = false from by simpa [newAt] using hnew] at hct
        have HT := Lib.hid hct
        have HN : Hid (allNew l (k + 1) = true) := by show _ = _; simp [allNew, HA.out, hnew]
        clear hct hnew
        generalize l.getD k 0 = x at hcx HT
        go_wp2_with (go_at_call 57; (with_reducible refine HT.out.mono ?_); rintro e w' ⟨rfl, rfl⟩)
        go_round
        case rel => exact ⟨k + 1, by omega, by go_num, HN.out⟩
        case measure => simp [intOf]; omega
    · obtain rfl : k = l.length := by omega
      clear hc
      go_wp2
      go_ret
      exact ⟨ret_bool HA.out.symm, rfl⟩


theorem elNames_any (v : Value) (l : List Int) (w : World) (h : RI w w.heap.size v l) (hn : l.length ≤ 1048576) :
    Calls Try.prog 31 #[v] w fun e w' => e = .returned (.bool (nmOk l)) ∧ w = w' := by
  have h0 := h
  obtain ⟨A, c, rfl, hlc, hc⟩ := h
  have hn' : (l.length : Int) ≤ 1048576 := by omega
  by_cases h1 : ¬ (2 ≤ (l.length : Int) ∧ (l.length : Int) ≤ 12)
  · rw [nmOk_len h1]
    clear hc
    go_enter Try.func31, Try.ntmps31
    go_wp2_with (go_at_call 39; refine (l1In_is _ _ _ _ false (by simpa using h1)).mono ?_; rintro e w' ⟨rfl, rfl⟩)
    go_ret
    exact ⟨rfl, rfl⟩
  rw [Classical.not_not] at h1
  have HW : Hid (decide (2 ≤ (l.length : Int) ∧ (l.length : Int) ≤ 12) = true) := by show _ = _; simp [h1]
  rcases h2 : okAll 0 999 l with _ | _
  · rw [nmOk_all h2]
    have HO := elIn_any _ l 0 999 w h0 hn
    rw [h2] at HO
    have HH := Lib.hid HO
    clear hc HO h2
    go_enter Try.func31, Try.ntmps31
    go_wp2_with (first | (go_at_call 39; refine (l1In_is _ _ _ _ true HW.out).mono ?_; rintro e w' ⟨rfl, rfl⟩) | (go_at_call 53; (with_reducible refine HH.out.mono ?_); rintro e w' ⟨rfl, rfl⟩))
    go_ret
    exact ⟨rfl, rfl⟩
  rw [nmOk_of h1 h2]
  have HO := elIn_any _ l 0 999 w h0 hn
  rw [h2] at HO
  have HH := Lib.hid HO
  clear HO h2
  go_enter Try.func31, Try.ntmps31
  go_wp2_with (first | (go_at_call 39; refine (l1In_is _ _ _ _ true HW.out).mono ?_; rintro e w' ⟨rfl, rfl⟩) | (go_at_call 53; (with_reducible refine HH.out.mono ?_); rintro e w' ⟨rfl, rfl⟩))
  go_loop [16] (fun i => ∃ k : Nat, k ≤ l.length ∧ i = .int .i64 k ∧ allNew l k = true) (fun i => l.length - (intOf i).toNat)
  case atStart => exact ⟨0, Nat.zero_le _, rfl, rfl⟩
  case round =>
    obtain ⟨k, hk, rfl, hall⟩ := hrel
    have HA := Lib.hid hall
    clear hall
    by_cases hlt : k < l.length
    · have hfr := h0.front k (by omega)
      obtain ⟨b, off, rfl, hbB, hcell⟩ := hc (by omega)
      have hcx : w.cell? ⟨b, off + k, none⟩ = some (.int .i64 (l.getD k 0)) := hcell k hlt
      have hct := l1Has_any _ (l.take k) (l.getD k 0) w hfr (by simp; omega)
      clear hcell hc hfr
      rcases hnew : newAt l k with _ | _
      · rw [show hasI (l.take k) (l.getD k 0) = true from by simpa [newAt] using hnew] at hct
        have HT := Lib.hid hct
        have HN : Hid (allNew l l.length = false) := allNew_no hnew hlt
        clear hct hnew
        generalize l.getD k 0 = x at hcx HT
        go_wp2_with (go_at_call 54; (with_reducible refine HT.out.mono ?_); rintro e w' ⟨rfl, rfl⟩)
        go_ret
        exact ⟨ret_bool HN.out.symm, rfl⟩
      · rw [show hasI (l.take k) (l.getD k 0) = false from by simpa [newAt] using hnew] at hct
        have HT := Lib.hid hct
        have HN : Hid (allNew l (k + 1) = true) := by show _ = _; simp [allNew, HA.out, hnew]
        clear hct hnew
        generalize l.getD k 0 = x at hcx HT
        go_wp2_with (go_at_call 54; (with_reducible refine HT.out.mono ?_); rintro e w' ⟨rfl, rfl⟩)
        go_round
        case rel => exact ⟨k + 1, by omega, by go_num, HN.out⟩
        case measure => simp [intOf]; omega
    · obtain rfl : k = l.length := by omega
      clear hc
      go_wp2
      go_ret
      exact ⟨ret_bool HA.out.symm, rfl⟩


theorem implAreNames_any (v : Value) (l : List Int) (w : World) (h : RI w w.heap.size v l) (hn : l.length ≤ 1048576) :
    Calls Try.prog 33 #[v] w (RetV w (.bool (nmOk l))) := (implAreNames0_any v l w h hn).mono fun _ _ ⟨he, hw⟩ => ⟨he, hw ▸ Below.refl _ _⟩
/-- The model looks for the winner. -/
theorem elWinner_any (v : Value) (l : List Int) (w : World) (h : RI w w.heap.size v l) (hn : l.length ≤ 1048576) (h0 : 0 < l.length) :
    Calls Try.prog 35 #[v] w (RetV w (.int .i64 (winN l l.length))) := by
  obtain ⟨A, c, rfl, hlc, hc⟩ := h
  have hn' : (l.length : Int) ≤ 1048576 := by omega
  obtain ⟨b, off, rfl, hbB, hcell⟩ := hc h0
  have HC := Lib.hid hcell
  clear hcell hc
  go_enter Try.func35, Try.ntmps35
  go_wp2
  go_loopw [3, 8] (fun u i wr => ∃ k : Nat, k ≤ l.length ∧ u = .int .i64 (winN l k : Nat) ∧ i = .int .i64 k ∧ Below w.heap.size w wr) (fun _ i _ => l.length - (intOf i).toNat)
  case atStart => exact ⟨0, Nat.zero_le _, rfl, rfl, Below.refl _ _⟩
  case round =>
    obtain ⟨k, hk, rfl, rfl, hb⟩ := hrel
    have hwl := winN_lt l k
    by_cases hlt : k < l.length
    · have hr : winN l k < l.length := by omega
      have hcx : wr.cell? ⟨b, off + k, none⟩ = some (.int .i64 (l.getD k 0)) := (hb.cell (p := ⟨b, off + k, none⟩) hbB).trans (HC.out k hlt)
      have hcy : wr.cell? ⟨b, off + winN l k, none⟩ = some (.int .i64 (l.getD (winN l k) 0)) := (hb.cell (p := ⟨b, off + winN l k, none⟩) hbB).trans (HC.out _ hr)
      have HW : Hid (winN l (k + 1) = if l.getD (winN l k) 0 < l.getD k 0 then k else winN l k) := rfl
      have HB := Lib.hid hb
      clear hb hwl
      generalize winN l k = r at hcy HW hr ⊢
      generalize l.getD k 0 = x at hcx HW
      generalize l.getD r 0 = y at hcy HW
      have hr' : (r : Int) < (l.length : Int) := by omega
      by_cases hxy : y < x
      · have HR : Hid (winN l (k + 1) = k) := by show _ = _; rw [HW.out, if_pos hxy]
        go_wp2
        try go_quiet (fail)
        go_wp2
        go_roundw
        case rel => exact ⟨k + 1, by omega, by first | rfl | simp [HR.out], by go_num, by first | exact HB.out | exact below_drewN HB.out _⟩
        case measure => simp [intOf]; omega
      · have HR : Hid (winN l (k + 1) = r) := by show _ = _; rw [HW.out, if_neg hxy]
        go_wp2
        try go_quiet (fail)
        go_wp2
        go_roundw
        case rel => exact ⟨k + 1, by omega, by first | rfl | simp [HR.out], by go_num, by first | exact HB.out | exact below_drewN HB.out _⟩
        case measure => simp [intOf]; omega
    · obtain rfl : k = l.length := by omega
      go_wp2
      go_ret
      exact ⟨rfl, hb⟩
theorem elSum_any (v : Value) (l : List Int) (w : World) (h : RI w w.heap.size v l) (hn : l.length ≤ 1000) (hl : ∀ x ∈ l, 0 ≤ x ∧ x ≤ 1000000) :
    Calls Try.prog 65 #[v] w (RetV w (.int .i64 (sumL l))) := by
  obtain ⟨A, c, rfl, hlc, hc⟩ := h
  have hn' : (l.length : Int) ≤ 1000 := by omega
  have HS := Lib.hid (sumL_bound l 1000000 hl)
  have HL := Lib.hid hl
  clear hl
  go_enter Try.func65, Try.ntmps65
  go_wp2
  go_loop [3, 8] (fun u i => ∃ k : Nat, k ≤ l.length ∧ u = .int .i64 (sumL (l.take k)) ∧ i = .int .i64 k) (fun _ i => l.length - (intOf i).toNat)
  case atStart => exact ⟨0, Nat.zero_le _, rfl, rfl⟩
  case round =>
    obtain ⟨k, hk, rfl, rfl⟩ := hrel
    have hs := HS.out k hk
    by_cases hlt : k < l.length
    · obtain ⟨b, off, rfl, hbB, hcell⟩ := hc (by omega)
      have hcx : w.cell? ⟨b, off + k, none⟩ = some (.int .i64 (l.getD k 0)) := hcell k hlt
      have hx := HL.out (l.getD k 0) (by simp [hlt])
      have HT := Lib.hid (sumL_take l k hlt)
      clear hcell hc
      have hb2 : (1000000 : Int) * (k : Int) ≤ 1000000000 := by omega
      generalize sumL (l.take k) = s at hs HT ⊢
      generalize l.getD k 0 = x at hcx hx HT
      have hs2 : s ≤ 1000000000 := by omega
      clear hb2
      go_wp2
      go_round
      case rel => exact ⟨k + 1, by omega, by rw [HT.out] <;> go_num, by go_num⟩
      case measure => simp [intOf]; omega
    · obtain rfl : k = l.length := by omega
      rw [List.take_length] at hs ⊢
      go_wp2
      go_ret
      exact ⟨rfl, Below.refl _ _⟩
end Go.Proofs.Ytgmknndmmpoliaa
