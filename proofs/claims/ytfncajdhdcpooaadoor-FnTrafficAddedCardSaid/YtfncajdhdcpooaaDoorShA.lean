/-
  Chapter 8: the contracts of the small functions of both sides: numbers, buckets, traffic.
-/
import Derived.Test.YtfncajdhdcpooaaDoorMathSh
import Derived.Test.YtfncajdhdcpooaaDoorBk
import Derived.Test.YtfncajdhdcpooaaDoorOne
import Derived.Deep.QuietTactic
import Derived.WalkMore
namespace Go.Proofs.YtfncajdhdcpooaaDoor
open Go.RowKit
set_option maxRecDepth 100000
set_option linter.unusedVariables false

theorem shMost_any (a b : Int) (w : World) : Calls Tryd.prog 48 #[.int .i64 a, .int .i64 b] w fun e w' => e = .returned (.int .i64 (max a b)) ∧ w = w' := by
  by_cases h : b < a
  · rw [show max a b = a by omega]
    go_enter Tryd.func48, Tryd.ntmps48
    go_wp2
    go_ret
    exact ⟨rfl, rfl⟩
  · rw [show max a b = b by omega]
    have h2 : a ≤ b := by omega
    go_enter Tryd.func48, Tryd.ntmps48
    go_wp2
    go_ret
    exact ⟨rfl, rfl⟩
theorem shAll_any (v : Value) (l : List Int) (lo g : Int) (w : World) (h : RI w w.heap.size v l) (hn : l.length ≤ 1048576) :
    Calls Tryd.prog 45 #[v, .int .i64 lo, .int .i64 g] w fun e w' => e = .returned (.bool (okAll lo g l)) ∧ w = w' := by
  obtain ⟨A, c, rfl, hlc, hc⟩ := h
  have hn' : (l.length : Int) ≤ 1048576 := by omega
  go_enter Tryd.func45, Tryd.ntmps45
  go_wp2
  go_loop [11] (fun i => ∃ k : Nat, k ≤ l.length ∧ i = .int .i64 k ∧ ∀ j, j < k → lo ≤ l.getD j 0 ∧ l.getD j 0 ≤ g) (fun i => l.length - (intOf i).toNat)
  case atStart => exact ⟨0, Nat.zero_le _, rfl, fun j hj => absurd hj (by omega)⟩
  case round =>
    obtain ⟨k, hk, rfl, hall⟩ := hrel
    have HA := Lib.hid hall
    clear hall
    by_cases hlt : k < l.length
    · obtain ⟨b, off, rfl, hbB, hcell⟩ := hc (by omega)
      have hcx : w.cell? ⟨b, off + k, none⟩ = some (.int .i64 (l.getD k 0)) := hcell k hlt
      have HC := Lib.hid hcell
      clear hcell hc
      obtain ⟨x, hx⟩ : ∃ x, x = l.getD k 0 := ⟨_, rfl⟩
      rw [← hx] at hcx
      have HX := Lib.hid hx
      clear hx
      by_cases hw : lo ≤ x ∧ x ≤ g
      · go_wp2_with (go_at_call 46; refine (l1In_is _ _ _ _ true (by simp [hw])).mono ?_; rintro e w' ⟨rfl, rfl⟩)
        go_round
        case rel =>
          refine ⟨k + 1, by omega, by go_num, fun j hj => ?_⟩
          by_cases hjk : j = k
          · subst hjk; rw [← HX.out]; exact hw
          · exact HA.out j (by omega)
        case measure => simp [intOf]; omega
      · have HN := Lib.hid hw
        clear hw
        go_wp2_with (go_at_call 46; refine (l1In_is _ _ _ _ false (by simpa using HN.out)).mono ?_; rintro e w' ⟨rfl, rfl⟩)
        go_ret
        exact ⟨ret_bool (okAll_no hlt (by rw [← HX.out]; exact HN.out)).symm, rfl⟩
    · obtain rfl : k = l.length := by omega
      go_wp2
      go_ret
      exact ⟨ret_bool (okAll_of HA.out).symm, rfl⟩
theorem implRate_any (n : Int) (w : World) : Calls Tryd.prog 40 #[.int .i64 n] w fun e w' => e = .returned (.bool (wi n 1 100)) ∧ w = w' := by
  go_enter Tryd.func40, Tryd.ntmps40
  go_wp2_with (go_at_call 51; refine (isWithin_wi _ _ _ _).mono ?_; rintro e w' ⟨rfl, rfl⟩)
  go_ret
  exact ⟨rfl, rfl⟩
theorem implDepth_any (n : Int) (w : World) : Calls Tryd.prog 41 #[.int .i64 n] w fun e w' => e = .returned (.bool (wi n 1 1000)) ∧ w = w' := by
  go_enter Tryd.func41, Tryd.ntmps41
  go_wp2_with (go_at_call 51; refine (isWithin_wi _ _ _ _).mono ?_; rintro e w' ⟨rfl, rfl⟩)
  go_ret
  exact ⟨rfl, rfl⟩
theorem implBucket_any (x : Bu) (w : World) : Calls Tryd.prog 23 #[BuV x] w (RetV w (.bool (buOk x))) := by
  obtain ⟨r, d⟩ := x
  simp only [BuV]
  have hW : Below w.heap.size w (w.alloc (.cells #[.int .i64 r, .int .i64 d] 32)) := (Below.refl _ _).alloc (Nat.le_refl _) _
  have H1 : Hid (∀ w, Calls Tryd.prog 40 #[.int .i64 r] w fun e w' => e = .returned (.bool (wi r 1 100)) ∧ w = w') := fun w => implRate_any r w
  have H2 : Hid (∀ w, Calls Tryd.prog 41 #[.int .i64 d] w fun e w' => e = .returned (.bool (wi d 1 1000)) ∧ w = w') := fun w => implDepth_any d w
  show Calls _ _ _ _ (RetV w (.bool (wi r 1 100 && wi d 1 1000)))
  cases h1 : wi r 1 100
  · rw [h1] at H1
    clear h1
    go_enter Tryd.func23, Tryd.ntmps23
    go_wp2_with fail
    refine (H1.out _).mono ?_; rintro e w' ⟨rfl, rfl⟩
    go_wp2_with fail
    go_ret
    exact ⟨rfl, hW⟩
  · rw [h1] at H1
    clear h1
    go_enter Tryd.func23, Tryd.ntmps23
    go_wp2_with fail
    refine (H1.out _).mono ?_; rintro e w' ⟨rfl, rfl⟩
    go_wp2_with fail
    refine (H2.out _).mono ?_; rintro e w' ⟨rfl, rfl⟩
    go_wp2_with fail
    go_ret
    exact ⟨rfl, hW⟩
theorem shBucket_any (x : Bu) (w : World) : Calls Tryd.prog 29 #[BuV x] w (RetV w (.bool (buOk x))) := by
  obtain ⟨r, d⟩ := x
  simp only [BuV]
  have hW : Below w.heap.size w (w.alloc (.cells #[.int .i64 r, .int .i64 d] 32)) := (Below.refl _ _).alloc (Nat.le_refl _) _
  have H1 : Hid (∀ w, Calls Tryd.prog 46 #[.int .i64 r, .int .i64 1, .int .i64 100] w fun e w' => e = .returned (.bool (wi r 1 100)) ∧ w = w') := fun w => l1In_wi r 1 100 w
  have H2 : Hid (∀ w, Calls Tryd.prog 46 #[.int .i64 d, .int .i64 1, .int .i64 1000] w fun e w' => e = .returned (.bool (wi d 1 1000)) ∧ w = w') := fun w => l1In_wi d 1 1000 w
  show Calls _ _ _ _ (RetV w (.bool (wi r 1 100 && wi d 1 1000)))
  cases h1 : wi r 1 100
  · rw [h1] at H1
    clear h1
    go_enter Tryd.func29, Tryd.ntmps29
    go_wp2_with fail
    refine (H1.out _).mono ?_; rintro e w' ⟨rfl, rfl⟩
    go_wp2_with fail
    go_ret
    exact ⟨rfl, hW⟩
  · rw [h1] at H1
    clear h1
    go_enter Tryd.func29, Tryd.ntmps29
    go_wp2_with fail
    refine (H1.out _).mono ?_; rintro e w' ⟨rfl, rfl⟩
    go_wp2_with fail
    refine (H2.out _).mono ?_; rintro e w' ⟨rfl, rfl⟩
    go_wp2_with fail
    go_ret
    exact ⟨rfl, hW⟩
theorem specBucket_any (x : Bu) (w : World) : Calls Tryd.prog 24 #[BuV x] w (RetV w (.bool (buOk x))) := by
  have H1 := Lib.hid fun w => shBucket_any x w
  obtain ⟨r, d⟩ := x
  simp only [BuV] at H1 ⊢
  have hW : Below w.heap.size w (w.alloc (.cells #[.int .i64 r, .int .i64 d] 32)) := (Below.refl _ _).alloc (Nat.le_refl _) _
  go_enter Tryd.func24, Tryd.ntmps24
  go_wp2_with fail
  refine (H1.out _).mono ?_; rintro e w1 ⟨rfl, hb⟩
  go_wp2_with fail
  go_ret
  exact ⟨rfl, hW.trans (hb.mono hW.size)⟩
theorem implIsBucket_any (x : Bu) (w : World) : Calls Tryd.prog 23 #[BuV x] w (RetV w (.bool (buOk x))) := implBucket_any x w
theorem specIsBucket_any (x : Bu) (w : World) : Calls Tryd.prog 24 #[BuV x] w (RetV w (.bool (buOk x))) := specBucket_any x w
theorem implTraffic_any (v : Value) (l : List Int) (w : World) (h : RI w w.heap.size v l) (hn : l.length ≤ 1048576) :
    Calls Tryd.prog 19 #[v] w fun e w' => e = .returned (.bool (trOk l)) ∧ w = w' := by
  have h0 := h
  obtain ⟨A, c, rfl, hlc, hc⟩ := h
  clear hc
  have hn' : (l.length : Int) ≤ 1048576 := by omega
  by_cases h1 : l.length ≤ 40
  · rw [trOk_short h1]
    have h2 : (l.length : Int) ≤ 40 := by omega
    have H1 := Lib.hid (areAllUpTo_any _ l 1000 w h0 hn)
    go_enter Tryd.func19, Tryd.ntmps19
    go_wp2_with fail
    refine H1.out.mono ?_; rintro e w' ⟨rfl, rfl⟩
    go_wp2_with fail
    go_ret
    exact ⟨rfl, rfl⟩
  · rw [trOk_long h1]
    have h2 : ¬ ((l.length : Int) ≤ 40) := by omega
    go_enter Tryd.func19, Tryd.ntmps19
    go_wp2_with fail
    go_ret
    exact ⟨rfl, rfl⟩
theorem shTraffic_any (v : Value) (l : List Int) (w : World) (h : RI w w.heap.size v l) (hn : l.length ≤ 1048576) :
    Calls Tryd.prog 27 #[v] w fun e w' => e = .returned (.bool (trOk l)) ∧ w = w' := by
  have h0 := h
  obtain ⟨A, c, rfl, hlc, hc⟩ := h
  clear hc
  have hn' : (l.length : Int) ≤ 1048576 := by omega
  by_cases h1 : l.length ≤ 40
  · rw [trOk_short h1]
    have h2 : (l.length : Int) ≤ 40 := by omega
    have H1 := Lib.hid (shAll_any _ l 0 1000 w h0 hn)
    go_enter Tryd.func27, Tryd.ntmps27
    go_wp2_with fail
    refine H1.out.mono ?_; rintro e w' ⟨rfl, rfl⟩
    go_wp2_with fail
    go_ret
    exact ⟨rfl, rfl⟩
  · rw [trOk_long h1]
    have h2 : ¬ ((l.length : Int) ≤ 40) := by omega
    go_enter Tryd.func27, Tryd.ntmps27
    go_wp2_with fail
    go_ret
    exact ⟨rfl, rfl⟩
theorem implIsTraffic_any (v : Value) (l : List Int) (w : World) (h : RI w w.heap.size v l) (hn : l.length ≤ 1048576) : Calls Tryd.prog 19 #[v] w (RetV w (.bool (trOk l))) := (implTraffic_any v l w h hn).mono fun _ _ ⟨he, hw⟩ => ⟨he, hw ▸ Below.refl _ _⟩
theorem specIsTraffic_any (v : Value) (l : List Int) (w : World) (h : RI w w.heap.size v l) (hn : l.length ≤ 1048576) : Calls Tryd.prog 20 #[v] w (RetV w (.bool (trOk l))) := by
  have HH := Lib.hid (shTraffic_any v l w h hn)
  go_enter Tryd.func20, Tryd.ntmps20
  go_wp2_with fail
  refine HH.out.mono ?_; rintro e w' ⟨rfl, rfl⟩
  go_wp2
  go_ret
  exact ⟨rfl, Below.refl _ _⟩
theorem implAsk_any (x : Bu) (v : Value) (l : List Int) (w : World) (h : RI w w.heap.size v l) (hn : l.length ≤ 1048576) :
    Calls Tryd.prog 30 #[BuV x, v] w (RetV w (.bool (askOk x l))) := by
  have H1 := Lib.hid fun w => implBucket_any x w
  have H2 : Hid (∀ w', Below w.heap.size w w' → Calls Tryd.prog 19 #[v] w' fun e w'' => e = .returned (.bool (trOk l)) ∧ w' = w'') := fun w' hb => implTraffic_any v l w' ((h.below hb).more hb.size) hn
  clear h
  show Calls _ _ _ _ (RetV w (.bool (buOk x && trOk l)))
  obtain ⟨b, hb⟩ : ∃ b, b = buOk x := ⟨_, rfl⟩
  rw [← hb] at H1 ⊢
  clear hb
  obtain ⟨r, d⟩ := x
  simp only [BuV] at H1 ⊢
  have hW : Below w.heap.size w (w.alloc (.cells #[.int .i64 r, .int .i64 d] 32)) := (Below.refl _ _).alloc (Nat.le_refl _) _
  cases b
  · go_enter Tryd.func30, Tryd.ntmps30
    go_wp2_with fail
    refine (H1.out _).mono ?_; rintro e w1 ⟨rfl, hb⟩
    go_wp2_with fail
    go_ret
    exact ⟨rfl, hW.trans (hb.mono hW.size)⟩
  · go_enter Tryd.func30, Tryd.ntmps30
    go_wp2_with fail
    refine (H1.out _).mono ?_; rintro e w1 ⟨rfl, hb⟩
    have hT := hW.trans (hb.mono hW.size)
    go_wp2_with fail
    refine (H2.out _ hT).mono ?_; rintro e w2 ⟨rfl, rfl⟩
    go_wp2_with fail
    go_ret
    exact ⟨rfl, hT⟩
end Go.Proofs.YtfncajdhdcpooaaDoor
