/-
  Strictly rising places: the contracts of the functions that look for them.
-/
import Derived.Test.YtmghhhceemmdpaaIn
namespace Go.Proofs.Ytmghhhceemmdpaa
open Go.RowKit
set_option maxRecDepth 100000

/-- Places: strictly rising, within the bits. -/
def Rises (hi : Int) (ps : List Int) (k : Nat) : Prop := ∀ j, j < k → 0 ≤ ps.getD j 0 ∧ ps.getD j 0 ≤ hi ∧ (0 < j → ps.getD (j - 1) 0 < ps.getD j 0)
instance (hi : Int) (ps : List Int) (k : Nat) : Decidable (Rises hi ps k) := by unfold Rises; infer_instance
theorem Rises.succ {hi : Int} {ps : List Int} {k : Nat} (h : Rises hi ps k) (h1 : 0 ≤ ps.getD k 0) (h2 : ps.getD k 0 ≤ hi) (h3 : 0 < k → ps.getD (k - 1) 0 < ps.getD k 0) : Rises hi ps (k + 1) := by
  intro j hj
  by_cases e : j = k
  · subst e; exact ⟨h1, h2, h3⟩
  · exact h j (by omega)
/-- The least place that may come next. -/
def nxt (l : List Int) : Nat → Int
  | 0 => 0
  | k + 1 => l.getD k 0 + 1
theorem nxt_ge {hi : Int} {l : List Int} {k : Nat} (h : Rises hi l k) : 0 ≤ nxt l k ∧ nxt l k ≤ hi + 1 ∨ (k = 0 ∧ nxt l k = 0) := by
  cases k with
  | zero => exact .inr ⟨rfl, rfl⟩
  | succ k => have := h k (by omega); simp only [nxt]; omega
theorem nxt_lt {l : List Int} {k : Nat} {x : Int} (h : nxt l k ≤ x) : 0 < k → l.getD (k - 1) 0 < x := by
  intro hk
  cases k with
  | zero => omega
  | succ k => simp only [nxt] at h; simp only [Nat.add_sub_cancel]; omega
theorem nxt_of {hi : Int} {l : List Int} {k : Nat} (h : Rises hi l (k + 1)) : nxt l k ≤ l.getD k 0 := by
  have h1 := h k (by omega)
  cases k with
  | zero => simp only [nxt]; exact h1.1
  | succ k => have := h1.2.2 (by omega); simp only [nxt, Nat.add_sub_cancel] at this ⊢; omega
theorem Rises.mono {hi : Int} {l : List Int} {k m : Nat} (h : Rises hi l m) (hk : k ≤ m) : Rises hi l k := fun j hj => h j (by omega)

theorem arePlaces_any (v : Value) (l : List Int) (n : Int) (w : World) (h : RI w w.heap.size v l) (hn : l.length ≤ 1048576) (h0 : 0 ≤ n) (h1 : n ≤ 1000) :
    Calls Try.prog 35 #[v, .int .i64 n] w fun e w' => e = .returned (.bool (decide (Rises (n - 1) l l.length))) ∧ w = w' := by
  obtain ⟨A, c, rfl, hlc, hc⟩ := h
  have hn' : (l.length : Int) ≤ 1048576 := by omega
  go_enter Try.func35, Try.ntmps35
  go_wp2
  go_loop [5, 10] (fun t i => ∃ k : Nat, k ≤ l.length ∧ i = .int .i64 k ∧ t = .int .i64 (nxt l k) ∧ Rises (n - 1) l k) (fun _ i => l.length - (intOf i).toNat)
  case atStart => exact ⟨0, Nat.zero_le _, rfl, rfl, fun j hj => absurd hj (by omega)⟩
  case round =>
    obtain ⟨k, hk, rfl, rfl, hall⟩ := hrel
    have hnx := nxt_ge hall
    have HA := Lib.hid hall
    clear hall
    by_cases hlt : k < l.length
    · obtain ⟨b, off, rfl, hbB, hcell⟩ := hc (by omega)
      have hcx : w.cell? ⟨b, off + k, none⟩ = some (.int .i64 (l.getD k 0)) := hcell k hlt
      have HC := Lib.hid hcell
      clear hcell hc
      have HX : Hid (nxt l (k + 1) = l.getD k 0 + 1) := rfl
      have HY : Hid (∀ m, m = l.getD k 0 → nxt l k ≤ m → m ≤ n - 1 → Rises (n - 1) l (k + 1)) := by
        show ∀ m, _
        rintro m rfl h2 h3
        exact HA.out.succ (by omega) h3 (nxt_lt h2)
      have HZ : Hid (∀ m, m = l.getD k 0 → Rises (n - 1) l l.length → nxt l k ≤ m ∧ m ≤ n - 1) := by
        show ∀ m, _
        rintro m rfl h2
        exact ⟨nxt_of (h2.mono (by omega)), (h2 k hlt).2.1⟩
      obtain ⟨x, hx⟩ : ∃ x, x = l.getD k 0 := ⟨_, rfl⟩
      rw [← hx] at hcx HX
      have HXX := Lib.hid hx
      clear hx
      generalize nxt l k = t at hnx HY HZ ⊢
      by_cases hw : t ≤ x ∧ x ≤ n - 1
      · have HR := Lib.hid (HY.out x HXX.out hw.1 hw.2)
        go_wp2_with (go_at_call 34; refine (isWithin_is _ _ _ _ true (by simp only [decide_eq_true_eq]; omega)).mono ?_; rintro e w' ⟨rfl, rfl⟩)
        go_round
        case rel => exact ⟨k + 1, by omega, by go_num, by rw [HX.out], HR.out⟩
        case measure => simp [intOf]; omega
      · have HN := Lib.hid hw
        clear hw
        go_wp2_with (go_at_call 34; refine (isWithin_is _ _ _ _ false (by have := HN.out; simp only [decide_eq_false_iff_not]; omega)).mono ?_; rintro e w' ⟨rfl, rfl⟩)
        go_ret
        exact ⟨ret_bool (by symm; rw [decide_eq_false_iff_not]; intro h2; exact HN.out (HZ.out x HXX.out h2)), rfl⟩
    · obtain rfl : k = l.length := by omega
      go_wp2
      go_ret
      exact ⟨ret_bool (by symm; rw [decide_eq_true_eq]; exact HA.out), rfl⟩

theorem l1Rising_any (v : Value) (l : List Int) (n : Int) (w : World) (h : RI w w.heap.size v l) (hn : l.length ≤ 1048576) :
    Calls Try.prog 38 #[v, .int .i64 0, .int .i64 n] w fun e w' => e = .returned (.bool (decide (Rises n l l.length))) ∧ w = w' := by
  obtain ⟨A, c, rfl, hlc, hc⟩ := h
  have hn' : (l.length : Int) ≤ 1048576 := by omega
  go_enter Try.func38, Try.ntmps38
  go_wp2
  go_loop [11] (fun i => ∃ k : Nat, k ≤ l.length ∧ i = .int .i64 k ∧ Rises n l k) (fun i => l.length - (intOf i).toNat)
  case atStart => exact ⟨0, Nat.zero_le _, rfl, fun j hj => absurd hj (by omega)⟩
  case round =>
    obtain ⟨k, hk, rfl, hall⟩ := hrel
    have HA := Lib.hid hall
    clear hall
    by_cases hlt : k < l.length
    · obtain ⟨b, off, rfl, hbB, hcell⟩ := hc (by omega)
      have hcx : w.cell? ⟨b, off + k, none⟩ = some (.int .i64 (l.getD k 0)) := hcell k hlt
      have hcy : 0 < k → w.cell? ⟨b, off + (k - 1), none⟩ = some (.int .i64 (l.getD (k - 1) 0)) := fun _ => hcell (k - 1) (by omega)
      have HC := Lib.hid hcell
      clear hcell hc
      have HY : Hid (0 ≤ l.getD k 0 → l.getD k 0 ≤ n → (0 < k → l.getD (k - 1) 0 < l.getD k 0) → Rises n l (k + 1)) := by
        show _ → _
        exact fun h1 h2 h3 => HA.out.succ h1 h2 h3
      have HZ : Hid (Rises n l l.length → 0 ≤ l.getD k 0 ∧ l.getD k 0 ≤ n ∧ (0 < k → l.getD (k - 1) 0 < l.getD k 0)) := by
        show _ → _
        exact fun h2 => h2 k hlt
      generalize l.getD k 0 = x at hcx HY HZ
      generalize l.getD (k - 1) 0 = y at hcy HY HZ
      by_cases hw : 0 ≤ x ∧ x ≤ n
      · rcases Nat.eq_zero_or_pos k with rfl | hk0
        · have HR := Lib.hid (HY.out hw.1 hw.2 (fun h => absurd h (by omega)))
          clear hcy
          rw [Nat.add_zero] at hcx
          go_wp2_with (go_at_call 37; refine (l1In_is _ _ _ _ true (by simp only [decide_eq_true_eq]; omega)).mono ?_; rintro e w' ⟨rfl, rfl⟩)
          go_round
          case rel => exact ⟨1, by omega, by go_num, HR.out⟩
          case measure => simp [intOf]; omega
        · have hcy' := hcy hk0
          clear hcy
          have hk0' : (0 : Int) < (k : Int) := by omega
          by_cases hyx : y < x
          · have HR := Lib.hid (HY.out hw.1 hw.2 (fun _ => hyx))
            go_wp2_with (go_at_call 37; refine (l1In_is _ _ _ _ true (by simp only [decide_eq_true_eq]; omega)).mono ?_; rintro e w' ⟨rfl, rfl⟩)
            go_round
            case rel => exact ⟨k + 1, by omega, by go_num, HR.out⟩
            case measure => simp [intOf]; omega
          · have hyx' : x ≤ y := by omega
            have HN := Lib.hid hyx
            clear hyx
            go_wp2_with (go_at_call 37; refine (l1In_is _ _ _ _ true (by simp only [decide_eq_true_eq]; omega)).mono ?_; rintro e w' ⟨rfl, rfl⟩)
            go_ret
            exact ⟨ret_bool (by symm; rw [decide_eq_false_iff_not]; intro h2; have h5 := HN.out; have h6 := (HZ.out h2).2.2 hk0; omega), rfl⟩
      · have HN := Lib.hid hw
        clear hw
        go_wp2_with (go_at_call 37; refine (l1In_is _ _ _ _ false (by have := HN.out; simp only [decide_eq_false_iff_not]; omega)).mono ?_; rintro e w' ⟨rfl, rfl⟩)
        go_ret
        exact ⟨ret_bool (by symm; rw [decide_eq_false_iff_not]; intro h2; exact HN.out ⟨(HZ.out h2).1, (HZ.out h2).2.1⟩), rfl⟩
    · obtain rfl : k = l.length := by omega
      go_wp2
      go_ret
      exact ⟨ret_bool (by symm; rw [decide_eq_true_eq]; exact HA.out), rfl⟩

end Go.Proofs.Ytmghhhceemmdpaa
