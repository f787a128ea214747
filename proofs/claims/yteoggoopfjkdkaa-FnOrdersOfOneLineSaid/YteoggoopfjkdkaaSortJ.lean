/-
  The insertion sort of indices by their starts; the stable sort; the order of starts.
-/
import Derived.Test.YteoggoopfjkdkaaSortI
namespace Go.Proofs.Yteoggoopfjkdkaa
open Go.RowKit
set_option maxRecDepth 100000
set_option linter.unusedVariables false

theorem swap_row {E : TypeId} {w : World} {lo g c : Nat} {d : List Int} (m : Nat) (h : w.ownsRow lo E 1 (.slice (some ⟨g, 0, none⟩) d.length c) d.length (ics d)) :
    ((w.setCell ⟨g, m + 1, none⟩ (.int .i64 (d.getD m 0))).setCell ⟨g, m, none⟩ (.int .i64 (d.getD (m + 1) 0))).ownsRow lo E 1 (.slice (some ⟨g, 0, none⟩) d.length c) d.length (ics (swL d m)) := by
  have h1 := (World.ownsRow.stored h (m + 1) (.int .i64 (d.getD m 0))).1
  have h2 := (World.ownsRow.stored h1 m (.int .i64 (d.getD (m + 1) 0))).1
  have e : ((ics d).set (m + 1) (.int .i64 (d.getD m 0))).set m (.int .i64 (d.getD (m + 1) 0)) = ics (swL d m) := by simp [ics, swL, List.map_set]
  rw [e] at h2
  exact h2

set_option maxHeartbeats 2000000 in
theorem insert_any (A : Option Addr) (B0 c0 g cg lo n : Nat) (ss l : List Int) (w : World) (HN : Hid (ss.length = n)) (hB : w.cell? ⟨B0, 0, none⟩ = some (.slice A n c0)) (hl : n ≤ 20)
    (hcell : 0 < n → ∃ b off, A = some ⟨b, off, none⟩ ∧ b < lo ∧ ∀ j, j < n → w.cell? ⟨b, off + j, none⟩ = some (.int .i64 (ss.getD j 0))) (hB0 : B0 < lo) (hlo : lo ≤ w.heap.size)
    (hr : w.ownsRow lo 3 1 (.slice (some ⟨g, 0, none⟩) n cg) n (ics l)) (ho : Order n l) :
    Calls Try.prog 80 #[.slice (some ⟨g, 0, none⟩) n cg, .int .i64 0, .int .i64 n, .func (.func 76) #[] #[.pointer (some ⟨B0, 0, none⟩)]] w
      fun e w' => e = .returned (.tuple #[]) ∧ ∃ d, Order n d ∧ Srt ss d n ∧ w'.ownsRow lo 3 1 (.slice (some ⟨g, 0, none⟩) n cg) n (ics d) ∧ Below lo w w' := by
  obtain ⟨hlg, hgs, _⟩ := row_parts hr
  have hl' : (n : Int) ≤ 20 := by omega
  have HB := Lib.hid hB
  have HC := Lib.hid hcell
  clear hB hcell
  go_enter Try.func80, Try.ntmps80
  go_wp2_with fail
  go_loopw [8] (fun u wr => ∃ (i : Nat) (d : List Int), 1 ≤ i ∧ i ≤ n + 1 ∧ u = .int .i64 i ∧ Order n d ∧ Srt ss d i ∧ wr.ownsRow lo 3 1 (.slice (some ⟨g, 0, none⟩) n cg) n (ics d) ∧ Below lo w wr)
    (fun u _ => (n + 1) - (intOf u).toNat)
  case atStart => exact ⟨1, l, by omega, by omega, rfl, ho, fun p q h1 h2 => absurd h1 (by omega), hr, Below.refl _ _⟩
  case round =>
    obtain ⟨i, d, hi1, hi2, rfl, hod, hsd, hown, hbw⟩ := hrel
    by_cases hlt : i < n
    · have hlt' : (i : Int) < (n : Int) := by omega
      have HSD := Lib.hid hsd.but
      have HOD := Lib.hid hod
      have HOW := Lib.hid hown
      clear hsd hod hown
      go_wp2_with fail
      go_loopw [9] (fun u wr => ∃ (j : Nat) (d2 : List Int), j ≤ i ∧ u = .int .i64 j ∧ Order n d2 ∧ SrtBut ss d2 i j ∧ wr.ownsRow lo 3 1 (.slice (some ⟨g, 0, none⟩) n cg) n (ics d2) ∧ Below lo w wr)
        (fun u _ => (intOf u).toNat)
      case atStart => exact ⟨i, d, Nat.le_refl _, rfl, HOD.out, HSD.out, HOW.out, hbw⟩
      case round =>
        obtain ⟨j, d2, hji, rfl, hod, hsd, hown, hbw2⟩ := hrel
        have HBW := Lib.hid hbw2
        have hdl := hod.len
        have HOD := Lib.hid hod
        have HSD := Lib.hid hsd
        by_cases hj0 : j = 0
        · have HF : Hid (Srt ss d2 (i + 1)) := by subst hj0; exact hsd.at_zero
          have HOW := Lib.hid hown
          have hj1 : decide ((0 : Int) < (j : Int)) = false := by rw [decide_eq_false_iff_not]; omega
          have hj2 : decide (0 < j) = false := by rw [decide_eq_false_iff_not]; omega
          clear hod hsd hown hbw2 hdl hj0
          go_wp2_with fail
          go_quiet (fail)
          go_wp2_with fail
          go_roundw
          case rel => exact ⟨i + 1, d2, by omega, by omega, by go_num, HOD.out, HF.out, HOW.out, below_drewN HBW.out _⟩
          case measure => simp [intOf]; omega
        · obtain ⟨m, hm⟩ : ∃ m, j = m + 1 := ⟨j - 1, by omega⟩
          have hmn : m + 1 < n := by omega
          have r1 := hod.rng (m + 1) hmn
          have r2 := hod.rng m (by omega)
          have hc1 : wr.cell? ⟨g, j, none⟩ = some (.int .i64 (d2.getD (m + 1) 0)) := by
            rw [hm, World.ownsRow.cellAt hown (m + 1) (by omega), ics_get _ _ (by omega)]
          have hc2 : wr.cell? ⟨g, m, none⟩ = some (.int .i64 (d2.getD m 0)) := by
            rw [World.ownsRow.cellAt hown m (by omega), ics_get _ _ (by omega)]
          have hf1 : wr.frozen? ⟨g, j, none⟩ = false := World.ownsRow.frozenAt hown j
          have hf2 : wr.frozen? ⟨g, m, none⟩ = false := World.ownsRow.frozenAt hown m
          have hsw := swap_row m (by rw [hdl]; exact hown)
          rw [hdl] at hsw
          have hsd' : SrtBut ss d2 i (m + 1) := hm ▸ hsd
          have hmi' : m + 1 ≤ i := by omega
          have HSB := Lib.hid (fun hlt => hsd'.swap (by omega) hmi' hlt)
          have HSE := Lib.hid (fun hge => hsd'.at_end hmi' hge)
          have HOS := Lib.hid (HOD.out.swap m hmn)
          obtain ⟨X, hX⟩ : ∃ X : Nat, d2.getD (m + 1) 0 = X := ⟨(d2.getD (m + 1) 0).toNat, by omega⟩
          obtain ⟨Y, hY⟩ : ∃ Y : Nat, d2.getD m 0 = Y := ⟨(d2.getD m 0).toNat, by omega⟩
          rw [hX] at hc1 r1 hsw HSB HSE
          rw [hY] at hc2 r2 hsw HSB HSE
          rw [sk_nat, sk_nat] at HSB HSE
          obtain ⟨b, off, hA, hb, hCC⟩ := HC.out (by omega)
          have hL := fun k => lessSt_any B0 b off c0 n ss X Y (wr.drewN k) (by rw [← hA]; exact (HBW.out.cell (p := ⟨B0, 0, none⟩) hB0).trans HB.out) hl (fun q hq => (HBW.out.cell (p := ⟨b, off + q, none⟩) hb).trans (hCC q hq)) (by omega) (by omega)
          clear hA hCC
          have hcn := cmpI_neg (ss.getD X 0) (ss.getD Y 0)
          generalize ss.getD X 0 = sx at hL hcn HSB HSE
          generalize ss.getD Y 0 = sy at hL hcn HSB HSE
          generalize cmpI sx sy = V at hL hcn
          have HL := Lib.hid hL
          have HOW := Lib.hid hown
          have HSW := Lib.hid hsw
          have HM := Lib.hid hm
          have HCN := Lib.hid hcn
          have hj1 : decide ((0 : Int) < (j : Int)) = true := by rw [decide_eq_true_eq]; omega
          have hj2 : decide (0 < j) = true := by rw [decide_eq_true_eq]; omega
          have hj3 : 0 < j := by omega
          have e8 : IntKind.i64.wrap ((j : Int) - 1) = (m : Int) := by rw [IntWalk.i64_in _ (by omega)]; omega
          have hmi : (m : Int) < (n : Int) := by omega
          have hji2 : (j : Int) < (n : Int) := by omega
          have hmj : m ≠ j := by omega
          clear hod hsd hsd' hown hbw2 hsw hX hY r1 r2 hL hcn hm hdl hj0
          by_cases hv : V < 0
          · have HF := Lib.hid (HSB.out (HCN.out.1 hv))
            go_wp2_with fail
            go_quiet ((go_at_call 76; exact Calls.quiet_of (HL.out _)))
            go_wp2_with fail
            go_region
            all_goals
              go_wp2_with fail
              go_roundw
              case rel => exact ⟨m, swL d2 m, by omega, by go_num, HOS.out, HF.out, (by have h9 := HSW.out; rw [← HM.out] at h9; exact h9), ((below_drewN HBW.out _).setCell (p := ⟨g, j, none⟩) hlg _).setCell (p := ⟨g, m, none⟩) hlg _⟩
              case measure => have h9 := HM.out; simp [intOf]; omega
          · have HF := Lib.hid (HSE.out (fun h => hv (HCN.out.2 h)))
            go_wp2_with fail
            go_quiet ((go_at_call 76; exact Calls.quiet_of (HL.out _)))
            go_wp2_with fail
            go_roundw
            case rel => exact ⟨i + 1, d2, by omega, by omega, by go_num, HOD.out, HF.out, HOW.out, below_drewN HBW.out _⟩
            case measure => simp [intOf]; omega
    · have HS : Hid (Srt ss d n) := fun p q h1 h2 => hsd p q h1 (by omega)
      have HOW := Lib.hid hown
      have HOD := Lib.hid hod
      clear hsd hown hod
      go_wp2_with fail
      go_end0
      exact ⟨rfl, d, HOD.out, HS.out, HOW.out, hbw⟩

set_option maxHeartbeats 1000000 in
/-- At one place there is nothing to sort. -/
theorem insertOne_any (n g cg a b : Nat) (f : Value) (w : World) (ha : a ≤ 20) (hb : b ≤ a) :
    Calls Try.prog 80 #[.slice (some ⟨g, 0, none⟩) n cg, .int .i64 a, .int .i64 b, f] w fun e w' => e = .returned (.tuple #[]) ∧ w = w' := by
  go_enter Try.func80, Try.ntmps80
  go_wp2_with fail
  go_loopw [8] (fun u wr => u = .int .i64 (a + 1 : Nat) ∧ wr = w) (fun _ _ => 0)
  case atStart => exact ⟨by go_num, rfl⟩
  case round =>
    obtain ⟨rfl, rfl⟩ := hrel
    go_wp2_with fail
    go_end0
    exact ⟨rfl, rfl⟩
/-- What a sort of indices by their starts leaves. -/
def Sorted (E : TypeId) (ss : List Int) (n g cg lo : Nat) (w : World) (e : Ending) (w' : World) : Prop :=
  e = .returned (.tuple #[]) ∧ ∃ d, Order n d ∧ Srt ss d n ∧ w'.ownsRow lo E 1 (.slice (some ⟨g, 0, none⟩) n cg) n (ics d) ∧ Below lo w w'
set_option maxHeartbeats 1000000 in
theorem stable_any (A : Option Addr) (B0 c0 g cg lo n : Nat) (ss l : List Int) (w : World) (HN : Hid (ss.length = n)) (hB : w.cell? ⟨B0, 0, none⟩ = some (.slice A n c0)) (hl : n ≤ 20)
    (hcell : 0 < n → ∃ b off, A = some ⟨b, off, none⟩ ∧ b < lo ∧ ∀ j, j < n → w.cell? ⟨b, off + j, none⟩ = some (.int .i64 (ss.getD j 0))) (hB0 : B0 < lo) (hlo : lo ≤ w.heap.size)
    (hr : w.ownsRow lo 3 1 (.slice (some ⟨g, 0, none⟩) n cg) n (ics l)) (ho : Order n l) :
    Calls Try.prog 78 #[.slice (some ⟨g, 0, none⟩) n cg, .int .i64 n, .func (.func 76) #[] #[.pointer (some ⟨B0, 0, none⟩)]] w (Sorted 3 ss n g cg lo w) := by
  have HI := Lib.hid (insert_any A B0 c0 g cg lo n ss l w HN hB hl hcell hB0 hlo hr ho)
  clear hB hcell hr ho
  by_cases h20 : n = 20
  · subst h20
    have HO := Lib.hid (fun w => insertOne_any 20 g cg 20 20 (.func (.func 76) #[] #[.pointer (some ⟨B0, 0, none⟩)]) w (by omega) (by omega))
    simp only [Int.cast_ofNat_Int] at HI HO ⊢
    go_enter Try.func78, Try.ntmps78
    go_wp2_with fail
    go_loopw [7, 8] (fun x y wr => (x = .int .i64 0 ∧ y = .int .i64 20 ∧ wr = w) ∨ (x = .int .i64 20 ∧ y = .int .i64 40 ∧ Sorted 3 ss 20 g cg lo w (.returned (.tuple #[])) wr)) (fun x _ _ => (20 - intOf x).toNat)
    case atStart => exact .inl ⟨rfl, rfl, rfl⟩
    case round =>
      rcases hrel with ⟨rfl, rfl, rfl⟩ | ⟨rfl, rfl, hs⟩
      · go_wp2_with fail
        refine HI.out.mono ?_; rintro e w1 ⟨rfl, hs⟩
        have HS : Hid (Sorted 3 ss 20 g cg lo wr (.returned (.tuple #[])) w1) := ⟨rfl, hs⟩
        clear hs
        go_wp2_with fail
        go_roundw
        case rel => first | exact .inr ⟨rfl, rfl, HS.out⟩ | exact .inr ⟨by go_num, by go_num, HS.out⟩
        case measure => simp [intOf]
      · have HS := Lib.hid hs
        clear hs
        go_wp2_with fail
        refine (HO.out _).mono ?_; rintro e w1 ⟨rfl, rfl⟩
        go_wp2_with fail
        go_loopw [6] (fun x wr2 => x = .int .i64 20 ∧ wr2 = wr) (fun _ _ => 0)
        case atStart => exact ⟨rfl, rfl⟩
        case round =>
          obtain ⟨rfl, rfl⟩ := hrel
          go_wp2_with fail
          go_end0
          exact HS.out
  · have hn : n < 20 := by omega
    have hn' : (n : Int) < 20 := by omega
    clear h20
    go_enter Try.func78, Try.ntmps78
    go_wp2_with fail
    go_loopw [7, 8] (fun x y wr => x = .int .i64 0 ∧ y = .int .i64 20 ∧ wr = w) (fun x _ _ => 0)
    case atStart => exact ⟨rfl, rfl, rfl⟩
    case round =>
      obtain ⟨rfl, rfl, rfl⟩ := hrel
      go_wp2_with fail
      refine HI.out.mono ?_; rintro e w1 ⟨rfl, hs⟩
      have HS : Hid (Sorted 3 ss n g cg lo wr (.returned (.tuple #[])) w1) := ⟨rfl, hs⟩
      clear hs
      go_wp2_with fail
      go_loopw [6] (fun x wr2 => x = .int .i64 20 ∧ wr2 = w1) (fun _ _ => 0)
      case atStart => exact ⟨rfl, rfl⟩
      case round =>
        obtain ⟨rfl, rfl⟩ := hrel
        go_wp2_with fail
        go_end0
        exact HS.out
theorem sortStable_any (A : Option Addr) (B0 c0 g cg lo n : Nat) (ss l : List Int) (w : World) (HN : Hid (ss.length = n)) (hB : w.cell? ⟨B0, 0, none⟩ = some (.slice A n c0)) (hl : n ≤ 20)
    (hcell : 0 < n → ∃ b off, A = some ⟨b, off, none⟩ ∧ b < lo ∧ ∀ j, j < n → w.cell? ⟨b, off + j, none⟩ = some (.int .i64 (ss.getD j 0))) (hB0 : B0 < lo) (hlo : lo ≤ w.heap.size)
    (hr : w.ownsRow lo 3 1 (.slice (some ⟨g, 0, none⟩) n cg) n (ics l)) (ho : Order n l) :
    Calls Try.prog 75 #[.slice (some ⟨g, 0, none⟩) n cg, .func (.func 76) #[] #[.pointer (some ⟨B0, 0, none⟩)]] w (Sorted 3 ss n g cg lo w) := by
  have HI := Lib.hid (stable_any A B0 c0 g cg lo n ss l w HN hB hl hcell hB0 hlo hr ho)
  clear hB hcell hr ho
  go_enter Try.func75, Try.ntmps75
  go_wp2_with fail
  refine HI.out.mono ?_; rintro e w1 ⟨rfl, hs⟩
  have HS : Hid (Sorted 3 ss n g cg lo w (.returned (.tuple #[])) w1) := ⟨rfl, hs⟩
  clear hs
  go_wp2_with fail
  go_end0
  exact HS.out
end Go.Proofs.Yteoggoopfjkdkaa
