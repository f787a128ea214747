/-
  Jobs: the contracts of the functions that look whether a list is jobs.
-/
import Derived.Test.YteoggoopfjkdkaaSJob
import Derived.Deep.QuietTactic
import Derived.BigQuiet
namespace Go.Proofs.Yteoggoopfjkdkaa
open Go.RowKit
set_option maxRecDepth 100000
set_option linter.unusedVariables false

theorem jobsFrom_at (e : Int) (l : List Jb) (k : Nat) (hk : k < l.length) : jobsFrom e (l.drop k) = (jobOk e l[k]! && jobsFrom l[k]!.t (l.drop (k + 1))) := by
  rw [List.drop_eq_getElem_cons hk, getElem!_pos l k hk]
  rfl

set_option maxHeartbeats 1000000 in
theorem implAreJobs_any (v : Value) (l : List Jb) (w : World) (h : RJbS w w.heap.size v l) (hn : l.length ≤ 1048576) :
    Calls Try.prog 11 #[v] w (RetV w (.bool (areJb l))) := by
  have h0 := h
  obtain ⟨A, c, rfl, hfl, hlc, hc⟩ := h
  clear hc hfl
  obtain ⟨_, _, _, hc⟩ := h0.parts
  clear h0
  have hn' : (l.length : Int) ≤ 1048576 := by omega
  by_cases hlen : 20 < l.length
  · rw [areJb_long hlen]
    have hl2 : (20 : Int) < l.length := by omega
    go_enter Try.func11, Try.ntmps11
    go_wp2_with fail
    go_ret
    exact ⟨rfl, Below.refl _ _⟩
  rw [areJb_short (by omega)]
  have hl2 : (l.length : Int) ≤ 20 := by omega
  obtain ⟨R, hR⟩ : ∃ R, R = jobsFrom 0 l := ⟨_, rfl⟩
  rw [← hR]
  have HR : Hid (R = jobsFrom 0 (l.drop 0)) := hR
  clear hR
  go_enter Try.func11, Try.ntmps11
  go_wp2_with fail
  go_loopw [3, 11] (fun u i wr => ∃ (j : Nat) (e : Int), j ≤ l.length ∧ i = .int .i64 j ∧ u = .int .i64 e ∧ R = jobsFrom e (l.drop j) ∧ Below w.heap.size w wr) (fun _ i _ => l.length - (intOf i).toNat)
  case atStart => exact ⟨0, 0, Nat.zero_le _, rfl, rfl, HR.out, Below.refl _ _⟩
  case round =>
    obtain ⟨j, e, hj, rfl, rfl, hrj, hT⟩ := hrel
    have HT := Lib.hid hT
    have hs1 := hT.size
    by_cases hlt : j < l.length
    · obtain ⟨b, off, rfl, hbB, hcell⟩ := hc (by omega)
      obtain ⟨hd0, hd1, hd2⟩ := hcell j hlt
      have hc0 := (hT.cell (p := ⟨b, off + j * 3, none⟩) hbB).trans hd0
      have hc1 := (hT.cell (p := ⟨b, off + j * 3 + 1, none⟩) hbB).trans hd1
      have hc2 := (hT.cell (p := ⟨b, off + j * 3 + 2, none⟩) hbB).trans hd2
      clear hd0 hd1 hd2 hcell hc hT
      rw [jobsFrom_at _ _ _ hlt] at hrj
      generalize l[j]! = y at hc0 hc1 hc2 hrj
      obtain ⟨yt, yc, yl⟩ := y
      simp only [jobOk] at hc0 hc1 hc2 hrj
      cases h1 : wi yt e 1000
      · have HF : Hid (R = false) := by show _ = _; rw [hrj, h1, Bool.false_and, Bool.false_and]
        clear hrj
        go_wp2_with (go_at_call 32; refine (isWithin_wi _ _ _ _).mono ?_; rintro e w' ⟨rfl, rfl⟩)
        go_ret
        exact ⟨congrArg (fun z => Ending.returned (.bool z)) HF.out.symm, HT.out.alloc (by have := HT.out.size; omega) _⟩
      cases h2 : wi yc 0 7
      · have HF : Hid (R = false) := by show _ = _; rw [hrj, h2, Bool.false_and, Bool.and_false, Bool.false_and]
        clear hrj
        go_wp2_with (go_at_call 32; refine (isWithin_wi _ _ _ _).mono ?_; rintro e w' ⟨rfl, rfl⟩)
        go_ret
        exact ⟨congrArg (fun z => Ending.returned (.bool z)) HF.out.symm, HT.out.alloc (by have := HT.out.size; omega) _⟩
      cases h3 : wi yl 1 20
      · have HF : Hid (R = false) := by show _ = _; rw [hrj, h3, Bool.and_false, Bool.and_false, Bool.false_and]
        clear hrj
        go_wp2_with (go_at_call 32; refine (isWithin_wi _ _ _ _).mono ?_; rintro e w' ⟨rfl, rfl⟩)
        go_ret
        exact ⟨congrArg (fun z => Ending.returned (.bool z)) HF.out.symm, HT.out.alloc (by have := HT.out.size; omega) _⟩
      · have HF : Hid (R = jobsFrom yt (l.drop (j + 1))) := by show _ = _; rw [hrj, h1, h2, h3, Bool.true_and, Bool.true_and, Bool.true_and]
        clear hrj
        go_wp2_with (go_at_call 32; refine (isWithin_wi _ _ _ _).mono ?_; rintro e w' ⟨rfl, rfl⟩)
        go_roundw
        case rel => exact ⟨j + 1, yt, by omega, by go_num, rfl, HF.out, HT.out.alloc (by omega) _⟩
        case measure => simp [intOf]; omega
    · obtain rfl : j = l.length := by omega
      have HF : Hid (R = true) := by show _ = _; rw [hrj, List.drop_length]; rfl
      clear hrj
      go_wp2_with fail
      go_ret
      exact ⟨congrArg (fun z => Ending.returned (.bool z)) HF.out.symm, HT.out⟩

theorem l1In_q (n lo hi : Int) (w : World) (b : Bool) (h : wi n lo hi = b) : Calls Try.prog 38 #[.int .i64 n, .int .i64 lo, .int .i64 hi] w fun e w' => e = .returned (.bool b) ∧ w' = w :=
  (l1In_wi n lo hi w).mono fun _ _ hh => ⟨h ▸ hh.1, hh.2.symm⟩
theorem isWithin_q (n lo hi : Int) (w : World) (b : Bool) (h : wi n lo hi = b) : Calls Try.prog 32 #[.int .i64 n, .int .i64 lo, .int .i64 hi] w fun e w' => e = .returned (.bool b) ∧ w' = w :=
  (isWithin_wi n lo hi w).mono fun _ _ hh => ⟨h ▸ hh.1, hh.2.symm⟩
theorem wi_zero (t p : Int) (h : 0 ≤ p) : wi t p 1000 = (wi t 0 1000 && decide (p ≤ t)) := by
  unfold wi
  rw [Bool.eq_iff_iff]
  simp only [Bool.and_eq_true, decide_eq_true_eq]
  omega
/-- The tick of the one before. -/
def prevJ (l : List Jb) : Nat → Int
  | 0 => 0
  | j + 1 => l[j]!.t
set_option maxHeartbeats 2000000 in
theorem prJobs_any (v : Value) (l : List Jb) (w : World) (h : RJbS w w.heap.size v l) (hn : l.length ≤ 1048576) :
    Calls Try.prog 27 #[v] w (RetV w (.bool (areJb l))) := by
  have h0 := h
  obtain ⟨A, c, rfl, hfl, hlc, hc⟩ := h
  clear hc hfl
  obtain ⟨_, _, _, hc⟩ := h0.parts
  clear h0
  have hn' : (l.length : Int) ≤ 1048576 := by omega
  by_cases hlen : 20 < l.length
  · rw [areJb_long hlen]
    have hl2 : (20 : Int) < l.length := by omega
    go_enter Try.func27, Try.ntmps27
    go_wp2_with fail
    go_ret
    exact ⟨rfl, Below.refl _ _⟩
  rw [areJb_short (by omega)]
  have hl2 : (l.length : Int) ≤ 20 := by omega
  obtain ⟨R, hR⟩ : ∃ R, R = jobsFrom 0 l := ⟨_, rfl⟩
  rw [← hR]
  have HR : Hid (R = jobsFrom (prevJ l 0) (l.drop 0)) := hR
  clear hR
  go_enter Try.func27, Try.ntmps27
  go_wp2_with fail
  go_loopw [10] (fun i wr => ∃ j : Nat, j ≤ l.length ∧ i = .int .i64 j ∧ R = jobsFrom (prevJ l j) (l.drop j) ∧ 0 ≤ prevJ l j ∧ Below w.heap.size w wr) (fun i _ => l.length - (intOf i).toNat)
  case atStart => exact ⟨0, Nat.zero_le _, rfl, HR.out, Int.le_refl _, Below.refl _ _⟩
  case round =>
    obtain ⟨j, hj, rfl, hrj, hpv, hT⟩ := hrel
    have HT := Lib.hid hT
    have hs1 := hT.size
    by_cases hlt : j < l.length
    · obtain ⟨b, off, rfl, hbB, hcell⟩ := hc (by omega)
      obtain ⟨hd0, hd1, hd2⟩ := hcell j hlt
      have hc0 := (hT.cell (p := ⟨b, off + j * 3, none⟩) hbB).trans hd0
      have hc1 := (hT.cell (p := ⟨b, off + j * 3 + 1, none⟩) hbB).trans hd1
      have hc2 := (hT.cell (p := ⟨b, off + j * 3 + 2, none⟩) hbB).trans hd2
      clear hd0 hd1 hd2
      rw [jobsFrom_at _ _ _ hlt] at hrj
      have HP : Hid (prevJ l (j + 1) = l[j]!.t) := rfl
      generalize l[j]! = y at hc0 hc1 hc2 hrj HP
      obtain ⟨yt, yc, yl⟩ := y
      simp only [jobOk] at hc0 hc1 hc2 hrj HP
      rw [wi_zero _ _ hpv] at hrj
      have HNB := Lib.hid (HT.out.alloc (by omega) (.cells #[.int .i64 yt, .int .i64 yc, .int .i64 yl] 43))
      have NO : ∀ e', R = false → (e' = Ending.returned (.bool false)) → e' = .returned (.bool R) := fun e' a b => by rw [a]; exact b
      have HNO := Lib.hid NO
      clear NO
      cases h1 : wi yt 0 1000
      · have HF : Hid (R = false) := by show _ = _; rw [hrj, h1, Bool.false_and, Bool.false_and, Bool.false_and]
        clear hrj hcell hc hT
        go_wp2_with fail
        go_quiet ((go_at_call 38; exact Calls.quiet_of_same (l1In_q _ _ _ _ _ (by assumption))))
        go_wp2_with fail
        go_ret
        exact ⟨HNO.out _ HF.out rfl, below_drewN HNB.out _⟩
      cases h2 : wi yc 0 7
      · have HF : Hid (R = false) := by show _ = _; rw [hrj, h2, Bool.false_and, Bool.and_false, Bool.false_and]
        clear hrj hcell hc hT
        go_wp2_with fail
        go_quiet ((go_at_call 38; exact Calls.quiet_of_same (l1In_q _ _ _ _ _ (by assumption))))
        go_wp2_with fail
        go_ret
        exact ⟨HNO.out _ HF.out rfl, below_drewN HNB.out _⟩
      cases h3 : wi yl 1 20
      · have HF : Hid (R = false) := by show _ = _; rw [hrj, h3, Bool.and_false, Bool.and_false, Bool.false_and]
        clear hrj hcell hc hT
        go_wp2_with fail
        go_quiet ((go_at_call 38; exact Calls.quiet_of_same (l1In_q _ _ _ _ _ (by assumption))))
        go_wp2_with fail
        go_ret
        exact ⟨HNO.out _ HF.out rfl, below_drewN HNB.out _⟩
      rw [h1, h2, h3, Bool.true_and, Bool.true_and, Bool.and_true] at hrj
      have hyt : 0 ≤ yt := by have : 0 ≤ yt ∧ yt ≤ 1000 := by simpa [wi] using h1
                              exact this.1
      have HPV : Hid (0 ≤ prevJ l (j + 1)) := by show _ ≤ _; rw [HP.out]; exact hyt
      by_cases hj0 : (j : Int) ≤ 0
      · have HF : Hid (R = jobsFrom (prevJ l (j + 1)) (l.drop (j + 1))) := by
          show _ = _
          obtain rfl : j = 0 := by omega
          rw [hrj, HP.out]
          have : decide (prevJ l 0 ≤ yt) = true := by rw [decide_eq_true_eq]; exact hyt
          rw [this, Bool.true_and]
        have hj1 : decide ((0 : Int) < (j : Int)) = false := by rw [decide_eq_false_iff_not]; omega
        have hj2 : decide (0 < j) = false := by rw [decide_eq_false_iff_not]; omega
        clear hrj hcell hc hT hpv
        go_wp2_with fail
        go_quiet ((go_at_call 38; exact Calls.quiet_of_same (l1In_q _ _ _ _ _ (by assumption))))
        go_wp2_with fail
        go_roundw
        case rel => exact ⟨j + 1, by omega, by go_num, HF.out, HPV.out, below_drewN HNB.out _⟩
        case measure => simp [intOf]; omega
      · obtain ⟨m, hm⟩ : ∃ m, j = m + 1 := ⟨j - 1, by omega⟩
        have hml : m < l.length := by omega
        obtain ⟨hd0, hd1, hd2⟩ := hcell m hml
        have hp0 := (hT.cell (p := ⟨b, off + m * 3, none⟩) hbB).trans hd0
        have HPM : Hid (prevJ l j = l[m]!.t) := by show _ = _; rw [hm]; rfl
        rw [HPM.out] at hrj
        generalize l[m]!.t = pt at hp0 HPM hrj
        clear hd0 hd1 hd2
        have hj1 : decide ((0 : Int) < (j : Int)) = true := by rw [decide_eq_true_eq]; omega
        have hj2 : decide (0 < j) = true := by rw [decide_eq_true_eq]; omega
        have hj3 : 0 < j := by omega
        have e8 : IntKind.i64.wrap ((j : Int) - 1) = (m : Int) := by rw [IntWalk.i64_in _ (by omega)]; omega
        have hmi : (m : Int) < (l.length : Int) := by omega
        have HMJ := Lib.hid hm
        have hq0 : (wr.alloc (.cells #[.int .i64 yt, .int .i64 yc, .int .i64 yl] 43)).cell? ⟨b, off + m * 3, none⟩ = some (.int .i64 pt) := (((Below.refl _ _).alloc (Nat.le_refl wr.heap.size) _).cell (p := ⟨b, off + m * 3, none⟩) (by have : b < w.heap.size := hbB; show b < wr.heap.size; omega)).trans hp0
        by_cases hlt2 : yt < pt
        · have HF : Hid (R = false) := by
            show _ = _
            have : decide (pt ≤ yt) = false := by rw [decide_eq_false_iff_not]; omega
            rw [hrj, this, Bool.false_and]
          clear hrj hcell hc hT hpv hm
          go_wp2_with fail
          go_quiet ((go_at_call 38; exact Calls.quiet_of_same (l1In_q _ _ _ _ _ (by assumption))))
          go_wp2_with fail
          go_ret
          exact ⟨HNO.out _ HF.out rfl, below_drewN HNB.out _⟩
        · have HF : Hid (R = jobsFrom (prevJ l (j + 1)) (l.drop (j + 1))) := by
            show _ = _
            have : decide (pt ≤ yt) = true := by rw [decide_eq_true_eq]; omega
            rw [hrj, HP.out, this, Bool.true_and]
          clear hrj hcell hc hT hpv hm
          go_wp2_with fail
          go_quiet ((go_at_call 38; exact Calls.quiet_of_same (l1In_q _ _ _ _ _ (by assumption))))
          go_wp2_with fail
          go_roundw
          case rel => exact ⟨j + 1, by omega, by go_num, HF.out, HPV.out, below_drewN HNB.out _⟩
          case measure => simp [intOf]; omega
    · obtain rfl : j = l.length := by omega
      have HF : Hid (R = true) := by show _ = _; rw [hrj, List.drop_length]; rfl
      clear hrj
      go_wp2_with fail
      go_ret
      exact ⟨congrArg (fun z => Ending.returned (.bool z)) HF.out.symm, HT.out⟩
theorem specAreJobs_any (v : Value) (l : List Jb) (w : World) (h : RJbS w w.heap.size v l) (hn : l.length ≤ 1048576) :
    Calls Try.prog 12 #[v] w (RetV w (.bool (areJb l))) := by
  have HL := Lib.hid (fun w h => (prJobs_any v l w h hn))
  go_enter Try.func12, Try.ntmps12
  go_wp2_with fail
  refine (HL.out _ h).mono ?_; rintro e w1 ⟨rfl, hb⟩
  go_wp2_with fail
  go_ret
  exact ⟨rfl, hb⟩
end Go.Proofs.Yteoggoopfjkdkaa
