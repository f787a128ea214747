/-
  Slot rings with messages: the two sides' looks at both together.
-/
import Derived.Test.YtehmhkbiofndaaaSlA
import Derived.Test.YtehmhkbiofndaaaHeld
import Derived.Deep.QuietTactic
import Derived.BigQuiet
namespace Go.Proofs.Ytehmhkbiofndaaa
open Go.RowKit
set_option maxRecDepth 100000
set_option linter.unusedVariables false

set_option maxHeartbeats 2000000 in
theorem slAll_any (v : Value) (x : Sr) (l : List Ms) (w : World) (h : RMsS w w.heap.size v l) (hn : l.length ≤ 1048576) :
    Calls Try.prog 27 #[SrV x, v] w (RetV w (.bool (slOk x l))) := by
  have HG := Lib.hid (fun w => slGood_any x w)
  have h0 := h
  obtain ⟨A, c, rfl, hfl, hlc, hc⟩ := h
  clear hc hfl
  obtain ⟨_, _, _, hc⟩ := h0.parts
  clear h0
  have hn' : (l.length : Int) ≤ 1048576 := by omega
  cases hg : isSr x
  · rw [hg] at HG
    rw [slOk, hg, Bool.false_and]
    obtain ⟨k, hh⟩ := x
    simp only [SrV] at HG ⊢
    have hW : Below w.heap.size w (w.alloc (.cells #[.int .i64 k, .bool hh] 25)) := (Below.refl _ _).alloc (Nat.le_refl _) _
    clear hg
    go_enter Try.func27, Try.ntmps27
    go_wp2_with fail
    refine (HG.out _).mono ?_; rintro e w1 ⟨rfl, hb⟩
    go_wp2_with fail
    go_ret
    exact ⟨rfl, hW.trans (hb.mono hW.size)⟩
  have hin := isSr_in hg
  have HM : Hid (∀ y w, Calls Try.prog 49 #[SrV x, MsV y] w (RetV w (.bool (wi y.t 0 100 && msOk x.n y)))) := fun y w => slMessage_any x y w hin
  rw [hg] at HG
  rw [slOk, hg, Bool.true_and]
  obtain ⟨k, hh⟩ := x
  simp only [SrV, MsV] at HG hin HM ⊢
  clear hg
  have hW : Below w.heap.size w (w.alloc (.cells #[.int .i64 k, .bool hh] 25)) := (Below.refl _ _).alloc (Nat.le_refl _) _
  have hB := BK.made w 25 #[.int .i64 k, .bool hh]
  by_cases hlen : 20 < l.length
  · rw [areMs_long hlen]
    have hl2 : (20 : Int) < l.length := by omega
    go_enter Try.func27, Try.ntmps27
    go_wp2_with fail
    refine (HG.out _).mono ?_; rintro e w1 ⟨rfl, hb⟩
    go_wp2_with fail
    go_ret
    exact ⟨rfl, hW.trans (hb.mono hW.size)⟩
  rw [areMs_short (by omega)]
  have hl2 : (l.length : Int) ≤ 20 := by omega
  obtain ⟨R, hR⟩ : ∃ R, R = msFrom k 0 l := ⟨_, rfl⟩
  rw [← hR]
  have HR : Hid (R = msFrom k (prevM l 0) (l.drop 0)) := hR
  clear hR
  go_enter Try.func27, Try.ntmps27
  go_wp2_with fail
  refine (HG.out _).mono ?_; rintro e w1 ⟨rfl, hb⟩
  have hB1 := hB.step hb
  have T1 := hW.trans (hb.mono hW.size)
  have hz3 := hB1.1
  have hz := T1.size
  clear hW hB hb
  go_wp2_with fail
  go_loopw [17] (fun i wr => ∃ j : Nat, j ≤ l.length ∧ i = .int .i64 j ∧ R = msFrom k (prevM l j) (l.drop j) ∧ 0 ≤ prevM l j ∧ Below w1.heap.size w1 wr) (fun i _ => l.length - (intOf i).toNat)
  case atStart => exact ⟨0, Nat.zero_le _, rfl, HR.out, Int.le_refl _, Below.refl _ _⟩
  case round =>
    obtain ⟨j, hj, rfl, hrj, hpv, hbw⟩ := hrel
    have hB2 := hB1.step hbw
    have hT := T1.trans (hbw.mono hz)
    have HT := Lib.hid hT
    have hs1 := hbw.size
    have HBW := Lib.hid hbw
    by_cases hlt : j < l.length
    · obtain ⟨b, off, rfl, hbB, hcell⟩ := hc (by omega)
      obtain ⟨hd0, hd1, hd2⟩ := hcell j hlt
      have hc0 := (hT.cell (p := ⟨b, off + j * 3, none⟩) hbB).trans hd0
      have hc1 := (hT.cell (p := ⟨b, off + j * 3 + 1, none⟩) hbB).trans hd1
      have hc2 := (hT.cell (p := ⟨b, off + j * 3 + 2, none⟩) hbB).trans hd2
      clear hd0 hd1 hd2
      rw [msFrom_at _ _ _ _ hlt, wi_zero _ _ hpv] at hrj
      have HP : Hid (prevM l (j + 1) = l[j]!.t) := rfl
      generalize l[j]! = y at hc0 hc1 hc2 hrj HP
      have HMY := Lib.hid (HM.out y)
      obtain ⟨yt, yf, yo⟩ := y
      simp only at hc0 hc1 hc2 hrj HP HMY
      have HZR := Lib.hid (show w.heap.size < wr.heap.size by omega)
      have HBB := Lib.hid (show b < wr.heap.size by omega)
      have HS1 := Lib.hid hs1
      cases hm : (wi yt 0 100 && msOk k ⟨yt, yf, yo⟩)
      · have HF : Hid (R = false) := by
          show _ = _
          rw [hrj]
          cases hq : wi yt 0 100
          · simp
          · rw [hq, Bool.true_and] at hm; rw [hm]; simp
        rw [hm] at HMY
        have lz0 : wr.heap.size < (wr.alloc (.cells #[.int .i64 yt, .int .i64 yf, .int .i64 yo] 35)).heap.size := by simp
        have lg0 : w.heap.size < (wr.alloc (.cells #[.int .i64 yt, .int .i64 yf, .int .i64 yo] 35)).heap.size := Nat.lt_trans HZR.out lz0
        have hBX := BK.made wr 35 #[.int .i64 yt, .int .i64 yf, .int .i64 yo]
        have hBR := hB2.alloc (.cells #[.int .i64 yt, .int .i64 yf, .int .i64 yo] 35)
        have hbx : Below wr.heap.size wr (wr.alloc (.cells #[.int .i64 yt, .int .i64 yf, .int .i64 yo] 35)) := (Below.refl _ _).alloc (Nat.le_refl _) _
        have a0 : ∀ s : HW (wr.alloc (.cells #[.int .i64 yt, .int .i64 yf, .int .i64 yo] 35)), s.W.cell? ⟨wr.heap.size, 0, none⟩ = some (.int .i64 yt) := fun s => HW.cellIs (p := ⟨wr.heap.size, 0, none⟩) (hBX.cell 0) lz0 s
        have a1 : ∀ s : HW (wr.alloc (.cells #[.int .i64 yt, .int .i64 yf, .int .i64 yo] 35)), s.W.cell? ⟨wr.heap.size, 1, none⟩ = some (.int .i64 yf) := fun s => HW.cellIs (p := ⟨wr.heap.size, 1, none⟩) (hBX.cell 1) lz0 s
        have a2 : ∀ s : HW (wr.alloc (.cells #[.int .i64 yt, .int .i64 yf, .int .i64 yo] 35)), s.W.cell? ⟨wr.heap.size, 2, none⟩ = some (.int .i64 yo) := fun s => HW.cellIs (p := ⟨wr.heap.size, 2, none⟩) (hBX.cell 2) lz0 s
        have a3 : ∀ s : HW (wr.alloc (.cells #[.int .i64 yt, .int .i64 yf, .int .i64 yo] 35)), s.W.cell? ⟨w.heap.size, 0, none⟩ = some (.int .i64 k) := fun s => HW.cellIs (p := ⟨w.heap.size, 0, none⟩) (hBR.cell 0) lg0 s
        have a4 : ∀ s : HW (wr.alloc (.cells #[.int .i64 yt, .int .i64 yf, .int .i64 yo] 35)), s.W.cell? ⟨w.heap.size, 1, none⟩ = some (.bool hh) := fun s => HW.cellIs (p := ⟨w.heap.size, 1, none⟩) (hBR.cell 1) lg0 s
        have HUP := Lib.hid (fun (s : HW (wr.alloc (.cells #[.int .i64 yt, .int .i64 yf, .int .i64 yo] 35))) => hbx.trans (s.bel.mono (Nat.le_of_lt lz0)))
        clear hrj hcell hc hT hm hpv hBX hBR hB2 hbx lz0 lg0
        go_upto_region 6 with fail
        refine wp_region_held_lit (by kernel_rfl) (by kernel_rfl) ?_
        repeat (go_big_quiet_step ((first | (go_at_call 49; with_reducible exact held_call _ (HMY.out _)))))
        refine wpQuiet_nil ?_
        intro _ hw'
        obtain ⟨s5, hw''⟩ := hw'
        subst hw''
        have HT5 := Lib.hid (HBW.out.trans ((HUP.out s5).mono HS1.out))
        go_wp2_with fail
        go_ret
        exact ⟨congrArg (fun z => Ending.returned (.bool z)) HF.out.symm, T1.trans (HT5.out.mono hz)⟩
      · rw [hm] at HMY
        have hm0 := hm
        simp only [Bool.and_eq_true] at hm0
        rw [hm0.1, hm0.2, Bool.true_and, Bool.true_and] at hrj
        have hyt : 0 ≤ yt := by
          have : 0 ≤ yt ∧ yt ≤ 100 := by simpa [wi] using hm0.1
          exact this.1
        have HPV : Hid (0 ≤ prevM l (j + 1)) := by show _ ≤ _; rw [HP.out]; exact hyt
        clear hm hm0
        by_cases hj0 : (j : Int) ≤ 0
        · have HF : Hid (R = msFrom k (prevM l (j + 1)) (l.drop (j + 1))) := by
            show _ = _
            obtain rfl : j = 0 := by omega
            rw [hrj, HP.out]
            have : decide (prevM l 0 ≤ yt) = true := by rw [decide_eq_true_eq]; exact hyt
            rw [this, Bool.true_and]
          have hj1 : decide ((0 : Int) < (j : Int)) = false := by rw [decide_eq_false_iff_not]; omega
          have hj2 : decide (0 < j) = false := by rw [decide_eq_false_iff_not]; omega
          have lz0 : wr.heap.size < (wr.alloc (.cells #[.int .i64 yt, .int .i64 yf, .int .i64 yo] 35)).heap.size := by simp
          have lg0 : w.heap.size < (wr.alloc (.cells #[.int .i64 yt, .int .i64 yf, .int .i64 yo] 35)).heap.size := Nat.lt_trans HZR.out lz0
          have hBX := BK.made wr 35 #[.int .i64 yt, .int .i64 yf, .int .i64 yo]
          have hBR := hB2.alloc (.cells #[.int .i64 yt, .int .i64 yf, .int .i64 yo] 35)
          have hbx : Below wr.heap.size wr (wr.alloc (.cells #[.int .i64 yt, .int .i64 yf, .int .i64 yo] 35)) := (Below.refl _ _).alloc (Nat.le_refl _) _
          have a0 : ∀ s : HW (wr.alloc (.cells #[.int .i64 yt, .int .i64 yf, .int .i64 yo] 35)), s.W.cell? ⟨wr.heap.size, 0, none⟩ = some (.int .i64 yt) := fun s => HW.cellIs (p := ⟨wr.heap.size, 0, none⟩) (hBX.cell 0) lz0 s
          have a1 : ∀ s : HW (wr.alloc (.cells #[.int .i64 yt, .int .i64 yf, .int .i64 yo] 35)), s.W.cell? ⟨wr.heap.size, 1, none⟩ = some (.int .i64 yf) := fun s => HW.cellIs (p := ⟨wr.heap.size, 1, none⟩) (hBX.cell 1) lz0 s
          have a2 : ∀ s : HW (wr.alloc (.cells #[.int .i64 yt, .int .i64 yf, .int .i64 yo] 35)), s.W.cell? ⟨wr.heap.size, 2, none⟩ = some (.int .i64 yo) := fun s => HW.cellIs (p := ⟨wr.heap.size, 2, none⟩) (hBX.cell 2) lz0 s
          have a3 : ∀ s : HW (wr.alloc (.cells #[.int .i64 yt, .int .i64 yf, .int .i64 yo] 35)), s.W.cell? ⟨w.heap.size, 0, none⟩ = some (.int .i64 k) := fun s => HW.cellIs (p := ⟨w.heap.size, 0, none⟩) (hBR.cell 0) lg0 s
          have a4 : ∀ s : HW (wr.alloc (.cells #[.int .i64 yt, .int .i64 yf, .int .i64 yo] 35)), s.W.cell? ⟨w.heap.size, 1, none⟩ = some (.bool hh) := fun s => HW.cellIs (p := ⟨w.heap.size, 1, none⟩) (hBR.cell 1) lg0 s
          have HUP := Lib.hid (fun (s : HW (wr.alloc (.cells #[.int .i64 yt, .int .i64 yf, .int .i64 yo] 35))) => hbx.trans (s.bel.mono (Nat.le_of_lt lz0)))
          clear hrj hcell hc hT hpv hBX hBR hB2 hbx lz0 lg0
          go_upto_region 6 with fail
          refine wp_region_held_lit (by kernel_rfl) (by kernel_rfl) ?_
          repeat (go_big_quiet_step ((first | (go_at_call 49; with_reducible exact held_call _ (HMY.out _)))))
          refine wpQuiet_nil ?_
          intro _ hw'
          obtain ⟨s5, hw''⟩ := hw'
          subst hw''
          have HT5 := Lib.hid (HBW.out.trans ((HUP.out s5).mono HS1.out))
          go_wp2_with fail
          go_roundw
          case rel => exact ⟨j + 1, by omega, by go_num, HF.out, HPV.out, HT5.out⟩
          case measure => simp [intOf]; omega
        · obtain ⟨m, hm⟩ : ∃ m, j = m + 1 := ⟨j - 1, by omega⟩
          have hml : m < l.length := by omega
          obtain ⟨hd0, hd1, hd2⟩ := hcell m hml
          have hp0 := (hT.cell (p := ⟨b, off + m * 3, none⟩) hbB).trans hd0
          have HPM : Hid (prevM l j = l[m]!.t) := by show _ = _; rw [hm]; rfl
          rw [HPM.out] at hrj
          generalize l[m]!.t = pt at hp0 HPM hrj
          clear hd0 hd1 hd2
          have hj1 : decide ((0 : Int) < (j : Int)) = true := by rw [decide_eq_true_eq]; omega
          have hj2 : decide (0 < j) = true := by rw [decide_eq_true_eq]; omega
          have hj3 : 0 < j := by omega
          have e8 : IntKind.i64.wrap ((j : Int) - 1) = (m : Int) := by rw [IntWalk.i64_in _ (by omega)]; omega
          have hmi : (m : Int) < (l.length : Int) := by omega
          have HMJ := Lib.hid hm
          have lz0 : wr.heap.size < (wr.alloc (.cells #[.int .i64 yt, .int .i64 yf, .int .i64 yo] 35)).heap.size := by simp
          have lg0 : w.heap.size < (wr.alloc (.cells #[.int .i64 yt, .int .i64 yf, .int .i64 yo] 35)).heap.size := Nat.lt_trans HZR.out lz0
          have hBX := BK.made wr 35 #[.int .i64 yt, .int .i64 yf, .int .i64 yo]
          have hBR := hB2.alloc (.cells #[.int .i64 yt, .int .i64 yf, .int .i64 yo] 35)
          have hbx : Below wr.heap.size wr (wr.alloc (.cells #[.int .i64 yt, .int .i64 yf, .int .i64 yo] 35)) := (Below.refl _ _).alloc (Nat.le_refl _) _
          have a0 : ∀ s : HW (wr.alloc (.cells #[.int .i64 yt, .int .i64 yf, .int .i64 yo] 35)), s.W.cell? ⟨wr.heap.size, 0, none⟩ = some (.int .i64 yt) := fun s => HW.cellIs (p := ⟨wr.heap.size, 0, none⟩) (hBX.cell 0) lz0 s
          have a1 : ∀ s : HW (wr.alloc (.cells #[.int .i64 yt, .int .i64 yf, .int .i64 yo] 35)), s.W.cell? ⟨wr.heap.size, 1, none⟩ = some (.int .i64 yf) := fun s => HW.cellIs (p := ⟨wr.heap.size, 1, none⟩) (hBX.cell 1) lz0 s
          have a2 : ∀ s : HW (wr.alloc (.cells #[.int .i64 yt, .int .i64 yf, .int .i64 yo] 35)), s.W.cell? ⟨wr.heap.size, 2, none⟩ = some (.int .i64 yo) := fun s => HW.cellIs (p := ⟨wr.heap.size, 2, none⟩) (hBX.cell 2) lz0 s
          have a3 : ∀ s : HW (wr.alloc (.cells #[.int .i64 yt, .int .i64 yf, .int .i64 yo] 35)), s.W.cell? ⟨w.heap.size, 0, none⟩ = some (.int .i64 k) := fun s => HW.cellIs (p := ⟨w.heap.size, 0, none⟩) (hBR.cell 0) lg0 s
          have a4 : ∀ s : HW (wr.alloc (.cells #[.int .i64 yt, .int .i64 yf, .int .i64 yo] 35)), s.W.cell? ⟨w.heap.size, 1, none⟩ = some (.bool hh) := fun s => HW.cellIs (p := ⟨w.heap.size, 1, none⟩) (hBR.cell 1) lg0 s
          have a5 : ∀ s : HW (wr.alloc (.cells #[.int .i64 yt, .int .i64 yf, .int .i64 yo] 35)), s.W.cell? ⟨b, off + m * 3, none⟩ = some (.int .i64 pt) := fun s => HW.cellIs (p := ⟨b, off + m * 3, none⟩) ((World.cell?_alloc_lt wr _ _ HBB.out).trans hp0) (Nat.lt_trans HBB.out lz0) s
          have HUP := Lib.hid (fun (s : HW (wr.alloc (.cells #[.int .i64 yt, .int .i64 yf, .int .i64 yo] 35))) => hbx.trans (s.bel.mono (Nat.le_of_lt lz0)))
          by_cases hlt2 : yt < pt
          · have HF : Hid (R = false) := by
              show _ = _
              have : decide (pt ≤ yt) = false := by rw [decide_eq_false_iff_not]; omega
              rw [hrj, this, Bool.false_and]
            clear hrj hcell hc hT hpv hBX hBR hB2 hbx lz0 lg0 hm hp0
            go_upto_region 6 with fail
            refine wp_region_held_lit (by kernel_rfl) (by kernel_rfl) ?_
            repeat (go_big_quiet_step ((first | (go_at_call 49; with_reducible exact held_call _ (HMY.out _)))))
            refine wpQuiet_nil ?_
            intro _ hw'
            obtain ⟨s5, hw''⟩ := hw'
            subst hw''
            have HT5 := Lib.hid (HBW.out.trans ((HUP.out s5).mono HS1.out))
            go_wp2_with fail
            go_ret
            exact ⟨congrArg (fun z => Ending.returned (.bool z)) HF.out.symm, T1.trans (HT5.out.mono hz)⟩
          · have HF : Hid (R = msFrom k (prevM l (j + 1)) (l.drop (j + 1))) := by
              show _ = _
              have : decide (pt ≤ yt) = true := by rw [decide_eq_true_eq]; omega
              rw [hrj, HP.out, this, Bool.true_and]
            clear hrj hcell hc hT hpv hBX hBR hB2 hbx lz0 lg0 hm hp0
            go_upto_region 6 with fail
            refine wp_region_held_lit (by kernel_rfl) (by kernel_rfl) ?_
            repeat (go_big_quiet_step ((first | (go_at_call 49; with_reducible exact held_call _ (HMY.out _)))))
            refine wpQuiet_nil ?_
            intro _ hw'
            obtain ⟨s5, hw''⟩ := hw'
            subst hw''
            have HT5 := Lib.hid (HBW.out.trans ((HUP.out s5).mono HS1.out))
            go_wp2_with fail
            go_roundw
            case rel => exact ⟨j + 1, by omega, by go_num, HF.out, HPV.out, HT5.out⟩
            case measure => simp [intOf]; omega
    · obtain rfl : j = l.length := by omega
      have HF : Hid (R = true) := by show _ = _; rw [hrj, List.drop_length]; rfl
      clear hrj
      go_wp2_with fail
      go_ret
      exact ⟨congrArg (fun z => Ending.returned (.bool z)) HF.out.symm, HT.out⟩
end Go.Proofs.Ytehmhkbiofndaaa
