/-
  Overtaken jobs: the contracts, both sides.
-/
import Derived.Test.YteoggoopfjkdkaaWaits
namespace Go.Proofs.Yteoggoopfjkdkaa
open Go.RowKit
set_option maxRecDepth 100000
set_option linter.unusedVariables false

theorem over_wi (js : List Jb) (ss : List Int) (i k : Nat) : over js ss i k = (decide (js[i]!.c < js[k]!.c) && wi (ss.getD i 0) js[k]!.t (ss.getD k 0 - 1)) := by
  unfold over wi
  rw [Bool.eq_iff_iff]
  simp only [Bool.and_eq_true, decide_eq_true_eq]
  omega
theorem BK.under {w w' : World} {g B : Nat} {t : TypeId} {cs : Array Value} (h : BK w g t cs) (hg : g < B) (hb : Below B w w') : BK w' g t cs := ⟨Nat.lt_of_lt_of_le h.1 hb.size, (hb.block g hg).trans h.2⟩
theorem overL_in (js : List Jb) (ss : List Int) (i : Nat) (hi : i ≤ 20) (hn : ss.length ≤ 20) : 0 ≤ overL js ss i ∧ overL js ss i ≤ 400 := by
  have := overL_bd js ss i
  have h2 := mulW_in (a := (i : Int)) (b := (ss.length : Int)) (A := 20) (B := 20) (by omega) (by omega) (by omega) (by omega)
  omega

set_option maxHeartbeats 2000000 in
theorem implCountOvertaken_any (v u : Value) (js : List Jb) (ss : List Int) (w : World) (h : RJbS w w.heap.size v js) (h' : RI w w.heap.size u ss) (hn : js.length ≤ 1048576) (hn2 : ss.length ≤ 1048576) :
    Calls Try.prog 23 #[v, u] w (RetV w (.tuple #[.int .i64 (overtaken js ss).1, .bool (overtaken js ss).2])) := by
  have HA := Lib.hid (implScheduled_any v u js ss w h h' hn hn2)
  cases hg : schd js ss
  · have HF : overtaken js ss = (0, false) := by simp [overtaken, hg]
    rw [HF]
    rw [hg] at HA
    clear hg HF
    go_enter Try.func23, Try.ntmps23
    go_wp2_with fail
    refine HA.out.mono ?_; rintro e w1 ⟨rfl, T⟩
    go_wp2_with fail
    go_ret2
    exact ⟨rfl, T⟩
  have hgs := schd_t hg
  rw [hg] at HA
  have HF : overtaken js ss = (overL js ss ss.length, true) := by simp [overtaken, hg]
  rw [HF]
  obtain ⟨hjl, hn3, hsb, hjb⟩ := givenB_in hgs.1
  have hst := fun i hi => (schedB_t.1 hgs.2 i hi).1
  have h0 := h
  obtain ⟨A, c, rfl, _⟩ := h
  obtain ⟨_, _, _, hc⟩ := h0.parts
  obtain ⟨A', c', rfl, hlc', hc'⟩ := h'
  have HBD := Lib.hid (fun k hk => weighL_bd hg k hk)
  obtain ⟨n, hN⟩ : ∃ n, ss.length = n := ⟨_, rfl⟩
  rw [hjl] at hc HA ⊢
  rw [hN] at hc hc' HA hlc' hn3 hsb hjb hst HBD ⊢
  have HN := Lib.hid hN
  have hn' : (n : Int) ≤ 20 := by omega
  have HSB := Lib.hid hsb
  have HJB := Lib.hid hjb
  have HST := Lib.hid hst
  have HC := Lib.hid hc
  have HC' := Lib.hid hc'
  clear HF hg hgs hjl hsb hjb hst hc hc' hN h0 hn2 hn
  go_enter Try.func23, Try.ntmps23
  go_wp2_with fail
  refine HA.out.mono ?_; rintro e w1 ⟨rfl, T1⟩
  have T := T1
  have hT := T.size
  have HT := Lib.hid T
  clear T T1
  have HOB := Lib.hid (fun i hi => overL_in js ss i hi (by rw [HN.out]; exact hn3))
  have HRB := Lib.hid (fun i k => overRow_bd js ss i k)
  go_wp2_with fail
  go_loopw [6, 17] (fun u i wr => ∃ k : Nat, k ≤ n ∧ i = .int .i64 k ∧ u = .int .i64 (overL js ss k) ∧ Below w1.heap.size w1 wr) (fun _ i _ => n - (intOf i).toNat)
  case atStart => exact ⟨0, Nat.zero_le _, rfl, rfl, Below.refl _ _⟩
  case round =>
    obtain ⟨k, hk, rfl, rfl, hbw⟩ := hrel
    have HTW := Lib.hid (HT.out.trans (hbw.mono hT))
    have hsw := hbw.size
    have hbd := HOB.out k (by omega)
    by_cases hlt : k < n
    · have hlt' : (k : Int) < (n : Int) := by omega
      obtain ⟨b2, off2, hA2, hb2, hcell2⟩ := HC'.out (by omega)
      obtain ⟨b4, off4, hA4, hb4, hcell4⟩ := HC.out (by omega)
      subst hA2; subst hA4
      have hc1 := (HTW.out.cell (p := ⟨b2, off2 + k, none⟩) hb2).trans (hcell2 k hlt)
      obtain ⟨hd1, hd2, hd3⟩ := hcell4 k hlt
      have hc2 := (HTW.out.cell (p := ⟨b4, off4 + k * 3, none⟩) hb4).trans hd1
      have hc3 := (HTW.out.cell (p := ⟨b4, off4 + k * 3 + 1, none⟩) hb4).trans hd2
      have hc4 := (HTW.out.cell (p := ⟨b4, off4 + k * 3 + 2, none⟩) hb4).trans hd3
      have s1 := HSB.out k hlt
      have j1 := HJB.out k hlt
      have t1 := HST.out k hlt
      clear hd1 hd2 hd3
      have HWS : Hid (overL js ss (k + 1) = overL js ss k + overRow js ss k n) := by show _ = _; rw [← HN.out]; rfl
      have HOW := Lib.hid (fun q => over_wi js ss k q)
      have HK2 := Lib.hid hcell2
      have HK4 := Lib.hid hcell4
      have HG0 := Lib.hid (hcell2 k hlt)
      have HG3 := Lib.hid (hcell4 k hlt).2.1
      generalize overL js ss k = S at hbd HWS ⊢
      generalize ss.getD k 0 = sx at hc1 s1 t1 HOW HG0
      generalize js[k]! = y at hc2 hc3 hc4 j1 t1 HOW HG3
      obtain ⟨yt, yc, yl⟩ := y
      simp only at hc2 hc3 hc4 j1 t1 HOW HG3
      have HB1 := Lib.hid (hbw.alloc hsw (.cells #[.int .i64 yt, .int .i64 yc, .int .i64 yl] 43))
      have HBL := Lib.hid (BK.made wr 43 #[.int .i64 yt, .int .i64 yc, .int .i64 yl])
      clear hcell2 hcell4 hbw
      go_wp2_with fail
      go_loopw [6, 24] (fun u i wr2 => ∃ q : Nat, q ≤ n ∧ i = .int .i64 q ∧ u = .int .i64 (S + overRow js ss k q) ∧ Below (wr.heap.size + 1) (wr.alloc (.cells #[.int .i64 yt, .int .i64 yc, .int .i64 yl] 43)) wr2) (fun _ i _ => n - (intOf i).toNat)
      case atStart => exact ⟨0, Nat.zero_le _, rfl, by simp [overRow], Below.refl _ _⟩
      case round =>
        obtain ⟨q, hq, rfl, rfl, hb9⟩ := hrel
        have hb8 := HB1.out.trans (hb9.mono (by omega))
        have HTV := Lib.hid (HT.out.trans (hb8.mono hT))
        have hs8 := hb8.size
        have hs9 := hb9.size
        have hrb := HRB.out k q
        by_cases hqn : q < n
        · have hqn' : (q : Int) < (n : Int) := by omega
          have g1 := (HTV.out.cell (p := ⟨b2, off2 + q, none⟩) hb2).trans (HK2.out q hqn)
          have g0 := (HTV.out.cell (p := ⟨b2, off2 + k, none⟩) hb2).trans HG0.out
          have gc := (HTV.out.cell (p := ⟨b4, off4 + k * 3 + 1, none⟩) hb4).trans HG3.out
          obtain ⟨hd1, hd2, hd3⟩ := HK4.out q hqn
          have g2 := (HTV.out.cell (p := ⟨b4, off4 + q * 3, none⟩) hb4).trans hd1
          have g3 := (HTV.out.cell (p := ⟨b4, off4 + q * 3 + 1, none⟩) hb4).trans hd2
          have g4 := (HTV.out.cell (p := ⟨b4, off4 + q * 3 + 2, none⟩) hb4).trans hd3
          have how := HOW.out q
          have s2 := HSB.out q hqn
          have j2 := HJB.out q hqn
          have HRS : Hid (overRow js ss k (q + 1) = overRow js ss k q + if over js ss k q then 1 else 0) := rfl
          generalize overRow js ss k q = S2 at hrb HRS ⊢
          have HHOW := Lib.hid how
          clear hd1 hd2 hd3 how
          generalize over js ss k q = B2 at HRS HHOW
          generalize ss.getD q 0 = sy at g1 s2 HHOW
          generalize js[q]! = z at g2 g3 g4 j2 HHOW
          obtain ⟨zt, zc, zl⟩ := z
          simp only at g2 g3 g4 j2 HHOW
          have e7 : IntKind.i64.wrap (sy - 1) = sy - 1 := IntWalk.i64_in _ (by omega)
          have hBL2 := BK.under HBL.out (Nat.lt_succ_self _) hb9
          have c1 := hBL2.cell 1
          simp at c1
          have lb := hBL2.1
          have q1 : (wr.alloc (.cells #[.int .i64 zt, .int .i64 zc, .int .i64 zl] 43)).cell? ⟨b2, off2 + q, none⟩ = some (.int .i64 sy) := (World.cell?_alloc_lt wr _ _ (show b2 < wr.heap.size by omega)).trans g1
          have q0 : (wr.alloc (.cells #[.int .i64 zt, .int .i64 zc, .int .i64 zl] 43)).cell? ⟨b2, off2 + k, none⟩ = some (.int .i64 sx) := (World.cell?_alloc_lt wr _ _ (show b2 < wr.heap.size by omega)).trans g0
          have q3 := (World.cell?_alloc_lt wr (.cells #[.int .i64 zt, .int .i64 zc, .int .i64 zl] 43) ⟨_, 1, none⟩ lb).trans c1
          clear hBL2
          have HB9 := Lib.hid (hb9.alloc (by simp at hs9; omega) (.cells #[.int .i64 zt, .int .i64 zc, .int .i64 zl] 43))
          clear hb9 hb8
          by_cases hcl : yc < zc
          · cases hwi : wi sx zt (sy - 1)
            · have HV : Hid ((decide (yc < zc) && wi sx zt (sy - 1)) = false) := by show _ = _; rw [hwi, Bool.and_false]
              have HF : Hid (overRow js ss k (q + 1) = S2 + 0) := by show _ = _; rw [HRS.out, HHOW.out]; rw [HV.out]; simp
              go_wp2_with fail
              go_quiet ((go_at_call 32; exact Calls.quiet_of_same (isWithin_q _ _ _ _ _ (by assumption))))
              go_wp2_with fail
              go_roundw
              case rel => exact ⟨q + 1, by omega, by go_num, by rw [HF.out]; go_num, below_drewN HB9.out _⟩
              case measure => simp [intOf]; omega
            · have HV : Hid ((decide (yc < zc) && wi sx zt (sy - 1)) = true) := by show _ = _; rw [hwi, Bool.and_true]; exact decide_eq_true hcl
              have HF : Hid (overRow js ss k (q + 1) = S2 + 1) := by show _ = _; rw [HRS.out, HHOW.out]; rw [HV.out]; simp
              go_wp2_with fail
              go_quiet ((go_at_call 32; exact Calls.quiet_of_same (isWithin_q _ _ _ _ _ (by assumption))))
              go_wp2_with fail
              go_roundw
              case rel => exact ⟨q + 1, by omega, by go_num, by rw [HF.out]; go_num, below_drewN HB9.out _⟩
              case measure => simp [intOf]; omega
          · have hd : decide (yc < zc) = false := decide_eq_false hcl
            have HV : Hid ((decide (yc < zc) && wi sx zt (sy - 1)) = false) := by show _ = _; rw [hd, Bool.false_and]
            have HF : Hid (overRow js ss k (q + 1) = S2 + 0) := by show _ = _; rw [HRS.out, HHOW.out]; rw [HV.out]; simp
            go_wp2_with fail
            go_quiet ((go_at_call 32; exact Calls.quiet_of_same (isWithin_q _ _ _ _ _ (by assumption))))
            go_wp2_with fail
            go_roundw
            case rel => exact ⟨q + 1, by omega, by go_num, by rw [HF.out]; go_num, below_drewN HB9.out _⟩
            case measure => simp [intOf]; omega
        · obtain rfl : q = n := by omega
          have HF : Hid (S + overRow js ss k q = overL js ss (k + 1)) := by show _ = _; rw [HWS.out]
          have HB8 := Lib.hid hb8
          clear hb8 hb9
          go_wp2_with fail
          go_roundw
          case rel => exact ⟨k + 1, by omega, by go_num, by rw [HF.out], HB8.out⟩
          case measure => simp [intOf]; omega
    · obtain rfl : k = n := by omega
      clear hbw
      go_wp2_with fail
      go_ret2
      exact ⟨rfl, HTW.out⟩
end Go.Proofs.Yteoggoopfjkdkaa
