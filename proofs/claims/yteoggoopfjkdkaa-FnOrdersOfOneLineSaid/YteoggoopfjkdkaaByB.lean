/-
  The model's starts by rank.
-/
import Derived.Test.YteoggoopfjkdkaaBy
import Derived.Deep.DeepCutAuto
namespace Go.Proofs.Yteoggoopfjkdkaa
open Go.RowKit
set_option maxRecDepth 100000
set_option linter.unusedVariables false

/-- The model's letters for a choice: which one, and with which rank. -/
def bI : Option Nat → Int
  | none => -1
  | some b => b
def mI (r : Nat → Int) : Option Nat → Int
  | none => -1
  | some b => r b
theorem best_yes {w : Nat → Bool} {r : Nat → Int} {m : Nat} (hw : w m = true) (h : mI r (bestOf w r m) < r m) : bI (bestOf w r (m + 1)) = m ∧ mI r (bestOf w r (m + 1)) = r m := by
  rw [bestOf]
  cases hb : bestOf w r m with
  | none => simp [hw, bI, mI]
  | some b =>
    rw [hb] at h
    have h' : r b < r m := h
    simp [hw, h', bI, mI]
theorem best_no {w : Nat → Bool} {r : Nat → Int} {m : Nat} (hr : 0 ≤ r m) (h : ¬ (w m = true ∧ mI r (bestOf w r m) < r m)) : bestOf w r (m + 1) = bestOf w r m := by
  rw [bestOf]
  cases hb : bestOf w r m with
  | none =>
    rw [hb] at h
    cases hw : w m
    · rfl
    · exact absurd ⟨hw, by show (-1 : Int) < r m; omega⟩ h
  | some b =>
    rw [hb] at h
    simp only
    cases hw : w m
    · rfl
    · have : ¬ r b < r m := fun h9 => h ⟨hw, h9⟩
      simp [this]
theorem best_wait {w : Nat → Bool} {r : Nat → Int} {m : Nat} (hw : w m = false) : bestOf w r (m + 1) = bestOf w r m := by
  rw [bestOf]
  cases hb : bestOf w r m with
  | none => simp [hw]
  | some b => simp [hw]

set_option maxHeartbeats 8000000 in
theorem prBy0_any (v : Value) (js : List Jb) (w : World) (h : RJbS w w.heap.size v js) (hA : areJb js = true) :
    Calls Try.prog 28 #[v, .bool false, .int .i64 0] w (RetL 3 w (startsOf (rk0) js)) := by
  have hn := (areJb_in hA).1
  have HNEW := Lib.hid (prNew_any v js w h hn)
  have hisJ := cntJ_all (l := js) (fun y hy => isJ_ok ((areJb_in hA).2.1 y hy).2.2.2.2.1)
  have hv : ∃ A c, v = .slice A js.length c := by obtain ⟨A, c, hv, _⟩ := h; exact ⟨A, c, hv⟩
  obtain ⟨A, c, rfl⟩ := hv
  have HTK := Lib.hid (fun k (hk : k < js.length) => tick_at hA hk)
  obtain ⟨R, hR⟩ : ∃ R, R = startsOf (rk0) js := ⟨_, rfl⟩
  rw [← hR]
  have HR : Hid (R = runL (rk0) js.length 0 js (List.replicate js.length 0)) := hR
  have HMS := Lib.hid (Mod.start js)
  obtain ⟨n, hN⟩ : ∃ n, js.length = n := ⟨_, rfl⟩
  unfold RetNew at HNEW
  have hjc : ∀ g (wx : World), RJbS wx g (.slice A n c) js → ∀ k, k < n → ∃ b off, A = some ⟨b, off, none⟩ ∧ b < g ∧ wx.cell? ⟨b, off + k * 3, none⟩ = some (.int .i64 js[k]!.t) ∧ wx.cell? ⟨b, off + k * 3 + 1, none⟩ = some (.int .i64 js[k]!.c) ∧ wx.cell? ⟨b, off + k * 3 + 2, none⟩ = some (.int .i64 js[k]!.l) := by
    intro g wx h9 k hk
    obtain ⟨b, off, c9, hv, hb, e0, e1, e2⟩ := left_cells h9 k (by omega)
    injection hv with hA9 _ hC9
    exact ⟨b, off, hA9, hb, e0, e1, e2⟩
  rw [hN] at hn HNEW HR hisJ HTK HMS ⊢
  have hn' : (n : Int) ≤ 20 := by omega
  have HN := Lib.hid hN
  have HA := Lib.hid hA
  have HCN := Lib.hid hisJ
  have HJC := Lib.hid hjc
  clear h hN hA hisJ hR hjc
  go_enter Try.func28, Try.ntmps28
  go_wp2_with fail
  refine HNEW.out.mono ?_; rintro e w1 ⟨vs1, rfl, hp1, hb1⟩
  have HP1 := Lib.hid hp1
  have HB1 := Lib.hid hb1
  clear hp1 hb1
  go_wp2_with fail
  go_loopg [8] n (fun f s8 wr => ∃ (now : Int) (l : List Jb) (sp out : List Int) (vs : Value), f = cntJ l ∧ Mod js l sp out ∧ Hid (R = runL (rk0) f now l out) ∧ 0 ≤ now ∧ now + 20 * f ≤ 1000 + 20 * n ∧
    PN wr w.heap.size (.slice A n c) js vs sp now (n - f) ∧ Below w.heap.size w wr)
  case atStart => exact ⟨0, js, _, _, vs1, HCN.out.symm, HMS.out, HR, by omega, by omega, by rw [Int.sub_self]; exact HP1.out, HB1.out⟩
  case round =>
    obtain ⟨now, l, sp, out, vs, hgk, hmod, hr, ht0, ht1, hpn, hbw⟩ := hrel
    have hgn : gk ≤ n := by
      have h1 := cntJ_le l
      have h2 := hmod.left.1
      have h3 := HN.out
      omega
    have hgs := hpn.lt
    have c3 := hpn.bk.cell 3
    simp at c3
    have HPN := Lib.hid hpn
    have HBW := Lib.hid hbw
    have HMOD := Lib.hid hmod
    have HGK := Lib.hid hgk
    have hsl : sp.length = js.length := hmod.lsp
    have HSL := Lib.hid hsl
    clear hmod hbw hgk hpn hsl
    by_cases hf : gk = 0
    · subst hf
      have HOUT : Hid (sp = R) := by
        show _ = _
        rw [HMOD.out.done HA.out HGK.out.symm]
        exact hr.out.symm
      have c1 := HPN.out.bk.cell 1
      simp at c1
      have hro := Acc.oi HPN.out.row
      obtain ⟨A3, c9, hv3, _⟩ := hro.ri
      subst hv3
      have HRO := Lib.hid hro
      clear hr hro
      go_wp2_with fail
      go_ret
      exact ⟨_, rfl, by rw [← HOUT.out]; exact HRO.out.wide (Nat.le_succ _) (Nat.le_refl _), HBW.out⟩
    · obtain ⟨f1, rfl⟩ : ∃ f1, gk = f1 + 1 := ⟨gk - 1, by omega⟩
      have hp : 0 < cntJ l := by rw [← HGK.out]; omega
      obtain ⟨u, f, k, u1, u2, u3, hT, hfst, hpk, hkl, hkj, hT0, hT1, hbd⟩ := step_of (rk := rk0) HA.out HMOD.out.left hp ht0
      have hdn : ((n : Int) - ((f1 + 1 : Nat) : Int)) ≠ js.length := by rw [HN.out]; omega
      have hdl : (n : Int) - ((f1 + 1 : Nat) : Int) < n := by omega
      obtain ⟨hsk, hsb⟩ := HMOD.out.skip HA.out hp now ((n : Int) - ((f1 + 1 : Nat) : Int)) hdn
      have HSKIP := Lib.hid (prSkip_any w.heap.size _ vs js sp now ((n : Int) - ((f1 + 1 : Nat) : Int)) wr HPN.out HSL.out HA.out (by rw [HN.out]; omega))
      unfold RetSkip at HSKIP
      rw [hsk] at HSKIP
      obtain ⟨SB, hSB⟩ : ∃ x, (!(someB js sp now js.length || decide ((n : Int) - ((f1 + 1 : Nat) : Int) = js.length))) = x := ⟨_, rfl⟩
      rw [hSB] at HSKIP
      have hpk2 := hpk
      rw [HMOD.out.pick HA.out] at hpk2
      rw [HN.out] at hpk2
      have hkn : k < n := by have := HMOD.out.left.1; have := HN.out; omega
      have HNEXT : Hid (R = runL (rk0) f1 (tickOf now l + l[k]!.l) (l.set k jbZ) (out.set k (tickOf now l))) := by
        have h9 := hr.out
        rw [runL_step hpk] at h9
        exact h9
      have HCNT : Hid (f1 = cntJ (l.set k jbZ)) := by
        have h9 := cntJ_set hkl hkj
        have h8 := HGK.out
        show _ = _
        omega
      have HMD2 := Lib.hid (HMOD.out.put k (by rw [HN.out]; exact hkn) (tickOf now l) hT0)
      have HLK : Hid (l[k]! = js[k]!) := HMOD.out.left.is (by rw [HN.out]; exact hkn) hkj
      have HPK := Lib.hid hpk2
      clear hr hT hfst hpk hpk2 hsk hsb hSB u1 u2 u3 hdn
      generalize tickOf now l = T at HNEXT HSKIP HMD2 HPK hT0 hT1
      have hT2 : T + 20 * (f1 + 1) ≤ 1000 + 20 * (n : Int) := by
        have h1 := cntJ_le l
        have h2 := HMOD.out.left.1
        have h3 := HN.out
        omega
      go_wp2_with fail
      refine HSKIP.out.mono ?_; rintro e w2 ⟨rfl, hp2, hb2⟩
      have HP2 := Lib.hid hp2
      have HB2 := Lib.hid (HBW.out.trans hb2)
      have c0 := hp2.bk.cell 0
      have d2 := hp2.bk.cell 2
      have hgs2 := hp2.lt
      simp at c0 d2
      obtain ⟨wo, hwo⟩ : ∃ wo : World, wo = w2 := ⟨_, rfl⟩
      clear hp2 hb2
      go_wp2_with fail
      go_loopw [8, 9, 26] (fun x y i wr2 => ∃ m : Nat, m ≤ n ∧ i = .int .i64 m ∧ x = .int .i64 (bI (bestOf (wtB js sp T) (fun i => rk0 T js[i]!) m)) ∧ y = .int .i64 (mI (fun i => rk0 T js[i]!) (bestOf (wtB js sp T) (fun i => rk0 T js[i]!) m)) ∧ Below w2.heap.size w2 wr2)
        (fun _ _ i _ => n - (intOf i).toNat)
      case atStart => exact ⟨0, Nat.zero_le _, rfl, rfl, rfl, Below.refl _ _⟩
      case round =>
        obtain ⟨m, hm, rfl, rfl, rfl, hbm⟩ := hrel
        have hs2 := hbm.size
        have HBM := Lib.hid hbm
        have HST := Lib.hid (fun (hw : wtB js sp T m = true) => best_yes (w := wtB js sp T) (r := fun i => rk0 T js[i]!) (m := m) hw)
        have HNO := Lib.hid (fun (hr : 0 ≤ rk0 T js[m]!) => best_no (w := wtB js sp T) (r := fun i => rk0 T js[i]!) (m := m) hr)
        have HWA := Lib.hid (fun (hw : wtB js sp T m = false) => best_wait (w := wtB js sp T) (r := fun i => rk0 T js[i]!) (m := m) hw)
        have HEN : Hid (m = n → bestOf (wtB js sp T) (fun i => rk0 T js[i]!) m = some k) := fun h9 => by rw [h9]; exact HPK.out
        obtain ⟨X, hX⟩ : ∃ X, bI (bestOf (wtB js sp T) (fun i => rk0 T js[i]!) m) = X := ⟨_, rfl⟩
        obtain ⟨Y, hY⟩ : ∃ Y, mI (fun i => rk0 T js[i]!) (bestOf (wtB js sp T) (fun i => rk0 T js[i]!) m) = Y := ⟨_, rfl⟩
        rw [hX, hY]
        rw [hY] at HST HNO
        have HXX := Lib.hid hX
        have HYY := Lib.hid hY
        clear hX hY
        have g2 := (hbm.cell (p := ⟨w.heap.size, 2, none⟩) hgs2).trans d2
        by_cases hlt : m < n
        · have hmi : (m : Int) < (n : Int) := by omega
          obtain ⟨b, off, hAA, hbg, e0, e1, e2⟩ := HJC.out w.heap.size w2 HP2.out.jobs m hlt
          subst hAA
          have y0 := (hbm.cell (p := ⟨b, off + m * 3, none⟩) (by simp; omega)).trans e0
          have y1 := (hbm.cell (p := ⟨b, off + m * 3 + 1, none⟩) (by simp; omega)).trans e1
          have y2 := (hbm.cell (p := ⟨b, off + m * 3 + 2, none⟩) (by simp; omega)).trans e2
          have HWT := Lib.hid (fun (wx : World) (hx : Below w2.heap.size w2 wx) => prWaits_any w.heap.size _ vs js sp T ((n : Int) - ((f1 + 1 : Nat) : Int)) m wx (HP2.out.step hx) (by rw [HN.out]; exact hlt) HSL.out (by rw [HN.out]; exact hn))
          have tk := HTK.out m hlt
          have hwt : ∀ B, wtB js sp T m = B → B = true → js[m]!.t ≤ T := fun B h1 h2 => by
            rw [h2] at h1
            simp only [wtB, Bool.and_eq_true, decide_eq_true_eq] at h1
            exact h1.2
          have HRV : Hid (rk0 T js[m]! = 0) := rfl
          clear e0 e1 e2
          cases hw : wtB js sp T m
          · have HWX := Lib.hid (HWA.out hw)
            rw [hw] at HWT
            clear HST HNO HWA hwt hw
            generalize js[m]! = y at y0 y1 y2 tk HRV
            obtain ⟨yt, yc, yl⟩ := y
            simp only at y0 y1 y2 tk
            have HBX := Lib.hid (HBM.out.alloc hs2 (.cells #[.int .i64 yt, .int .i64 yc, .int .i64 yl] 43))
            have HWQ := Lib.hid (HWT.out _ HBX.out)
            clear hbm
            go_wp2_with fail
            refine HWQ.out.mono ?_; rintro e w3 ⟨rfl, m3, rfl⟩
            go_wp2_with fail
            go_roundw
            case rel => exact ⟨m + 1, by omega, by go_num, by rw [HWX.out, HXX.out], by rw [HWX.out, HYY.out], below_drewN HBX.out m3⟩
            case measure => simp [intOf]; omega
          · have hle := hwt _ hw rfl
            have HST2 := Lib.hid (HST.out hw)
            rw [hw] at HWT
            have HMW := Lib.hid hw
            clear HST HWA hwt hw
            have hrn : 0 ≤ rk0 T js[m]! := by
              rw [HRV.out]
              exact Int.le_refl _
            have HNO2 := Lib.hid (HNO.out hrn)
            clear HNO hrn
            rw [HRV.out] at HST2 HNO2
            generalize js[m]! = y at y0 y1 y2 tk hle HST2 HNO2 HRV
            obtain ⟨yt, yc, yl⟩ := y
            simp only at y0 y1 y2 tk hle HST2 HNO2 HRV
            have hBX := BK.made wr 43 #[.int .i64 yt, .int .i64 yc, .int .i64 yl]
            have HBX := Lib.hid (HBM.out.alloc hs2 (.cells #[.int .i64 yt, .int .i64 yc, .int .i64 yl] 43))
            have HWQ := Lib.hid (HWT.out _ HBX.out)
            have q2 := (World.cell?_alloc_lt wr (.cells #[.int .i64 yt, .int .i64 yc, .int .i64 yl] 43) ⟨w.heap.size, 2, none⟩ (show w.heap.size < wr.heap.size by omega)).trans g2

            clear hbm
            by_cases hgt : Y < 0
            · have HYES := Lib.hid (HST2.out hgt)
              go_wp2_with fail
              refine HWQ.out.mono ?_; rintro e w3 ⟨rfl, m3, rfl⟩
              have z0 : ((wr.alloc (.cells #[.int .i64 yt, .int .i64 yc, .int .i64 yl] 43)).drewN m3).cell? ⟨wr.heap.size, 0, none⟩ = some (.int .i64 yt) := hBX.cell 0
              have z1 : ((wr.alloc (.cells #[.int .i64 yt, .int .i64 yc, .int .i64 yl] 43)).drewN m3).cell? ⟨wr.heap.size, 1, none⟩ = some (.int .i64 yc) := hBX.cell 1
              have z2 : ((wr.alloc (.cells #[.int .i64 yt, .int .i64 yc, .int .i64 yl] 43)).drewN m3).cell? ⟨w.heap.size, 2, none⟩ = some (.int .i64 T) := q2
              go_wp2_with fail

              go_roundw
              case rel => exact ⟨m + 1, by omega, by go_num, by rw [HYES.out.1], by rw [HYES.out.2], below_drewN HBX.out _⟩
              case measure => simp [intOf]; omega
            · have HNN := Lib.hid (HNO2.out (fun h9 => hgt h9.2))
              go_wp2_with fail
              refine HWQ.out.mono ?_; rintro e w3 ⟨rfl, m3, rfl⟩
              have z0 : ((wr.alloc (.cells #[.int .i64 yt, .int .i64 yc, .int .i64 yl] 43)).drewN m3).cell? ⟨wr.heap.size, 0, none⟩ = some (.int .i64 yt) := hBX.cell 0
              have z1 : ((wr.alloc (.cells #[.int .i64 yt, .int .i64 yc, .int .i64 yl] 43)).drewN m3).cell? ⟨wr.heap.size, 1, none⟩ = some (.int .i64 yc) := hBX.cell 1
              have z2 : ((wr.alloc (.cells #[.int .i64 yt, .int .i64 yc, .int .i64 yl] 43)).drewN m3).cell? ⟨w.heap.size, 2, none⟩ = some (.int .i64 T) := q2
              go_wp2_with fail

              go_roundw
              case rel => exact ⟨m + 1, by omega, by go_num, by rw [HNN.out, HXX.out], by rw [HNN.out, HYY.out], below_drewN HBX.out _⟩
              case measure => simp [intOf]; omega
        · obtain rfl : m = n := by omega
          have hxk : X = k := by rw [← HXX.out, HEN.out rfl]; rfl
          subst hxk
          have lk := HTK.out k hkn
          have HBEG := Lib.hid (prBegin_any w.heap.size _ vs js sp T ((m : Int) - ((f1 + 1 : Nat) : Int)) k wr (HP2.out.step hbm) (by rw [HN.out]; exact hkn) HSL.out (by rw [HN.out]; exact hn) (by omega) (by omega) (by omega))
          clear hbm g2
          go_wp2_with fail
          refine HBEG.out.mono ?_; rintro e w4 ⟨rfl, hp4, hb4⟩
          have e9 : (m : Int) - ((f1 + 1 : Nat) : Int) + 1 = m - (f1 : Int) := by omega
          rw [e9] at hp4
          have HB4 := Lib.hid ((HB2.out.trans (HBM.out.mono (Nat.le_of_lt hgs2))).trans hb4)
          have HP4 := Lib.hid hp4
          clear hp4 hb4 e9
          have HNX : Hid (R = runL (rk0) f1 (T + js[k]!.l) (l.set k jbZ) (out.set k T)) := by
            have h9 := HNEXT.out
            rw [HLK.out] at h9
            exact h9
          go_wp2_with fail
          go_roundg f1
          case rel => exact ⟨T + js[k]!.l, l.set k jbZ, sp.set k T, out.set k T, vs, HCNT.out, HMD2.out, HNX, by omega, by omega, HP4.out, HB4.out⟩
          case measure => omega

set_option maxHeartbeats 8000000 in
theorem prByC_any (v : Value) (js : List Jb) (w : World) (h : RJbS w w.heap.size v js) (hA : areJb js = true) :
    Calls Try.prog 28 #[v, .bool true, .int .i64 0] w (RetL 3 w (startsOf (rkC) js)) := by
  have hn := (areJb_in hA).1
  have HNEW := Lib.hid (prNew_any v js w h hn)
  have hisJ := cntJ_all (l := js) (fun y hy => isJ_ok ((areJb_in hA).2.1 y hy).2.2.2.2.1)
  have hv : ∃ A c, v = .slice A js.length c := by obtain ⟨A, c, hv, _⟩ := h; exact ⟨A, c, hv⟩
  obtain ⟨A, c, rfl⟩ := hv
  have HTK := Lib.hid (fun k (hk : k < js.length) => tick_at hA hk)
  obtain ⟨R, hR⟩ : ∃ R, R = startsOf (rkC) js := ⟨_, rfl⟩
  rw [← hR]
  have HR : Hid (R = runL (rkC) js.length 0 js (List.replicate js.length 0)) := hR
  have HMS := Lib.hid (Mod.start js)
  obtain ⟨n, hN⟩ : ∃ n, js.length = n := ⟨_, rfl⟩
  unfold RetNew at HNEW
  have hjc : ∀ g (wx : World), RJbS wx g (.slice A n c) js → ∀ k, k < n → ∃ b off, A = some ⟨b, off, none⟩ ∧ b < g ∧ wx.cell? ⟨b, off + k * 3, none⟩ = some (.int .i64 js[k]!.t) ∧ wx.cell? ⟨b, off + k * 3 + 1, none⟩ = some (.int .i64 js[k]!.c) ∧ wx.cell? ⟨b, off + k * 3 + 2, none⟩ = some (.int .i64 js[k]!.l) := by
    intro g wx h9 k hk
    obtain ⟨b, off, c9, hv, hb, e0, e1, e2⟩ := left_cells h9 k (by omega)
    injection hv with hA9 _ hC9
    exact ⟨b, off, hA9, hb, e0, e1, e2⟩
  rw [hN] at hn HNEW HR hisJ HTK HMS ⊢
  have hn' : (n : Int) ≤ 20 := by omega
  have HN := Lib.hid hN
  have HA := Lib.hid hA
  have HCN := Lib.hid hisJ
  have HJC := Lib.hid hjc
  clear h hN hA hisJ hR hjc
  go_enter Try.func28, Try.ntmps28
  go_wp2_with fail
  refine HNEW.out.mono ?_; rintro e w1 ⟨vs1, rfl, hp1, hb1⟩
  have HP1 := Lib.hid hp1
  have HB1 := Lib.hid hb1
  clear hp1 hb1
  go_wp2_with fail
  go_loopg [8] n (fun f s8 wr => ∃ (now : Int) (l : List Jb) (sp out : List Int) (vs : Value), f = cntJ l ∧ Mod js l sp out ∧ Hid (R = runL (rkC) f now l out) ∧ 0 ≤ now ∧ now + 20 * f ≤ 1000 + 20 * n ∧
    PN wr w.heap.size (.slice A n c) js vs sp now (n - f) ∧ Below w.heap.size w wr)
  case atStart => exact ⟨0, js, _, _, vs1, HCN.out.symm, HMS.out, HR, by omega, by omega, by rw [Int.sub_self]; exact HP1.out, HB1.out⟩
  case round =>
    obtain ⟨now, l, sp, out, vs, hgk, hmod, hr, ht0, ht1, hpn, hbw⟩ := hrel
    have hgn : gk ≤ n := by
      have h1 := cntJ_le l
      have h2 := hmod.left.1
      have h3 := HN.out
      omega
    have hgs := hpn.lt
    have c3 := hpn.bk.cell 3
    simp at c3
    have HPN := Lib.hid hpn
    have HBW := Lib.hid hbw
    have HMOD := Lib.hid hmod
    have HGK := Lib.hid hgk
    have hsl : sp.length = js.length := hmod.lsp
    have HSL := Lib.hid hsl
    clear hmod hbw hgk hpn hsl
    by_cases hf : gk = 0
    · subst hf
      have HOUT : Hid (sp = R) := by
        show _ = _
        rw [HMOD.out.done HA.out HGK.out.symm]
        exact hr.out.symm
      have c1 := HPN.out.bk.cell 1
      simp at c1
      have hro := Acc.oi HPN.out.row
      obtain ⟨A3, c9, hv3, _⟩ := hro.ri
      subst hv3
      have HRO := Lib.hid hro
      clear hr hro
      go_wp2_with fail
      go_ret
      exact ⟨_, rfl, by rw [← HOUT.out]; exact HRO.out.wide (Nat.le_succ _) (Nat.le_refl _), HBW.out⟩
    · obtain ⟨f1, rfl⟩ : ∃ f1, gk = f1 + 1 := ⟨gk - 1, by omega⟩
      have hp : 0 < cntJ l := by rw [← HGK.out]; omega
      obtain ⟨u, f, k, u1, u2, u3, hT, hfst, hpk, hkl, hkj, hT0, hT1, hbd⟩ := step_of (rk := rkC) HA.out HMOD.out.left hp ht0
      have hdn : ((n : Int) - ((f1 + 1 : Nat) : Int)) ≠ js.length := by rw [HN.out]; omega
      have hdl : (n : Int) - ((f1 + 1 : Nat) : Int) < n := by omega
      obtain ⟨hsk, hsb⟩ := HMOD.out.skip HA.out hp now ((n : Int) - ((f1 + 1 : Nat) : Int)) hdn
      have HSKIP := Lib.hid (prSkip_any w.heap.size _ vs js sp now ((n : Int) - ((f1 + 1 : Nat) : Int)) wr HPN.out HSL.out HA.out (by rw [HN.out]; omega))
      unfold RetSkip at HSKIP
      rw [hsk] at HSKIP
      obtain ⟨SB, hSB⟩ : ∃ x, (!(someB js sp now js.length || decide ((n : Int) - ((f1 + 1 : Nat) : Int) = js.length))) = x := ⟨_, rfl⟩
      rw [hSB] at HSKIP
      have hpk2 := hpk
      rw [HMOD.out.pick HA.out] at hpk2
      rw [HN.out] at hpk2
      have hkn : k < n := by have := HMOD.out.left.1; have := HN.out; omega
      have HNEXT : Hid (R = runL (rkC) f1 (tickOf now l + l[k]!.l) (l.set k jbZ) (out.set k (tickOf now l))) := by
        have h9 := hr.out
        rw [runL_step hpk] at h9
        exact h9
      have HCNT : Hid (f1 = cntJ (l.set k jbZ)) := by
        have h9 := cntJ_set hkl hkj
        have h8 := HGK.out
        show _ = _
        omega
      have HMD2 := Lib.hid (HMOD.out.put k (by rw [HN.out]; exact hkn) (tickOf now l) hT0)
      have HLK : Hid (l[k]! = js[k]!) := HMOD.out.left.is (by rw [HN.out]; exact hkn) hkj
      have HPK := Lib.hid hpk2
      clear hr hT hfst hpk hpk2 hsk hsb hSB u1 u2 u3 hdn
      generalize tickOf now l = T at HNEXT HSKIP HMD2 HPK hT0 hT1
      have hT2 : T + 20 * (f1 + 1) ≤ 1000 + 20 * (n : Int) := by
        have h1 := cntJ_le l
        have h2 := HMOD.out.left.1
        have h3 := HN.out
        omega
      go_wp2_with fail
      refine HSKIP.out.mono ?_; rintro e w2 ⟨rfl, hp2, hb2⟩
      have HP2 := Lib.hid hp2
      have HB2 := Lib.hid (HBW.out.trans hb2)
      have c0 := hp2.bk.cell 0
      have d2 := hp2.bk.cell 2
      have hgs2 := hp2.lt
      simp at c0 d2
      obtain ⟨wo, hwo⟩ : ∃ wo : World, wo = w2 := ⟨_, rfl⟩
      clear hp2 hb2
      go_wp2_with fail
      go_loopw [8, 9, 26] (fun x y i wr2 => ∃ m : Nat, m ≤ n ∧ i = .int .i64 m ∧ x = .int .i64 (bI (bestOf (wtB js sp T) (fun i => rkC T js[i]!) m)) ∧ y = .int .i64 (mI (fun i => rkC T js[i]!) (bestOf (wtB js sp T) (fun i => rkC T js[i]!) m)) ∧ Below w2.heap.size w2 wr2)
        (fun _ _ i _ => n - (intOf i).toNat)
      case atStart => exact ⟨0, Nat.zero_le _, rfl, rfl, rfl, Below.refl _ _⟩
      case round =>
        obtain ⟨m, hm, rfl, rfl, rfl, hbm⟩ := hrel
        have hs2 := hbm.size
        have HBM := Lib.hid hbm
        have HST := Lib.hid (fun (hw : wtB js sp T m = true) => best_yes (w := wtB js sp T) (r := fun i => rkC T js[i]!) (m := m) hw)
        have HNO := Lib.hid (fun (hr : 0 ≤ rkC T js[m]!) => best_no (w := wtB js sp T) (r := fun i => rkC T js[i]!) (m := m) hr)
        have HWA := Lib.hid (fun (hw : wtB js sp T m = false) => best_wait (w := wtB js sp T) (r := fun i => rkC T js[i]!) (m := m) hw)
        have HEN : Hid (m = n → bestOf (wtB js sp T) (fun i => rkC T js[i]!) m = some k) := fun h9 => by rw [h9]; exact HPK.out
        obtain ⟨X, hX⟩ : ∃ X, bI (bestOf (wtB js sp T) (fun i => rkC T js[i]!) m) = X := ⟨_, rfl⟩
        obtain ⟨Y, hY⟩ : ∃ Y, mI (fun i => rkC T js[i]!) (bestOf (wtB js sp T) (fun i => rkC T js[i]!) m) = Y := ⟨_, rfl⟩
        rw [hX, hY]
        rw [hY] at HST HNO
        have HXX := Lib.hid hX
        have HYY := Lib.hid hY
        clear hX hY
        have g2 := (hbm.cell (p := ⟨w.heap.size, 2, none⟩) hgs2).trans d2
        by_cases hlt : m < n
        · have hmi : (m : Int) < (n : Int) := by omega
          obtain ⟨b, off, hAA, hbg, e0, e1, e2⟩ := HJC.out w.heap.size w2 HP2.out.jobs m hlt
          subst hAA
          have y0 := (hbm.cell (p := ⟨b, off + m * 3, none⟩) (by simp; omega)).trans e0
          have y1 := (hbm.cell (p := ⟨b, off + m * 3 + 1, none⟩) (by simp; omega)).trans e1
          have y2 := (hbm.cell (p := ⟨b, off + m * 3 + 2, none⟩) (by simp; omega)).trans e2
          have HWT := Lib.hid (fun (wx : World) (hx : Below w2.heap.size w2 wx) => prWaits_any w.heap.size _ vs js sp T ((n : Int) - ((f1 + 1 : Nat) : Int)) m wx (HP2.out.step hx) (by rw [HN.out]; exact hlt) HSL.out (by rw [HN.out]; exact hn))
          have tk := HTK.out m hlt
          have hwt : ∀ B, wtB js sp T m = B → B = true → js[m]!.t ≤ T := fun B h1 h2 => by
            rw [h2] at h1
            simp only [wtB, Bool.and_eq_true, decide_eq_true_eq] at h1
            exact h1.2
          have HRV : Hid (rkC T js[m]! = js[m]!.c) := rfl
          clear e0 e1 e2
          cases hw : wtB js sp T m
          · have HWX := Lib.hid (HWA.out hw)
            rw [hw] at HWT
            clear HST HNO HWA hwt hw
            generalize js[m]! = y at y0 y1 y2 tk HRV
            obtain ⟨yt, yc, yl⟩ := y
            simp only at y0 y1 y2 tk
            have HBX := Lib.hid (HBM.out.alloc hs2 (.cells #[.int .i64 yt, .int .i64 yc, .int .i64 yl] 43))
            have HWQ := Lib.hid (HWT.out _ HBX.out)
            clear hbm
            go_wp2_with fail
            refine HWQ.out.mono ?_; rintro e w3 ⟨rfl, m3, rfl⟩
            go_wp2_with fail
            go_roundw
            case rel => exact ⟨m + 1, by omega, by go_num, by rw [HWX.out, HXX.out], by rw [HWX.out, HYY.out], below_drewN HBX.out m3⟩
            case measure => simp [intOf]; omega
          · have hle := hwt _ hw rfl
            have HST2 := Lib.hid (HST.out hw)
            rw [hw] at HWT
            have HMW := Lib.hid hw
            clear HST HWA hwt hw
            have hrn : 0 ≤ rkC T js[m]! := by
              rw [HRV.out]
              exact tk.2.2.1
            have HNO2 := Lib.hid (HNO.out hrn)
            clear HNO hrn
            rw [HRV.out] at HST2 HNO2
            generalize js[m]! = y at y0 y1 y2 tk hle HST2 HNO2 HRV
            obtain ⟨yt, yc, yl⟩ := y
            simp only at y0 y1 y2 tk hle HST2 HNO2 HRV
            have hBX := BK.made wr 43 #[.int .i64 yt, .int .i64 yc, .int .i64 yl]
            have HBX := Lib.hid (HBM.out.alloc hs2 (.cells #[.int .i64 yt, .int .i64 yc, .int .i64 yl] 43))
            have HWQ := Lib.hid (HWT.out _ HBX.out)
            have q2 := (World.cell?_alloc_lt wr (.cells #[.int .i64 yt, .int .i64 yc, .int .i64 yl] 43) ⟨w.heap.size, 2, none⟩ (show w.heap.size < wr.heap.size by omega)).trans g2

            clear hbm
            by_cases hgt : Y < yc
            · have HYES := Lib.hid (HST2.out hgt)
              go_wp2_with fail
              refine HWQ.out.mono ?_; rintro e w3 ⟨rfl, m3, rfl⟩
              have z0 : ((wr.alloc (.cells #[.int .i64 yt, .int .i64 yc, .int .i64 yl] 43)).drewN m3).cell? ⟨wr.heap.size, 0, none⟩ = some (.int .i64 yt) := hBX.cell 0
              have z1 : ((wr.alloc (.cells #[.int .i64 yt, .int .i64 yc, .int .i64 yl] 43)).drewN m3).cell? ⟨wr.heap.size, 1, none⟩ = some (.int .i64 yc) := hBX.cell 1
              have z2 : ((wr.alloc (.cells #[.int .i64 yt, .int .i64 yc, .int .i64 yl] 43)).drewN m3).cell? ⟨w.heap.size, 2, none⟩ = some (.int .i64 T) := q2
              go_wp2_with fail

              go_roundw
              case rel => exact ⟨m + 1, by omega, by go_num, by rw [HYES.out.1], by rw [HYES.out.2], below_drewN HBX.out _⟩
              case measure => simp [intOf]; omega
            · have HNN := Lib.hid (HNO2.out (fun h9 => hgt h9.2))
              go_wp2_with fail
              refine HWQ.out.mono ?_; rintro e w3 ⟨rfl, m3, rfl⟩
              have z0 : ((wr.alloc (.cells #[.int .i64 yt, .int .i64 yc, .int .i64 yl] 43)).drewN m3).cell? ⟨wr.heap.size, 0, none⟩ = some (.int .i64 yt) := hBX.cell 0
              have z1 : ((wr.alloc (.cells #[.int .i64 yt, .int .i64 yc, .int .i64 yl] 43)).drewN m3).cell? ⟨wr.heap.size, 1, none⟩ = some (.int .i64 yc) := hBX.cell 1
              have z2 : ((wr.alloc (.cells #[.int .i64 yt, .int .i64 yc, .int .i64 yl] 43)).drewN m3).cell? ⟨w.heap.size, 2, none⟩ = some (.int .i64 T) := q2
              go_wp2_with fail

              go_roundw
              case rel => exact ⟨m + 1, by omega, by go_num, by rw [HNN.out, HXX.out], by rw [HNN.out, HYY.out], below_drewN HBX.out _⟩
              case measure => simp [intOf]; omega
        · obtain rfl : m = n := by omega
          have hxk : X = k := by rw [← HXX.out, HEN.out rfl]; rfl
          subst hxk
          have lk := HTK.out k hkn
          have HBEG := Lib.hid (prBegin_any w.heap.size _ vs js sp T ((m : Int) - ((f1 + 1 : Nat) : Int)) k wr (HP2.out.step hbm) (by rw [HN.out]; exact hkn) HSL.out (by rw [HN.out]; exact hn) (by omega) (by omega) (by omega))
          clear hbm g2
          go_wp2_with fail
          refine HBEG.out.mono ?_; rintro e w4 ⟨rfl, hp4, hb4⟩
          have e9 : (m : Int) - ((f1 + 1 : Nat) : Int) + 1 = m - (f1 : Int) := by omega
          rw [e9] at hp4
          have HB4 := Lib.hid ((HB2.out.trans (HBM.out.mono (Nat.le_of_lt hgs2))).trans hb4)
          have HP4 := Lib.hid hp4
          clear hp4 hb4 e9
          have HNX : Hid (R = runL (rkC) f1 (T + js[k]!.l) (l.set k jbZ) (out.set k T)) := by
            have h9 := HNEXT.out
            rw [HLK.out] at h9
            exact h9
          go_wp2_with fail
          go_roundg f1
          case rel => exact ⟨T + js[k]!.l, l.set k jbZ, sp.set k T, out.set k T, vs, HCNT.out, HMD2.out, HNX, by omega, by omega, HP4.out, HB4.out⟩
          case measure => omega

set_option maxHeartbeats 8000000 in
theorem prByA_any (v : Value) (js : List Jb) (st : Int) (w : World) (h : RJbS w w.heap.size v js) (hA : areJb js = true) (hst : 1 ≤ st ∧ st ≤ 100) :
    Calls Try.prog 28 #[v, .bool true, .int .i64 st] w (RetL 3 w (startsOf (rkA st) js)) := by
  have hn := (areJb_in hA).1
  have HNEW := Lib.hid (prNew_any v js w h hn)
  have hisJ := cntJ_all (l := js) (fun y hy => isJ_ok ((areJb_in hA).2.1 y hy).2.2.2.2.1)
  have hv : ∃ A c, v = .slice A js.length c := by obtain ⟨A, c, hv, _⟩ := h; exact ⟨A, c, hv⟩
  obtain ⟨A, c, rfl⟩ := hv
  have HTK := Lib.hid (fun k (hk : k < js.length) => tick_at hA hk)
  obtain ⟨R, hR⟩ : ∃ R, R = startsOf (rkA st) js := ⟨_, rfl⟩
  rw [← hR]
  have HR : Hid (R = runL (rkA st) js.length 0 js (List.replicate js.length 0)) := hR
  have HMS := Lib.hid (Mod.start js)
  obtain ⟨n, hN⟩ : ∃ n, js.length = n := ⟨_, rfl⟩
  unfold RetNew at HNEW
  have hjc : ∀ g (wx : World), RJbS wx g (.slice A n c) js → ∀ k, k < n → ∃ b off, A = some ⟨b, off, none⟩ ∧ b < g ∧ wx.cell? ⟨b, off + k * 3, none⟩ = some (.int .i64 js[k]!.t) ∧ wx.cell? ⟨b, off + k * 3 + 1, none⟩ = some (.int .i64 js[k]!.c) ∧ wx.cell? ⟨b, off + k * 3 + 2, none⟩ = some (.int .i64 js[k]!.l) := by
    intro g wx h9 k hk
    obtain ⟨b, off, c9, hv, hb, e0, e1, e2⟩ := left_cells h9 k (by omega)
    injection hv with hA9 _ hC9
    exact ⟨b, off, hA9, hb, e0, e1, e2⟩
  rw [hN] at hn HNEW HR hisJ HTK HMS ⊢
  have hn' : (n : Int) ≤ 20 := by omega
  have HN := Lib.hid hN
  have HA := Lib.hid hA
  have HCN := Lib.hid hisJ
  have HJC := Lib.hid hjc
  clear h hN hA hisJ hR hjc
  go_enter Try.func28, Try.ntmps28
  go_wp2_with fail
  refine HNEW.out.mono ?_; rintro e w1 ⟨vs1, rfl, hp1, hb1⟩
  have HP1 := Lib.hid hp1
  have HB1 := Lib.hid hb1
  clear hp1 hb1
  go_wp2_with fail
  go_loopg [8] n (fun f s8 wr => ∃ (now : Int) (l : List Jb) (sp out : List Int) (vs : Value), f = cntJ l ∧ Mod js l sp out ∧ Hid (R = runL (rkA st) f now l out) ∧ 0 ≤ now ∧ now + 20 * f ≤ 1000 + 20 * n ∧
    PN wr w.heap.size (.slice A n c) js vs sp now (n - f) ∧ Below w.heap.size w wr)
  case atStart => exact ⟨0, js, _, _, vs1, HCN.out.symm, HMS.out, HR, by omega, by omega, by rw [Int.sub_self]; exact HP1.out, HB1.out⟩
  case round =>
    obtain ⟨now, l, sp, out, vs, hgk, hmod, hr, ht0, ht1, hpn, hbw⟩ := hrel
    have hgn : gk ≤ n := by
      have h1 := cntJ_le l
      have h2 := hmod.left.1
      have h3 := HN.out
      omega
    have hgs := hpn.lt
    have c3 := hpn.bk.cell 3
    simp at c3
    have HPN := Lib.hid hpn
    have HBW := Lib.hid hbw
    have HMOD := Lib.hid hmod
    have HGK := Lib.hid hgk
    have hsl : sp.length = js.length := hmod.lsp
    have HSL := Lib.hid hsl
    clear hmod hbw hgk hpn hsl
    by_cases hf : gk = 0
    · subst hf
      have HOUT : Hid (sp = R) := by
        show _ = _
        rw [HMOD.out.done HA.out HGK.out.symm]
        exact hr.out.symm
      have c1 := HPN.out.bk.cell 1
      simp at c1
      have hro := Acc.oi HPN.out.row
      obtain ⟨A3, c9, hv3, _⟩ := hro.ri
      subst hv3
      have HRO := Lib.hid hro
      clear hr hro
      go_wp2_with fail
      go_ret
      exact ⟨_, rfl, by rw [← HOUT.out]; exact HRO.out.wide (Nat.le_succ _) (Nat.le_refl _), HBW.out⟩
    · obtain ⟨f1, rfl⟩ : ∃ f1, gk = f1 + 1 := ⟨gk - 1, by omega⟩
      have hp : 0 < cntJ l := by rw [← HGK.out]; omega
      obtain ⟨u, f, k, u1, u2, u3, hT, hfst, hpk, hkl, hkj, hT0, hT1, hbd⟩ := step_of (rk := rkA st) HA.out HMOD.out.left hp ht0
      have hdn : ((n : Int) - ((f1 + 1 : Nat) : Int)) ≠ js.length := by rw [HN.out]; omega
      have hdl : (n : Int) - ((f1 + 1 : Nat) : Int) < n := by omega
      obtain ⟨hsk, hsb⟩ := HMOD.out.skip HA.out hp now ((n : Int) - ((f1 + 1 : Nat) : Int)) hdn
      have HSKIP := Lib.hid (prSkip_any w.heap.size _ vs js sp now ((n : Int) - ((f1 + 1 : Nat) : Int)) wr HPN.out HSL.out HA.out (by rw [HN.out]; omega))
      unfold RetSkip at HSKIP
      rw [hsk] at HSKIP
      obtain ⟨SB, hSB⟩ : ∃ x, (!(someB js sp now js.length || decide ((n : Int) - ((f1 + 1 : Nat) : Int) = js.length))) = x := ⟨_, rfl⟩
      rw [hSB] at HSKIP
      have hpk2 := hpk
      rw [HMOD.out.pick HA.out] at hpk2
      rw [HN.out] at hpk2
      have hkn : k < n := by have := HMOD.out.left.1; have := HN.out; omega
      have HNEXT : Hid (R = runL (rkA st) f1 (tickOf now l + l[k]!.l) (l.set k jbZ) (out.set k (tickOf now l))) := by
        have h9 := hr.out
        rw [runL_step hpk] at h9
        exact h9
      have HCNT : Hid (f1 = cntJ (l.set k jbZ)) := by
        have h9 := cntJ_set hkl hkj
        have h8 := HGK.out
        show _ = _
        omega
      have HMD2 := Lib.hid (HMOD.out.put k (by rw [HN.out]; exact hkn) (tickOf now l) hT0)
      have HLK : Hid (l[k]! = js[k]!) := HMOD.out.left.is (by rw [HN.out]; exact hkn) hkj
      have HPK := Lib.hid hpk2
      clear hr hT hfst hpk hpk2 hsk hsb hSB u1 u2 u3 hdn
      generalize tickOf now l = T at HNEXT HSKIP HMD2 HPK hT0 hT1
      have hT2 : T + 20 * (f1 + 1) ≤ 1000 + 20 * (n : Int) := by
        have h1 := cntJ_le l
        have h2 := HMOD.out.left.1
        have h3 := HN.out
        omega
      go_wp2_with fail
      refine HSKIP.out.mono ?_; rintro e w2 ⟨rfl, hp2, hb2⟩
      have HP2 := Lib.hid hp2
      have HB2 := Lib.hid (HBW.out.trans hb2)
      have c0 := hp2.bk.cell 0
      have d2 := hp2.bk.cell 2
      have hgs2 := hp2.lt
      simp at c0 d2
      obtain ⟨wo, hwo⟩ : ∃ wo : World, wo = w2 := ⟨_, rfl⟩
      clear hp2 hb2
      go_wp2_with fail
      go_loopw [8, 9, 26] (fun x y i wr2 => ∃ m : Nat, m ≤ n ∧ i = .int .i64 m ∧ x = .int .i64 (bI (bestOf (wtB js sp T) (fun i => rkA st T js[i]!) m)) ∧ y = .int .i64 (mI (fun i => rkA st T js[i]!) (bestOf (wtB js sp T) (fun i => rkA st T js[i]!) m)) ∧ Below w2.heap.size w2 wr2)
        (fun _ _ i _ => n - (intOf i).toNat)
      case atStart => exact ⟨0, Nat.zero_le _, rfl, rfl, rfl, Below.refl _ _⟩
      case round =>
        obtain ⟨m, hm, rfl, rfl, rfl, hbm⟩ := hrel
        have hs2 := hbm.size
        have HBM := Lib.hid hbm
        have HST := Lib.hid (fun (hw : wtB js sp T m = true) => best_yes (w := wtB js sp T) (r := fun i => rkA st T js[i]!) (m := m) hw)
        have HNO := Lib.hid (fun (hr : 0 ≤ rkA st T js[m]!) => best_no (w := wtB js sp T) (r := fun i => rkA st T js[i]!) (m := m) hr)
        have HWA := Lib.hid (fun (hw : wtB js sp T m = false) => best_wait (w := wtB js sp T) (r := fun i => rkA st T js[i]!) (m := m) hw)
        have HEN : Hid (m = n → bestOf (wtB js sp T) (fun i => rkA st T js[i]!) m = some k) := fun h9 => by rw [h9]; exact HPK.out
        obtain ⟨X, hX⟩ : ∃ X, bI (bestOf (wtB js sp T) (fun i => rkA st T js[i]!) m) = X := ⟨_, rfl⟩
        obtain ⟨Y, hY⟩ : ∃ Y, mI (fun i => rkA st T js[i]!) (bestOf (wtB js sp T) (fun i => rkA st T js[i]!) m) = Y := ⟨_, rfl⟩
        rw [hX, hY]
        rw [hY] at HST HNO
        have HXX := Lib.hid hX
        have HYY := Lib.hid hY
        clear hX hY
        have g2 := (hbm.cell (p := ⟨w.heap.size, 2, none⟩) hgs2).trans d2
        by_cases hlt : m < n
        · have hmi : (m : Int) < (n : Int) := by omega
          obtain ⟨b, off, hAA, hbg, e0, e1, e2⟩ := HJC.out w.heap.size w2 HP2.out.jobs m hlt
          subst hAA
          have y0 := (hbm.cell (p := ⟨b, off + m * 3, none⟩) (by simp; omega)).trans e0
          have y1 := (hbm.cell (p := ⟨b, off + m * 3 + 1, none⟩) (by simp; omega)).trans e1
          have y2 := (hbm.cell (p := ⟨b, off + m * 3 + 2, none⟩) (by simp; omega)).trans e2
          have HWT := Lib.hid (fun (wx : World) (hx : Below w2.heap.size w2 wx) => prWaits_any w.heap.size _ vs js sp T ((n : Int) - ((f1 + 1 : Nat) : Int)) m wx (HP2.out.step hx) (by rw [HN.out]; exact hlt) HSL.out (by rw [HN.out]; exact hn))
          have tk := HTK.out m hlt
          have hwt : ∀ B, wtB js sp T m = B → B = true → js[m]!.t ≤ T := fun B h1 h2 => by
            rw [h2] at h1
            simp only [wtB, Bool.and_eq_true, decide_eq_true_eq] at h1
            exact h1.2
          have HRV : Hid (rkA st T js[m]! = js[m]!.c + (T - js[m]!.t) / st) := rfl
          clear e0 e1 e2
          cases hw : wtB js sp T m
          · have HWX := Lib.hid (HWA.out hw)
            rw [hw] at HWT
            clear HST HNO HWA hwt hw
            generalize js[m]! = y at y0 y1 y2 tk HRV
            obtain ⟨yt, yc, yl⟩ := y
            simp only at y0 y1 y2 tk
            have HBX := Lib.hid (HBM.out.alloc hs2 (.cells #[.int .i64 yt, .int .i64 yc, .int .i64 yl] 43))
            have HWQ := Lib.hid (HWT.out _ HBX.out)
            clear hbm
            go_wp2_with fail
            refine HWQ.out.mono ?_; rintro e w3 ⟨rfl, m3, rfl⟩
            go_wp2_with fail
            go_roundw
            case rel => exact ⟨m + 1, by omega, by go_num, by rw [HWX.out, HXX.out], by rw [HWX.out, HYY.out], below_drewN HBX.out m3⟩
            case measure => simp [intOf]; omega
          · have hle := hwt _ hw rfl
            have HST2 := Lib.hid (HST.out hw)
            rw [hw] at HWT
            have HMW := Lib.hid hw
            clear HST HWA hwt hw
            have hrn : 0 ≤ rkA st T js[m]! := by
              rw [HRV.out]
              have := Int.ediv_nonneg (a := T - js[m]!.t) (b := st) (by omega) (by omega)
              omega
            have HNO2 := Lib.hid (HNO.out hrn)
            clear HNO hrn
            rw [HRV.out] at HST2 HNO2
            generalize js[m]! = y at y0 y1 y2 tk hle HST2 HNO2 HRV
            obtain ⟨yt, yc, yl⟩ := y
            simp only at y0 y1 y2 tk hle HST2 HNO2 HRV
            have hBX := BK.made wr 43 #[.int .i64 yt, .int .i64 yc, .int .i64 yl]
            have HBX := Lib.hid (HBM.out.alloc hs2 (.cells #[.int .i64 yt, .int .i64 yc, .int .i64 yl] 43))
            have HWQ := Lib.hid (HWT.out _ HBX.out)
            have q2 := (World.cell?_alloc_lt wr (.cells #[.int .i64 yt, .int .i64 yc, .int .i64 yl] 43) ⟨w.heap.size, 2, none⟩ (show w.heap.size < wr.heap.size by omega)).trans g2
            have d0 : 0 ≤ (T - yt) / st := Int.ediv_nonneg (by omega) (by omega)
            have d1 : (T - yt) / st ≤ T - yt := Int.ediv_le_self _ (by omega)
            have e1 : (T - yt).tdiv st = (T - yt) / st := Int.tdiv_eq_ediv_of_nonneg (by omega)
            have e2 : IntKind.i64.wrap (T - yt) = T - yt := IntWalk.i64_in _ (by omega)
            obtain ⟨D, hD⟩ : ∃ D, (T - yt) / st = D := ⟨_, rfl⟩
            rw [hD] at d0 d1 e1 HST2 HNO2
            have e3 : IntKind.i64.wrap D = D := IntWalk.i64_in _ (by omega)
            have e4 : IntKind.i64.wrap (yc + D) = yc + D := IntWalk.i64_in _ (by omega)
            have e5 : st ≠ 0 := by omega
            have e6 : 0 < st := by omega
            clear hD HRV
            clear hbm
            by_cases hgt : Y < yc + D
            · have HYES := Lib.hid (HST2.out hgt)
              go_wp2_with fail
              refine HWQ.out.mono ?_; rintro e w3 ⟨rfl, m3, rfl⟩
              have z0 : ((wr.alloc (.cells #[.int .i64 yt, .int .i64 yc, .int .i64 yl] 43)).drewN m3).cell? ⟨wr.heap.size, 0, none⟩ = some (.int .i64 yt) := hBX.cell 0
              have z1 : ((wr.alloc (.cells #[.int .i64 yt, .int .i64 yc, .int .i64 yl] 43)).drewN m3).cell? ⟨wr.heap.size, 1, none⟩ = some (.int .i64 yc) := hBX.cell 1
              have z2 : ((wr.alloc (.cells #[.int .i64 yt, .int .i64 yc, .int .i64 yl] 43)).drewN m3).cell? ⟨w.heap.size, 2, none⟩ = some (.int .i64 T) := q2
              go_wp2_with fail
              go_quiet (fail)
              go_wp2_with fail
              go_roundw
              case rel => exact ⟨m + 1, by omega, by go_num, by rw [HYES.out.1], by rw [HYES.out.2], below_drewN HBX.out _⟩
              case measure => simp [intOf]; omega
            · have HNN := Lib.hid (HNO2.out (fun h9 => hgt h9.2))
              go_wp2_with fail
              refine HWQ.out.mono ?_; rintro e w3 ⟨rfl, m3, rfl⟩
              have z0 : ((wr.alloc (.cells #[.int .i64 yt, .int .i64 yc, .int .i64 yl] 43)).drewN m3).cell? ⟨wr.heap.size, 0, none⟩ = some (.int .i64 yt) := hBX.cell 0
              have z1 : ((wr.alloc (.cells #[.int .i64 yt, .int .i64 yc, .int .i64 yl] 43)).drewN m3).cell? ⟨wr.heap.size, 1, none⟩ = some (.int .i64 yc) := hBX.cell 1
              have z2 : ((wr.alloc (.cells #[.int .i64 yt, .int .i64 yc, .int .i64 yl] 43)).drewN m3).cell? ⟨w.heap.size, 2, none⟩ = some (.int .i64 T) := q2
              go_wp2_with fail
              go_quiet (fail)
              go_wp2_with fail
              go_roundw
              case rel => exact ⟨m + 1, by omega, by go_num, by rw [HNN.out, HXX.out], by rw [HNN.out, HYY.out], below_drewN HBX.out _⟩
              case measure => simp [intOf]; omega
        · obtain rfl : m = n := by omega
          have hxk : X = k := by rw [← HXX.out, HEN.out rfl]; rfl
          subst hxk
          have lk := HTK.out k hkn
          have HBEG := Lib.hid (prBegin_any w.heap.size _ vs js sp T ((m : Int) - ((f1 + 1 : Nat) : Int)) k wr (HP2.out.step hbm) (by rw [HN.out]; exact hkn) HSL.out (by rw [HN.out]; exact hn) (by omega) (by omega) (by omega))
          clear hbm g2
          go_wp2_with fail
          refine HBEG.out.mono ?_; rintro e w4 ⟨rfl, hp4, hb4⟩
          have e9 : (m : Int) - ((f1 + 1 : Nat) : Int) + 1 = m - (f1 : Int) := by omega
          rw [e9] at hp4
          have HB4 := Lib.hid ((HB2.out.trans (HBM.out.mono (Nat.le_of_lt hgs2))).trans hb4)
          have HP4 := Lib.hid hp4
          clear hp4 hb4 e9
          have HNX : Hid (R = runL (rkA st) f1 (T + js[k]!.l) (l.set k jbZ) (out.set k T)) := by
            have h9 := HNEXT.out
            rw [HLK.out] at h9
            exact h9
          go_wp2_with fail
          go_roundg f1
          case rel => exact ⟨T + js[k]!.l, l.set k jbZ, sp.set k T, out.set k T, vs, HCNT.out, HMD2.out, HNX, by omega, by omega, HP4.out, HB4.out⟩
          case measure => omega

end Go.Proofs.Yteoggoopfjkdkaa
