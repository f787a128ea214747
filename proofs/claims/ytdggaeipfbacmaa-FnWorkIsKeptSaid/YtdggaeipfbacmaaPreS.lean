/-
  PreemptEnds, the model's side.
-/
import Derived.Test.YtdggaeipfbacmaaPre
import Derived.Test.YtdggaeipfbacmaaByB
namespace Go.Proofs.Ytdggaeipfbacmaa
open Go.RowKit
set_option maxRecDepth 100000
set_option linter.unusedVariables false

theorem OI.put_at {E : TypeId} {w : World} {lo hi : Nat} {v : Value} {l : List Int} (h : OI E w lo hi v l) (k : Nat) (hk : k < l.length) :
    ∃ b c, v = .slice (some ⟨b, 0, none⟩) l.length c ∧ lo ≤ b ∧ b < hi ∧ b < w.heap.size ∧ w.cell? ⟨b, k, none⟩ = some (.int .i64 (l.getD k 0)) ∧ w.frozen? ⟨b, k, none⟩ = false ∧
      ∀ x, OI E (w.setCell ⟨b, k, none⟩ (.int .i64 x)) lo hi v (l.set k x) := by
  rcases h with ⟨h1, _⟩ | ⟨b, c, hv, hlo, hhi, hr⟩
  · rw [h1] at hk; simp at hk
  · obtain ⟨_, hbs, _⟩ := row_parts hr
    refine ⟨b, c, hv, hlo, hhi, hbs, ?_, World.ownsRow.frozenAt hr k, fun x => .inr ⟨b, c, by rw [List.length_set]; exact hv, hlo, hhi, ?_⟩⟩
    · rw [World.ownsRow.cellAt hr k (by omega), ics_get l k hk]
    · rw [List.length_set]
      exact out_row hr
theorem best_some_lt {w : Nat → Bool} {r : Nat → Int} {m b : Nat} (h : bestOf w r m = some b) (hw : w m = true) : bestOf w r (m + 1) = if r b < r m then some m else some b := by
  rw [bestOf, h]
  simp [hw]
theorem best_none_yes {w : Nat → Bool} {r : Nat → Int} {m : Nat} (h : bestOf w r m = none) (hw : w m = true) : bestOf w r (m + 1) = some m := by
  rw [bestOf, h]
  simp [hw]
set_option maxHeartbeats 16000000 in
theorem specPreemptEnds_any (v : Value) (js : List Jb) (w : World) (h : RJbS w w.heap.size v js) (hn : js.length ≤ 1048576) :
    Calls Try.prog 9 #[v] w (RetLB 3 w (preOf js).1 (preOf js).2) := by
  have HA := Lib.hid (prJobs_any v js w h hn)
  cases hg : areJb js
  · have HF : preOf js = ([], false) := by simp [preOf, hg]
    rw [HF]
    rw [hg] at HA
    clear hg HF
    go_enter Try.func9, Try.ntmps9
    go_wp2_with fail
    refine HA.out.mono ?_; rintro e w1 ⟨rfl, T⟩
    go_wp2_with fail
    go_ret2
    exact ⟨_, rfl, .inl ⟨rfl, none, 0, rfl, by simp, fun _ => rfl⟩, T⟩
  have HF : preOf js = (endsOf js, true) := by simp [preOf, hg]
  rw [HF]
  have hn2 := (areJb_in hg).1
  obtain ⟨i0, hi, hz0, hz1, hz2⟩ := info_parts int_info
  obtain ⟨R, hR⟩ : ∃ R, R = endsOf js := ⟨_, rfl⟩
  rw [← hR]
  have HR : Hid (R = runP (workJ js) 0 js (List.replicate js.length 0)) := hR
  have HWL : Hid (workJ js ≤ 400) := by
    have := workJ_le (l := js) (fun k hk => (tick_at hg hk).2.2.2.2.2)
    show _ ≤ _
    omega
  have HCN := Lib.hid (cntJ_all (l := js) (fun y hy => isJ_ok ((areJb_in hg).2.1 y hy).2.2.2.2.1))
  have HTK := Lib.hid (fun k (hk : k < js.length) => tick_at hg hk)
  have hjc : ∃ A c, v = .slice A js.length c ∧ ∀ k, k < js.length → ∃ b off, A = some ⟨b, off, none⟩ ∧ b < w.heap.size ∧ w.cell? ⟨b, off + k * 3, none⟩ = some (.int .i64 js[k]!.t) ∧ w.cell? ⟨b, off + k * 3 + 1, none⟩ = some (.int .i64 js[k]!.c) ∧ w.cell? ⟨b, off + k * 3 + 2, none⟩ = some (.int .i64 js[k]!.l) := by
    obtain ⟨A, c, hv, _⟩ := id h
    refine ⟨A, c, hv, fun k hk => ?_⟩
    obtain ⟨b, off, c9, hv9, hb, e0, e1, e2⟩ := left_cells h k hk
    rw [hv] at hv9
    injection hv9 with hA9
    exact ⟨b, off, hA9, hb, e0, e1, e2⟩
  obtain ⟨A, c, rfl, hjc⟩ := hjc
  obtain ⟨n, hN⟩ : ∃ n, js.length = n := ⟨_, rfl⟩
  rw [hg] at HA
  rw [hN] at HR hn2 HA HTK hjc HCN ⊢
  have hn' : (n : Int) ≤ 20 := by omega
  have HN := Lib.hid hN
  have HJ := Lib.hid hg
  have HJC := Lib.hid hjc
  clear hg HF hN hn hR h hjc
  go_enter Try.func9, Try.ntmps9
  go_wp2_with fail
  refine HA.out.mono ?_; rintro e w1 ⟨rfl, T1⟩
  have hT1 := T1.size
  have HT1 := Lib.hid T1
  clear T1
  go_wp2_with fail
  go_loopw [4, 18] (fun u i wr => ∃ k : Nat, k ≤ n ∧ i = .int .i64 k ∧ Acc 3 wr w1.heap.size u (lensJ (js.take k)) ∧ Below w1.heap.size w1 wr)
    (fun _ i _ => n - (intOf i).toNat)
  case atStart => exact ⟨0, Nat.zero_le _, rfl, Acc.nil _ _ _, Below.refl _ _⟩
  case round =>
    obtain ⟨k, hk, rfl, hacc, hbw⟩ := hrel
    have HTW := Lib.hid (HT1.out.trans (hbw.mono hT1))
    have hsw := hbw.size
    by_cases hlt : k < n
    · have hlt' : (k : Int) < (n : Int) := by omega
      obtain ⟨b, off, hAA, hb, e0, e1, e2⟩ := HJC.out k hlt
      subst hAA
      have y0 := (HTW.out.cell (p := ⟨b, off + k * 3, none⟩) hb).trans e0
      have y1 := (HTW.out.cell (p := ⟨b, off + k * 3 + 1, none⟩) hb).trans e1
      have y2 := (HTW.out.cell (p := ⟨b, off + k * 3 + 2, none⟩) hb).trans e2
      have hdl : (lensJ (js.take k)).length < 1000000000 := by rw [lensJ_len, List.length_take]; omega
      have HNX : Hid (lensJ (js.take k) ++ [js[k]!.l] = lensJ (js.take (k + 1))) := by
        show _ = _
        have hkj : k < js.length := by rw [HN.out]; exact hlt
        rw [List.take_succ_eq_append_getElem hkj, getElem!_pos js k hkj]
        unfold lensJ
        rw [List.map_append]
        rfl
      clear e0 e1 e2
      generalize js[k]! = y at y0 y1 y2 HNX
      obtain ⟨yt, yc, yl⟩ := y
      simp only at y0 y1 y2 HNX
      have hbx : Below w1.heap.size w1 (wr.alloc (.cells #[.int .i64 yt, .int .i64 yc, .int .i64 yl] 36)) := hbw.alloc hsw _
      have haccx : Acc 3 (wr.alloc (.cells #[.int .i64 yt, .int .i64 yc, .int .i64 yl] 36)) w1.heap.size _ (lensJ (js.take k)) := Acc.step hacc ((Below.refl _ _).alloc (Nat.le_refl _) _)
      have hsx : w1.heap.size ≤ (wr.alloc (.cells #[.int .i64 yt, .int .i64 yc, .int .i64 yl] 36)).heap.size := by simp; omega
      have HSZ : Hid ((wr.alloc (.cells #[.int .i64 yt, .int .i64 yc, .int .i64 yl] 36)).heap.size = wr.heap.size + 1) := by show _ = _; simp
      clear hacc hbw
      go_wp2_with (at_builtin; refine wpList_push rfl _ _ _ rfl 3 i0 Try.underlying29 hi hz0 hz1 hz2 _ w1 w1.heap.size _ (lensJ (js.take k)) _ rfl rfl haccx (by rw [HSZ.out]; rfl) hdl hsx hbx ?_; intro v3 w3 hacc3 hb3)
      rw [HNX.out] at hacc3
      go_roundw
      case rel => first | exact ⟨k + 1, by omega, by go_num, hacc3, hb3⟩ | exact ⟨k + 1, by omega, by omega, hacc3, hb3⟩
      case measure => simp [intOf]; omega
    · obtain rfl : n = k := by omega
      have htk : js.take n = js := List.take_of_length_le (by rw [HN.out]; exact Nat.le_refl _)
      rw [htk] at hacc
      have HACC := Lib.hid hacc
      have HBW := Lib.hid hbw
      have hvl : ∃ Al cl, u4 = Value.slice Al n cl := by obtain ⟨Al, cl, hv, _⟩ := (Acc.oi hacc).ri; rw [lensJ_len, HN.out] at hv; exact ⟨Al, cl, hv⟩
      obtain ⟨Al, cl, rfl⟩ := hvl
      clear hacc hbw htk
      go_wp2_with (at_make; refine wpList_make_full _ rfl _ _ 29 rfl wr.heap.size 3 i0 _ 1 Try.underlying29 hi hz0 hz1 _ _ _ _ n rfl rfl rfl rfl (by rw [hz2]; omega) (by unfold maxLen; omega) (Nat.le_refl _) ?_; intro w3 hown hg2)
      have hown1 : w3.ownsRow wr.heap.size 3 1 (.slice (some ⟨wr.heap.size, 0, none⟩) n n) n (ics (List.replicate n 0)) := by
        have h1 : (Value.int IntKind.i64 0).cells = #[Value.int IntKind.i64 0] := rfl
        rw [Nat.mul_one, h1, toList_madeCells_one] at hown
        simpa [ics] using hown
      have hb1 : Below wr.heap.size wr w3 := (Below.refl _ _).grown hg2 (Nat.le_refl _) (by intro k hk; cases hk)
      have HO1 := Lib.hid hown1
      have HL1 : Hid (OI 3 w3 w1.heap.size wr.heap.size (.slice Al n cl) (lensJ js)) := (Acc.oi HACC.out).step hb1
      have HB3 := Lib.hid (HTW.out.trans (hb1.mono HTW.out.size))
      clear hown hg2 hb1 hown1 HACC HBW
      clear HTW
      obtain ⟨ge, hge⟩ : ∃ ge, wr.heap.size = ge := ⟨_, rfl⟩
      rw [hge] at HO1 HL1 hsw ⊢
      have HGE := Lib.hid hge
      clear hge
      go_loopg [8, 9] (workJ js + 1001) (fun f x y wq => ∃ (now : Int) (l : List Jb) (out : List Int), f = workJ l + (1001 - now).toNat ∧ workJ l ≤ 400 ∧ LeftP js l ∧ Hid (R = runP (workJ l) now l out) ∧ out.length = n ∧ 0 ≤ now ∧ now + (workJ l : Int) ≤ 1400 ∧
        x = .int .i64 now ∧ y = .int .i64 ((n : Int) - cntJ l) ∧ OI 3 wq w1.heap.size ge (.slice Al n cl) (lensJ l) ∧ wq.ownsRow ge 3 1 (.slice (some ⟨ge, 0, none⟩) n n) n (ics out) ∧ Below w.heap.size w wq)
      case atStart => exact ⟨0, js, List.replicate n 0, by omega, HWL.out, LeftP.start HJ.out, HR, by simp, by omega, by have := HWL.out; omega, rfl, by rw [HCN.out, Int.sub_self], HL1.out, HO1.out, HB3.out⟩
      case round =>
        obtain ⟨now, l, out, hgk, hf4, hleft, hr, hol, ht0, ht1, rfl, rfl, hlo, hrow, hbw⟩ := hrel
        have hll : l.length = n := by rw [hleft.len]; exact HN.out
        have hcl := cntJ_le l
        rw [hll] at hcl
        have HLEFT := Lib.hid hleft
        have HLO := Lib.hid hlo
        have HRW := Lib.hid hrow
        have HBW := Lib.hid hbw
        have HLL := Lib.hid hll
        have HOL := Lib.hid hol
        have HGK := Lib.hid hgk
        clear hleft hlo hrow hbw hll hol hgk
        by_cases hwz : workJ l = 0
        · have h0 : cntJ l = 0 := (workJ_cnt HLEFT.out).1 hwz
          have HOUT : Hid (out = R) := by
            have h9 := hr.out
            rw [hwz] at h9
            exact h9.symm
          have hsb := HBW.out.size
          have HOI : Hid (OI 3 wr ge wr.heap.size (.slice (some ⟨ge, 0, none⟩) n n) out) := OI.of_row (by rw [HOL.out]; exact HRW.out)
          have hcc : (n : Int) - (cntJ l : Int) = n := by omega
          rw [hcc]
          clear hr hwz h0 hcc hcl hf4
          go_wp2_with fail
          go_ret2
          exact ⟨_, rfl, by rw [← HOUT.out]; exact HOI.out.wide (by omega) (Nat.le_refl _), HBW.out⟩
        · have hcp : 0 < cntJ l := by
            rcases Nat.eq_zero_or_pos (cntJ l) with h9 | h9
            · exact absurd ((workJ_cnt HLEFT.out).2 h9) hwz
            · exact h9
          obtain ⟨dn, hdn⟩ : ∃ x, (n : Int) - (cntJ l : Int) = x := ⟨_, rfl⟩
          rw [hdn]
          have hd1 : dn < n := by omega
          have hd0 : 0 ≤ dn := by omega
          have HDN := Lib.hid hdn
          clear hdn
          have HWZ := Lib.hid hwz
          have HCP := Lib.hid hcp
          have HF4 := Lib.hid hf4
          clear hwz hcp hcl hf4
          obtain ⟨wo, hwo⟩ : ∃ wo : World, wo = wr := ⟨_, rfl⟩
          rw [← hwo] at HLO HRW HBW ⊢
          clear hwo
          go_wp2_with fail
          go_loopg [10, 39] n (fun f x i wq => ∃ m : Nat, m ≤ n ∧ f = n - m ∧ i = .int .i64 m ∧ x = .int .i64 (bI (bestOf (wpB js (lensJ l) now) (fun i => js[i]!.c) m)) ∧ Below wo.heap.size wo wq)
          case atStart => exact ⟨0, Nat.zero_le _, rfl, rfl, rfl, Below.refl _ _⟩
          case round =>
            obtain ⟨m, hm, hgk2, rfl, rfl, hbm⟩ := hrel
            have HG2 := Lib.hid hgk2
            clear hgk2
            have hs2 := hbm.size
            have HBM := Lib.hid hbm
            have HWA := Lib.hid (fun (hw : wpB js (lensJ l) now m = false) => best_wait (w := wpB js (lensJ l) now) (r := fun i => js[i]!.c) (m := m) hw)
            have HNY := Lib.hid (fun (hb : bestOf (wpB js (lensJ l) now) (fun i => js[i]!.c) m = none) (hw : wpB js (lensJ l) now m = true) => best_none_yes hb hw)
            have HSL := Lib.hid (fun (b : Nat) (hb : bestOf (wpB js (lensJ l) now) (fun i => js[i]!.c) m = some b) (hw : wpB js (lensJ l) now m = true) => best_some_lt hb hw)
            by_cases hlt : m < n
            · have hmi : (m : Int) < (n : Int) := by omega
              have Tm := HBW.out.trans (hbm.mono HBW.out.size)
              obtain ⟨b, off, hAA, hb, e0, e1, e2⟩ := HJC.out m hlt
              subst hAA
              have y0 := (Tm.cell (p := ⟨b, off + m * 3, none⟩) hb).trans e0
              have y1 := (Tm.cell (p := ⟨b, off + m * 3 + 1, none⟩) hb).trans e1
              have y2 := (Tm.cell (p := ⟨b, off + m * 3 + 2, none⟩) hb).trans e2
              obtain ⟨bl, c7, hvl, _, _, hbls, xl, _, _⟩ := HLO.out.put_at m (by rw [lensJ_len, HLL.out]; exact hlt)
              rw [lensJ_len, HLL.out] at hvl
              injection hvl with hA7 _ hC7
              subst hA7; subst hC7
              have x1 := (hbm.cell (p := ⟨bl, m, none⟩) hbls).trans xl
              have HWM : Hid (wpB js (lensJ l) now m = (decide (0 < (lensJ l).getD m 0) && decide (js[m]!.t ≤ now))) := rfl
              have HJM := Lib.hid (fun (bb : Nat) (h9 : bb < n) => HJC.out bb h9)
              have hbw2 := hb
              have HYC : Hid (∀ z, js[m]! = z → js[m]!.c = z.c) := fun z hz => by rw [hz]
              clear e0 e1 e2 xl
              generalize (lensJ l).getD m 0 = lm at x1 HWM
              obtain ⟨y, hy⟩ : ∃ y, js[m]! = y := ⟨_, rfl⟩
              have HY := Lib.hid hy
              rw [hy] at y0 y1 y2 HWM HYC
              clear hy
              obtain ⟨yt, yc, yl⟩ := y
              simp only at y0 y1 y2 HWM
              have hbls2 : bl < wr.heap.size := by omega
              have HTM := Lib.hid Tm
              have HBX := Lib.hid (HBM.out.alloc hs2 (.cells #[.int .i64 yt, .int .i64 yc, .int .i64 yl] 36))
              have q1 := (World.cell?_alloc_lt wr (.cells #[.int .i64 yt, .int .i64 yc, .int .i64 yl] 36) ⟨bl, m, none⟩ hbls2).trans x1
              clear Tm hbm
              by_cases h1 : 0 < lm
              · by_cases h2 : yt ≤ now
                · have hw : wpB js (lensJ l) now m = true := by rw [HWM.out, decide_eq_true h1, decide_eq_true h2]; rfl
                  cases ho : bestOf (wpB js (lensJ l) now) (fun i => js[i]!.c) m with
                  | none =>
                    have HX := Lib.hid (HNY.out ho hw)
                    have hb0 : bI none = -1 := rfl
                    rw [hb0]
                    clear hw ho hb0
                    go_wp2_with fail
                    go_quiet (fail)
                    go_wp2_with fail
                    go_roundg (n - (m + 1))
                    case rel => exact ⟨m + 1, by omega, rfl, by go_num, by rw [HX.out]; rfl, below_drewN HBX.out _⟩
                    case measure => have := HG2.out; omega
                  | some bb =>
                    have hbm9 := (bestOf_some ho).1
                    have hX9 := HSL.out bb ho hw
                    have hb0 : bI (some bb) = (bb : Int) := rfl
                    rw [hb0]
                    obtain ⟨b2, off2, hA2, hb2, _, g1, _⟩ := HJM.out bb (by omega)
                    injection hA2 with hA2
                    injection hA2 with hA2 hO2
                    subst hA2; subst hO2
                    have z1 := (HTM.out.cell (p := ⟨b, off + bb * 3 + 1, none⟩) hb).trans g1
                    have hbwr : b < wr.heap.size := by have := HTM.out.size; omega
                    have q2 := (World.cell?_alloc_lt wr (.cells #[.int .i64 yt, .int .i64 yc, .int .i64 yl] 36) ⟨b, off + bb * 3 + 1, none⟩ hbwr).trans z1
                    have hbbn : (bb : Int) < (n : Int) := by omega
                    have hbb0 : ¬ ((bb : Int) < 0) := by omega
                    have hmc : js[m]!.c = yc := by rw [HY.out]
                    simp only [hmc] at hX9
                    clear hw ho hb0 g1 z1 hmc
                    generalize js[bb]!.c = zc at q2 hX9
                    by_cases hgt : zc < yc
                    · rw [if_pos hgt] at hX9
                      have HX := Lib.hid hX9
                      clear hX9
                      go_wp2_with fail
                      go_quiet (fail)
                      go_wp2_with fail
                      go_roundg (n - (m + 1))
                      case rel => exact ⟨m + 1, by omega, rfl, by go_num, by rw [HX.out]; rfl, below_drewN HBX.out _⟩
                      case measure => have := HG2.out; omega
                    · rw [if_neg hgt] at hX9
                      have HX := Lib.hid hX9
                      clear hX9
                      go_wp2_with fail
                      go_quiet (fail)
                      go_wp2_with fail
                      go_roundg (n - (m + 1))
                      case rel => exact ⟨m + 1, by omega, rfl, by go_num, by rw [HX.out]; rfl, below_drewN HBX.out _⟩
                      case measure => have := HG2.out; omega
                · have HX := Lib.hid (HWA.out (by rw [HWM.out, decide_eq_false h2, Bool.and_false]))
                  have h2d : decide (yt ≤ now) = false := decide_eq_false h2
                  obtain ⟨X, hX⟩ : ∃ X, bI (bestOf (wpB js (lensJ l) now) (fun i => js[i]!.c) m) = X := ⟨_, rfl⟩
                  rw [hX]
                  have HXX := Lib.hid hX
                  clear hX
                  go_wp2_with fail
                  go_quiet (fail)
                  go_wp2_with fail
                  go_roundg (n - (m + 1))
                  case rel => exact ⟨m + 1, by omega, rfl, by go_num, by rw [HX.out, HXX.out], below_drewN HBX.out _⟩
                  case measure => have := HG2.out; omega
              · have HX := Lib.hid (HWA.out (by rw [HWM.out, decide_eq_false h1, Bool.false_and]))
                have h1d : decide (0 < lm) = false := decide_eq_false h1
                obtain ⟨X, hX⟩ : ∃ X, bI (bestOf (wpB js (lensJ l) now) (fun i => js[i]!.c) m) = X := ⟨_, rfl⟩
                rw [hX]
                have HXX := Lib.hid hX
                clear hX
                go_wp2_with fail
                go_quiet (fail)
                go_wp2_with fail
                go_roundg (n - (m + 1))
                case rel => exact ⟨m + 1, by omega, rfl, by go_num, by rw [HX.out, HXX.out], below_drewN HBX.out _⟩
                case measure => have := HG2.out; omega
            · obtain rfl : n = m := by omega
              have HTM := Lib.hid (HBW.out.trans (hbm.mono HBW.out.size))
              have hwp : 0 < workJ l := by have := HWZ.out; omega
              obtain ⟨f1, hf1⟩ : ∃ f1, workJ l = f1 + 1 := ⟨workJ l - 1, by omega⟩
              have hlo2 := HLO.out.step hbm
              have hro2 := row_far HRW.out (Wr.of_below hbm wo.heap.size wo.heap.size) (.inl (by obtain ⟨_, h9, _⟩ := row_parts HRW.out; exact h9))
              have eN : IntKind.i64.wrap (now + 1) = now + 1 := IntWalk.i64_in _ (by omega)
              clear hbm HNY HSL HWA
              cases ho : bestOf (wpB js (lensJ l) now) (fun i => js[i]!.c) n with
              | none =>
                obtain ⟨hi1, hi2⟩ := HLEFT.out.idle HJ.out hwp now (by rw [HN.out]; exact ho)
                have HNX : Hid (R = runP (workJ l) (now + 1) l out) := by
                  have h9 := hr.out
                  rw [hf1] at h9 ⊢
                  rw [h9]
                  exact runP_tick hi1.symm
                have hb0 : bI none = -1 := rfl
                rw [hb0]
                have HLO2 := Lib.hid hlo2
                have HRO2 := Lib.hid hro2
                have HF1 := Lib.hid hf1
                clear ho hb0 hi1 hr hlo2 hro2 hf1
                go_wp2_with fail
                go_roundg (workJ l + (1001 - (now + 1)).toNat)
                case rel => exact ⟨now + 1, l, out, rfl, HF4.out, HLEFT.out, HNX, HOL.out, by omega, by have := HF4.out; omega, rfl, by rw [HDN.out], HLO2.out, HRO2.out, HTM.out⟩
                case measure => have := HGK.out; omega
              | some k =>
                have hpk : pickOf (rkC now) now l = some k := by rw [HLEFT.out.pick now, HN.out]; exact ho
                have hbz := HLEFT.out.busy HJ.out now (by rw [HN.out]; exact ho)
                obtain ⟨k1, k2⟩ := bestOf_some ho
                have hkl : k < l.length := by rw [HLL.out]; exact k1
                have hkw : isW now l[k]! = true := by rw [HLEFT.out.waits now (by rw [HN.out]; exact k1)]; exact k2
                have hkj := (isW_t.1 hkw).1
                have hbd : 1 ≤ l[k]!.l ∧ l[k]!.l ≤ 20 := by
                  rcases HLEFT.out.at_ k (by rw [HN.out]; exact k1) with ⟨_, _, h3, h4⟩ | h1
                  · exact ⟨h3, h4⟩
                  · rw [h1, isJ_zero] at hkj; cases hkj
                have HNX : Hid (R = runP f1 (now + 1) (l.set k (nextJ l[k]!)) (if l[k]!.l = 1 then out.set k (now + 1) else out)) := by
                  have h9 := hr.out
                  rw [hf1, runP_step (by rw [hbz]; exact hpk), hbz] at h9
                  exact h9
                have hwn := workJ_next hkl hbd.1
                have HCNT : Hid (f1 = workJ (l.set k (nextJ l[k]!))) := by show _ = _; omega
                have HLFT2 := Lib.hid (HLEFT.out.next k (by rw [HN.out]; exact k1) hkj)
                have HLS := Lib.hid (lensJ_set l k (by omega))
                have HCS : Hid (l[k]!.l = 1 → cntJ l = cntJ (l.set k jbZ) + 1) := fun _ => cntJ_set hkl hkj
                have HCS2 : Hid (l[k]!.l ≠ 1 → cntJ (l.set k (nextJ l[k]!)) = cntJ l) := by
                  intro hne
                  have h8 := cntJ_set hkl hkj
                  have h9 := cntJ_set (l := l.set k (nextJ l[k]!)) (k := k) (by rw [List.length_set]; exact hkl) (by
                    rw [set_get l k _ k hkl, if_pos rfl]
                    unfold nextJ
                    rw [if_neg hne]
                    exact isJ_ok (by show 1 ≤ l[k]!.l - 1; omega))
                  rw [List.set_set] at h9
                  omega
                obtain ⟨bl, c7, hvl, hb0, hb1, hbls, xl, xf, hput⟩ := hlo2.put_at k (by rw [lensJ_len]; exact hkl)
                rw [lensJ_len, HLL.out] at hvl
                injection hvl with hA7 _ hC7
                subst hA7; subst hC7
                rw [lensJ_at l k hkl] at xl
                obtain ⟨LL, hLL⟩ : ∃ x, l[k]!.l = x := ⟨_, rfl⟩
                rw [hLL] at HNX HLS hbd xl HCS HCS2
                have HLLE := Lib.hid hLL
                obtain ⟨M, hM⟩ : ∃ x, LL - 1 = x := ⟨_, rfl⟩
                have eM : IntKind.i64.wrap (LL - 1) = M := by rw [IntWalk.i64_in _ (by omega), hM]
                rw [hM] at HLS
                have HPUT : Hid (OI 3 (wr.setCell ⟨bl, k, none⟩ (.int .i64 M)) w1.heap.size ge (.slice (some ⟨bl, 0, none⟩) n cl) (lensJ (l.set k (nextJ l[k]!)))) := by
                  have h9 := hput M
                  rw [HLS.out] at h9
                  exact h9
                have hwl := (Wr.refl bl (bl + 1) wr).at k (.int .i64 M)
                have HRO2 := Lib.hid (row_far hro2 hwl (.inr (by omega)))
                have hki : (k : Int) < (n : Int) := by omega
                have y1 : (wr.setCell ⟨bl, k, none⟩ (.int .i64 M)).cell? ⟨bl, k, none⟩ = some (.int .i64 M) := by
                  obtain ⟨b9, c8, hv9, _, _, _, z1, _, _⟩ := HPUT.out.put_at k (by rw [lensJ_len, List.length_set]; exact hkl)
                  injection hv9 with hA9
                  injection hA9 with hA9
                  injection hA9 with hA9
                  subst hA9
                  rw [← HLS.out, getD_set _ k k M (by rw [lensJ_len]; exact hkl), if_pos rfl] at z1
                  exact z1
                have HB4 : Hid (Below w.heap.size w (wr.setCell ⟨bl, k, none⟩ (.int .i64 M))) := HTM.out.setCell (p := ⟨bl, k, none⟩) (by show w.heap.size ≤ bl; omega) _
                have hMe : (LL = 1 ↔ M = 0) := by omega
                have hbk0 : ¬ ((k : Int) < 0) := by omega
                have hb9 : bI (some k) = (k : Int) := rfl
                have HF1 := Lib.hid hf1
                rw [hb9]
                clear ho hpk hbz k2 hkw hkj hr hlo2 hro2 hput hLL hM hwn hb9 hwl hf1
                by_cases hz : M = 0
                · have hone : LL = 1 := hMe.2 hz
                  have hq : (M == 0) = true := by simp [hz]
                  obtain ⟨_, hges, _⟩ := row_parts HRO2.out
                  have hcy : ∃ u, (wr.setCell ⟨bl, k, none⟩ (.int .i64 M)).cell? ⟨ge, k, none⟩ = some u := by
                    rw [World.ownsRow.cellAt HRO2.out k (by omega)]
                    exact ⟨_, List.getElem?_eq_getElem (by rw [ics_length, HOL.out]; omega)⟩
                  obtain ⟨u0, hcu⟩ := hcy
                  have hfz := World.ownsRow.frozenAt HRO2.out k
                  have HRO3 := Lib.hid (out_row (k := k) (x := now + 1) HRO2.out)
                  have HPUT3 := Lib.hid (HPUT.out.far ((Wr.refl ge (ge + 1) _).at k (.int .i64 (now + 1))) (.inl (Nat.le_refl _)))
                  have HB5 : Hid (Below w.heap.size w ((wr.setCell ⟨bl, k, none⟩ (.int .i64 M)).setCell ⟨ge, k, none⟩ (.int .i64 (now + 1)))) := HB4.out.setCell (p := ⟨ge, k, none⟩) (by show w.heap.size ≤ ge; omega) _
                  have HC9 := Lib.hid (HCS.out hone)
                  have hnx : nextJ l[k]! = jbZ := by unfold nextJ; rw [if_pos (HLLE.out.trans hone)]
                  rw [hnx] at HNX HCNT HLFT2 HPUT3
                  rw [if_pos hone] at HNX
                  have eD : IntKind.i64.wrap (dn + 1) = dn + 1 := IntWalk.i64_in _ (by omega)
                  clear hMe hz hnx hone
                  go_wp2_with fail
                  go_roundg (f1 + (1001 - (now + 1)).toNat)
                  case rel => exact ⟨now + 1, _, _, by rw [← HCNT.out], by have := HCNT.out; have := HF1.out; have := HF4.out; omega, HLFT2.out, by rw [← HCNT.out]; exact HNX.out, by rw [List.length_set]; exact HOL.out, by omega, by have := HCNT.out; have := HF1.out; omega, rfl, by have := HC9.out; have := HDN.out; congr 1; omega, HPUT3.out, HRO3.out, HB5.out⟩
                  case measure => have := HGK.out; have := HF1.out; omega
                · have hne : LL ≠ 1 := fun h9 => hz (hMe.1 h9)
                  have hq : (M == 0) = false := by simp [hz]
                  have HC9 := Lib.hid (HCS2.out hne)
                  rw [if_neg hne] at HNX
                  clear hMe hz hne
                  go_wp2_with fail
                  go_roundg (f1 + (1001 - (now + 1)).toNat)
                  case rel => exact ⟨now + 1, _, _, by rw [← HCNT.out], by have := HCNT.out; have := HF1.out; have := HF4.out; omega, HLFT2.out, by rw [← HCNT.out]; exact HNX.out, HOL.out, by omega, by have := HCNT.out; have := HF1.out; omega, rfl, by rw [HC9.out, HDN.out], HPUT.out, HRO2.out, HB4.out⟩
                  case measure => have := HGK.out; have := HF1.out; omega
end Go.Proofs.Ytdggaeipfbacmaa
