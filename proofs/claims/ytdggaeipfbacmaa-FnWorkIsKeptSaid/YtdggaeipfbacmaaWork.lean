/-
  WorkLeft: both sides.
-/
import Derived.Test.YtdggaeipfbacmaaBusy
import Derived.Test.YtdggaeipfbacmaaMathWork
namespace Go.Proofs.Ytdggaeipfbacmaa
open Go.RowKit
set_option maxRecDepth 100000
set_option linter.unusedVariables false

theorem l1Most_any (a b : Int) (w : World) : Calls Try.prog 33 #[.int .i64 a, .int .i64 b] w fun e w' => e = .returned (.int .i64 (mxT a b)) ∧ w = w' := by
  by_cases h : b < a
  · have e : mxT a b = a := if_pos h
    rw [e]
    clear e
    go_enter Try.func33, Try.ntmps33
    go_wp2
    go_ret
    exact ⟨rfl, rfl⟩
  · have e : mxT a b = b := if_neg h
    rw [e]
    clear e
    go_enter Try.func33, Try.ntmps33
    go_wp2
    go_ret
    exact ⟨rfl, rfl⟩
theorem mxT_zero (x : Int) : mxT 0 x = mx0 x := by unfold mxT mx0; split <;> split <;> omega
/-- A row of lists that are read. -/
theorem RS.row2 {w : World} {B : Nat} {A : Option Addr} {n c : Nat} {L : List (List Int)} (h : RS w B (.slice A n c) L) (j : Nat) (hj : j < L.length) (h2 : (L.getD j []).length = 2) :
    ∃ b off b2 off2 c2, A = some ⟨b, off, none⟩ ∧ n = L.length ∧ b < B ∧ b2 < B ∧ w.cell? ⟨b, off + j, none⟩ = some (.slice (some ⟨b2, off2, none⟩) 2 c2) ∧ w.cell? ⟨b2, off2, none⟩ = some (.int .i64 ((L.getD j []).getD 0 0)) ∧ w.cell? ⟨b2, off2 + 1, none⟩ = some (.int .i64 ((L.getD j []).getD 1 0)) := by
  obtain ⟨V, A', c', hv, hV, hlc, hc, hr⟩ := h
  injection hv with h1 h3 h4
  subst h1
  obtain ⟨b, off, hA, hb, hcell⟩ := hc (by omega)
  obtain ⟨A2, c2, hv2, _, hc2⟩ := hr j hj
  obtain ⟨b2, off2, hA2, hb2, hcell2⟩ := hc2 (by omega)
  refine ⟨b, off, b2, off2, c2, hA, h3, hb, hb2, ?_, by have := hcell2 0 (by omega); rwa [Nat.add_zero] at this, hcell2 1 (by omega)⟩
  rw [hcell j hj, hv2, hA2, h2]
set_option maxHeartbeats 8000000 in
theorem specWorkLeft_any (v : Value) (js : List Jb) (tick : Int) (w : World) (h : RJbS w w.heap.size v js) (hn : js.length ≤ 1048576) (hx : (Lit.int .i64 tick).wf = true) :
    Calls Try.prog 16 #[v, .int .i64 tick] w (RetV w (.tuple #[.int .i64 (workOf js tick).1, .bool (workOf js tick).2])) := by
  have HA := Lib.hid (prJobs_any v js w h hn)
  cases hg : areJb js
  · have HF : workOf js tick = (0, false) := by simp [workOf, hg]
    rw [HF]
    rw [hg] at HA
    clear hg HF
    go_enter Try.func16, Try.ntmps16
    go_wp2_with fail
    refine HA.out.mono ?_; rintro e w1 ⟨rfl, T⟩
    go_wp2_with fail
    go_ret2
    exact ⟨rfl, T⟩
  cases hwa : wi tick 0 5000
  · have HF : workOf js tick = (0, false) := by simp [workOf, hwa]
    rw [HF]
    rw [hg] at HA
    clear hg HF
    go_enter Try.func16, Try.ntmps16
    go_wp2_with fail
    refine HA.out.mono ?_; rintro e w1 ⟨rfl, T⟩
    go_wp2_with (go_at_call 32; refine (l1In_is _ _ _ _ false hwa).mono ?_; rintro e w' ⟨rfl, rfl⟩)
    go_ret2
    exact ⟨rfl, T⟩
  have htk : 0 ≤ tick ∧ tick ≤ 5000 := by simpa [wi] using hwa
  have HF : workOf js tick = (mx0 (fE js (cT js tick js.length) - tick), true) := by simp [workOf, hg, hwa]
  rw [HF]
  have hn2 := (areJb_in hg).1
  have HTK := Lib.hid (fun k (hk : k < js.length) => tick_at' hg hk)
  have HPRE := Lib.hid (fun m hm => cT_pre hg tick m hm)
  have HMON := Lib.hid (fun (i j : Nat) (hij : i ≤ j) (hj : j < js.length) => tick_mono' hg hij hj)
  have HFE := Lib.hid (fun m hm => fE_bd hg m hm)
  have hjc : ∃ A c, v = .slice A js.length c ∧ ∀ k, k < js.length → ∃ b off, A = some ⟨b, off, none⟩ ∧ b < w.heap.size ∧ w.cell? ⟨b, off + k * 3, none⟩ = some (.int .i64 js[k]!.t) ∧ w.cell? ⟨b, off + k * 3 + 1, none⟩ = some (.int .i64 js[k]!.c) ∧ w.cell? ⟨b, off + k * 3 + 2, none⟩ = some (.int .i64 js[k]!.l) := by
    obtain ⟨A, c, hv, _⟩ := id h
    refine ⟨A, c, hv, fun k hk => ?_⟩
    obtain ⟨b, off, c9, hv9, hb, e0, e1, e2⟩ := left_cells h k hk
    rw [hv] at hv9
    injection hv9 with hA9
    exact ⟨b, off, hA9, hb, e0, e1, e2⟩
  obtain ⟨A, c, rfl, hjc⟩ := hjc
  obtain ⟨R, hR⟩ : ∃ R, mx0 (fE js (cT js tick js.length) - tick) = R := ⟨_, rfl⟩
  rw [hR]
  obtain ⟨n, hN⟩ : ∃ n, js.length = n := ⟨_, rfl⟩
  rw [hg] at HA
  rw [hN] at hn2 HA HTK hjc hR HPRE HMON HFE ⊢
  have hn' : (n : Int) ≤ 20 := by omega
  have HJC := Lib.hid hjc
  have HR := Lib.hid hR
  clear hg HF hN hn h hjc hR hx
  go_enter Try.func16, Try.ntmps16
  go_wp2_with fail
  refine HA.out.mono ?_; rintro e w1 ⟨rfl, T1⟩
  have hT1 := T1.size
  have HT1 := Lib.hid T1
  clear T1
  go_wp2_with (first | (go_at_call 32; refine (l1In_is _ _ _ _ true hwa).mono ?_; rintro e w' ⟨rfl, rfl⟩) | fail)
  have HEND : Hid (∀ (k : Nat), k ≤ n → cT js tick k = k → (k = n ∨ (k < n ∧ tick < js[k]!.t)) → mx0 (fE js k - tick) = R) := fun k hk h1 h2 => by
    rw [← HR.out]
    have : cT js tick n = k := by
      rcases h2 with h2 | ⟨h2, h3⟩
      · rw [← h2]; exact h1
      · have key : ∀ m, k ≤ m → m ≤ n → cT js tick m = k := by
          intro m
          induction m with
          | zero => intro h8 _; have : k = 0 := by omega
                    rw [this] at h1 ⊢; exact h1
          | succ m ih =>
            intro h8 h9
            by_cases e : k = m + 1
            · rw [← e]; exact h1
            · have h7 := HMON.out k m (by omega) (by omega)
              rw [cT, ih (by omega) (by omega), if_neg (by omega)]
              rfl
        exact key n (by omega) (Nat.le_refl _)
    rw [this]
  have hlb : ∀ k, k ≤ n → 0 ≤ lastT js k ∧ lastT js k ≤ 1000 := fun k hk => by
    cases k with
    | zero => exact ⟨Int.le_refl _, by simp [lastT]⟩
    | succ k => have := HTK.out k (by omega); exact ⟨this.1, this.2.1⟩
  have HLB := Lib.hid hlb
  clear hlb
  go_loopw [6, 7, 20] (fun a b i wr => ∃ k : Nat, k ≤ n ∧ i = .int .i64 k ∧ cT js tick k = k ∧ b = .int .i64 (lastT js k) ∧ a = .int .i64 (fE js k - lastT js k) ∧ Below w1.heap.size w1 wr)
    (fun _ _ i _ => n - (intOf i).toNat)
  case atStart => exact ⟨0, Nat.zero_le _, rfl, rfl, rfl, rfl, Below.refl _ _⟩
  case round =>
    obtain ⟨k, hk, rfl, hck, rfl, rfl, hbw⟩ := hrel
    have HCK := Lib.hid hck
    have HTW := Lib.hid (HT1.out.trans (hbw.mono hT1))
    have hsw := hbw.size
    have lb := HLB.out k hk
    have fb := HFE.out k hk
    have HBW := Lib.hid hbw
    clear hbw hck
    by_cases hlt : k < n
    · have hki : (k : Int) < (n : Int) := by omega
      obtain ⟨b, off, hAA, hb, e0, e1, e2⟩ := HJC.out k hlt
      subst hAA
      have y0 := (HTW.out.cell (p := ⟨b, off + k * 3, none⟩) hb).trans e0
      have y1 := (HTW.out.cell (p := ⟨b, off + k * 3 + 1, none⟩) hb).trans e1
      have y2 := (HTW.out.cell (p := ⟨b, off + k * 3 + 2, none⟩) hb).trans e2
      have tk := HTK.out k hlt
      have HES : Hid (fE js (k + 1) = (if fE js k < js[k]!.t then js[k]!.t else fE js k) + js[k]!.l) := rfl
      have HLS : Hid (lastT js (k + 1) = js[k]!.t) := rfl
      have HCS : Hid (js[k]!.t ≤ tick → cT js tick (k + 1) = k + 1) := fun h9 => by
        show cT js tick k + _ = _
        rw [HCK.out, if_pos h9]
      have HEK : Hid (tick < js[k]!.t → mx0 (fE js k - tick) = R) := fun h9 => HEND.out k hk HCK.out (.inr ⟨hlt, h9⟩)
      have HLK : Hid (lastT js k ≤ js[k]!.t) := by
        cases k with
        | zero => show (0 : Int) ≤ _; exact tk.1
        | succ k => exact HMON.out k (k + 1) (by omega) hlt
      generalize js[k]! = y at y0 y1 y2 tk HES HLS HCS HEK HLK
      obtain ⟨yt, yc, yl⟩ := y
      simp only at y0 y1 y2 tk HES HLS HCS HEK HLK
      clear e0 e1 e2
      generalize fE js k = F at HES HEK fb ⊢
      generalize lastT js k = LT at lb HLK ⊢
      have lk := HLK.out
      have HBX := Lib.hid (HBW.out.alloc hsw (.cells #[.int .i64 yt, .int .i64 yc, .int .i64 yl] 36))
      have hle2 : HT1.out.size = HT1.out.size := rfl
      clear hle2
      have hb1 := HT1.out
      have HTB := Lib.hid (hb1.trans (HBX.out.mono hT1))
      clear hb1
      by_cases hgt : tick < yt
      · have hq : mxT 0 (F - LT - (tick - LT)) = R := by rw [mxT_zero, ← HEK.out hgt]; congr 1; omega
        have HQ := Lib.hid hq
        clear hq
        go_wp2_with fail
        go_wp2_with (go_at_call 33; refine (l1Most_any _ _ _).mono ?_; rintro e w' ⟨rfl, rfl⟩)
        go_ret2
        exact ⟨by rw [HQ.out]; rfl, HTB.out⟩
      · have HC2 := Lib.hid (HCS.out (by omega))
        have HM : Hid (mxT 0 (F - LT - (yt - LT)) + yl = fE js (k + 1) - lastT js (k + 1)) := by
          show _ = _
          rw [mxT_zero, HES.out, HLS.out]
          unfold mx0
          split <;> split <;> omega
        have hmb : 0 ≤ mxT 0 (F - LT - (yt - LT)) ∧ mxT 0 (F - LT - (yt - LT)) ≤ 3000 := by
          rw [mxT_zero]; unfold mx0; split <;> omega
        obtain ⟨MV, hMV⟩ : ∃ x, mxT 0 (F - LT - (yt - LT)) = x := ⟨_, rfl⟩
        rw [hMV] at HM hmb
        have HMO : Hid (∀ W : World, Calls Try.prog 33 #[.int .i64 0, .int .i64 (F - LT - (yt - LT))] W fun e w' => e = .returned (.int .i64 MV) ∧ w' = W) := fun W => by
          have := l1Most_any 0 (F - LT - (yt - LT)) W
          rw [hMV] at this
          exact this.mono fun e w' ⟨h1, h2⟩ => ⟨h1, h2.symm⟩
        have eA : IntKind.i64.wrap (yt - LT) = yt - LT := IntWalk.i64_in _ (by omega)
        have eB : IntKind.i64.wrap (F - LT - (yt - LT)) = F - LT - (yt - LT) := IntWalk.i64_in _ (by omega)
        have eC : IntKind.i64.wrap (MV + yl) = MV + yl := IntWalk.i64_in _ (by omega)
        clear hMV
        go_wp2_with fail
        go_quiet ((go_at_call 33; exact Calls.quiet_of_same (HMO.out _)))
        go_wp2_with fail
        go_roundw
        case rel => exact ⟨k + 1, by omega, by go_num, HC2.out, by rw [HLS.out], by rw [HM.out], below_drewN HBX.out _⟩
        case measure => simp [intOf]; omega
    · obtain rfl : n = k := by omega
      have hq : mxT 0 (fE js n - lastT js n - (tick - lastT js n)) = R := by
        rw [mxT_zero, ← HEND.out n hk HCK.out (.inl rfl)]; congr 1; omega
      generalize fE js n = F at hq fb ⊢
      generalize lastT js n = LT at hq lb ⊢
      have HQ := Lib.hid hq
      clear hq
      go_wp2_with fail
      go_wp2_with (go_at_call 33; refine (l1Most_any _ _ _).mono ?_; rintro e w' ⟨rfl, rfl⟩)
      go_ret2
      exact ⟨by rw [HQ.out]; rfl, HTW.out⟩
set_option maxHeartbeats 8000000 in
theorem implWorkLeft_any (v : Value) (js : List Jb) (tick : Int) (w : World) (h : RJbS w w.heap.size v js) (hn : js.length ≤ 1048576) (hx : (Lit.int .i64 tick).wf = true) :
    Calls Try.prog 15 #[v, .int .i64 tick] w (RetV w (.tuple #[.int .i64 (workOf js tick).1, .bool (workOf js tick).2])) := by
  have HA := Lib.hid (implAreJobs_any v js w h hn)
  cases hg : areJb js
  · have HF : workOf js tick = (0, false) := by simp [workOf, hg]
    rw [HF]
    rw [hg] at HA
    clear hg HF
    go_enter Try.func15, Try.ntmps15
    go_wp2_with fail
    refine HA.out.mono ?_; rintro e w1 ⟨rfl, T⟩
    go_wp2_with fail
    go_ret2
    exact ⟨rfl, T⟩
  cases hwa : wi tick 0 5000
  · have HF : workOf js tick = (0, false) := by simp [workOf, hwa]
    rw [HF]
    rw [hg] at HA
    clear hg HF
    go_enter Try.func15, Try.ntmps15
    go_wp2_with fail
    refine HA.out.mono ?_; rintro e w1 ⟨rfl, T⟩
    go_wp2_with (go_at_call 31; refine (isWithin_is _ _ _ _ false hwa).mono ?_; rintro e w' ⟨rfl, rfl⟩)
    go_ret2
    exact ⟨rfl, T⟩
  have htk : 0 ≤ tick ∧ tick ≤ 5000 := by simpa [wi] using hwa
  have HF : workOf js tick = (mx0 (fE js (cT js tick js.length) - tick), true) := by simp [workOf, hg, hwa]
  rw [HF]
  have hn2 := (areJb_in hg).1
  have HTK := Lib.hid (fun k (hk : k < js.length) => tick_at' hg hk)
  have HWI := Lib.hid (work_is hg htk.1 js.length (Nat.le_refl _))
  have HAB := Lib.hid (fun m hm => aT_bd hg tick m hm)
  have HBR := Lib.hid ((bp_rows hg js.length (Nat.le_refl _)).1)
  have HRW := Lib.hid (bpL_rows hg js.length (Nat.le_refl _))
  have HOB := Lib.hid (fun q hq => oL_bd (tick := tick) htk (bp_rows hg js.length (Nat.le_refl _)).1 q hq)
  have HLE := Lib.hid (bpL_len hg js.length (Nat.le_refl _))
  have HFS := Lib.hid (fun (w' : World) (hb : Below w.heap.size w w') => firstStarts_any v js w' ((h.step hb (Nat.le_refl _)).more hb.size) hg)
  have HST := Lib.hid (fun (u : Value) (w' : World) (hb : Below w.heap.size w w') (hu : RI w' w'.heap.size u (fifo js)) => stretches_first v u js w' ((h.step hb (Nat.le_refl _)).more hb.size) hu hg)
  have HFI := Lib.hid (fifo_is hg)
  have hjc : ∃ A c, v = .slice A js.length c ∧ ∀ k, k < js.length → ∃ b off, A = some ⟨b, off, none⟩ ∧ b < w.heap.size ∧ w.cell? ⟨b, off + k * 3, none⟩ = some (.int .i64 js[k]!.t) ∧ w.cell? ⟨b, off + k * 3 + 1, none⟩ = some (.int .i64 js[k]!.c) ∧ w.cell? ⟨b, off + k * 3 + 2, none⟩ = some (.int .i64 js[k]!.l) := by
    obtain ⟨A, c, hv, _⟩ := id h
    refine ⟨A, c, hv, fun k hk => ?_⟩
    obtain ⟨b, off, c9, hv9, hb, e0, e1, e2⟩ := left_cells h k hk
    rw [hv] at hv9
    injection hv9 with hA9
    exact ⟨b, off, hA9, hb, e0, e1, e2⟩
  obtain ⟨A, c, rfl, hjc⟩ := hjc
  obtain ⟨L, hL⟩ : ∃ L, bpL js js.length = L := ⟨_, rfl⟩
  rw [hL] at HWI HBR HRW HOB HLE HST
  obtain ⟨n, hN⟩ : ∃ n, js.length = n := ⟨_, rfl⟩
  rw [hg] at HA
  rw [hN] at hn2 HA HTK hjc HWI HAB HFS HST HLE ⊢
  have hn' : (n : Int) ≤ 20 := by omega
  have HJC := Lib.hid hjc
  clear hg HF hN hn h hjc hL hx
  go_enter Try.func15, Try.ntmps15
  go_wp2_with fail
  refine HA.out.mono ?_; rintro e w1 ⟨rfl, T1⟩
  have hT1 := T1.size
  have HT1 := Lib.hid T1
  clear T1
  go_wp2_with (first | (go_at_call 31; refine (isWithin_is _ _ _ _ true hwa).mono ?_; rintro e w' ⟨rfl, rfl⟩) | fail)
  go_loopw [6, 21] (fun a i wr => ∃ k : Nat, k ≤ n ∧ i = .int .i64 k ∧ a = .int .i64 (aT js tick k) ∧ Below w1.heap.size w1 wr)
    (fun _ i _ => n - (intOf i).toNat)
  case atStart => exact ⟨0, Nat.zero_le _, rfl, rfl, Below.refl _ _⟩
  case round =>
    obtain ⟨k, hk, rfl, rfl, hbw⟩ := hrel
    have hsw := hbw.size
    have HBW := Lib.hid hbw
    have HTW := Lib.hid (HT1.out.trans (hbw.mono hT1))
    have ab := HAB.out k hk
    clear hbw
    by_cases hlt : k < n
    · have hki : (k : Int) < (n : Int) := by omega
      obtain ⟨b, off, hAA, hb, e0, e1, e2⟩ := HJC.out k hlt
      subst hAA
      have y0 := (HTW.out.cell (p := ⟨b, off + k * 3, none⟩) hb).trans e0
      have y1 := (HTW.out.cell (p := ⟨b, off + k * 3 + 1, none⟩) hb).trans e1
      have y2 := (HTW.out.cell (p := ⟨b, off + k * 3 + 2, none⟩) hb).trans e2
      have tk := HTK.out k hlt
      have HAS : Hid (aT js tick (k + 1) = aT js tick k + if js[k]!.t ≤ tick then js[k]!.l else 0) := rfl
      generalize js[k]! = y at y0 y1 y2 tk HAS
      obtain ⟨yt, yc, yl⟩ := y
      simp only at y0 y1 y2 tk HAS
      clear e0 e1 e2
      generalize aT js tick k = S at HAS ab ⊢
      have HBX := Lib.hid (HBW.out.alloc hsw (.cells #[.int .i64 yt, .int .i64 yc, .int .i64 yl] 36))
      by_cases hle : yt ≤ tick
      · have HX : Hid (aT js tick (k + 1) = S + yl) := by show _ = _; rw [HAS.out, if_pos hle]
        go_wp2_with fail
        go_roundw
        case rel => exact ⟨k + 1, by omega, by go_num, by rw [HX.out], HBX.out⟩
        case measure => simp [intOf]; omega
      · have HX : Hid (aT js tick (k + 1) = S) := by show _ = _; rw [HAS.out, if_neg hle, Int.add_zero]
        go_wp2_with fail
        go_roundw
        case rel => exact ⟨k + 1, by omega, by go_num, by rw [HX.out], HBX.out⟩
        case measure => simp [intOf]; omega
    · obtain rfl : n = k := by omega
      have hsT := HTW.out.size
      go_wp2_with fail
      refine (HFS.out _ HTW.out).mono ?_; rintro e w2 ⟨u, rfl, ho, hb2⟩
      rw [HFI.out] at ho
      have T2 := HTW.out.trans (hb2.mono hsT)
      have hT2 := T2.size
      have HSS := Lib.hid (HST.out u w2 T2 ho.ri)
      obtain ⟨A2, c2, rfl, _⟩ := ho.ri
      clear ho
      go_wp2_with fail
      refine HSS.out.mono ?_; rintro e w3 ⟨z, rfl, hos, hb3⟩
      have HT3 := Lib.hid (T2.trans (hb3.mono hT2))
      have HRS := Lib.hid hos.rd
      have hz : ∃ Az cz, z = .slice Az L.length cz := by obtain ⟨V, A9, c9, hv, _⟩ := hos.rd; exact ⟨A9, c9, hv⟩
      obtain ⟨Az, cz, rfl⟩ := hz
      clear hos hb3 T2 hb2
      obtain ⟨q0, hq0⟩ : ∃ q0, L.length = q0 := ⟨_, rfl⟩
      have HQ0 := Lib.hid hq0
      have HLE2 := HLE.out
      rw [hq0] at HBR HOB HLE2 HRS ⊢
      rw [hq0] at HWI
      clear hq0
      have hq0i : (q0 : Int) ≤ 20 := by omega
      generalize aT js tick n = S at HWI ab ⊢
      go_wp2_with fail
      go_loopw [6, 39] (fun a i wr => ∃ q : Nat, q ≤ q0 ∧ i = .int .i64 q ∧ a = .int .i64 (S - oL tick L q) ∧ Below w3.heap.size w3 wr)
        (fun _ i _ => q0 - (intOf i).toNat)
      case atStart => exact ⟨0, Nat.zero_le _, rfl, by simp [oL], Below.refl _ _⟩
      case round =>
        obtain ⟨q, hq, rfl, rfl, hbq⟩ := hrel
        have ob := HOB.out q hq
        have HBQ := Lib.hid hbq
        by_cases hlt : q < q0
        · have hqi : (q : Int) < (q0 : Int) := by omega
          have br := HBR.out q hlt
          have ob1 := HOB.out (q + 1) (by omega)
          have rw2 := HRW.out q (by rw [HQ0.out]; exact hlt)
          have hrs := HRS.out
          rw [← HQ0.out] at hrs
          obtain ⟨b8, off8, b9, off9, c9, hAz, _, hb8, hb9, x0, x1, x2⟩ := hrs.row2 q (by rw [HQ0.out]; exact hlt) rw2
          subst hAz
          have z0 := (hbq.cell (p := ⟨b8, off8 + q, none⟩) hb8).trans x0
          have z1 := (hbq.cell (p := ⟨b9, off9, none⟩) hb9).trans x1
          have z2 := (hbq.cell (p := ⟨b9, off9 + 1, none⟩) hb9).trans x2
          have HOS : Hid (oL tick L (q + 1) = oL tick L q + ovl tick (L.getD q [])) := rfl
          have HOV : Hid (ovl tick (L.getD q []) = mxT ((if (L.getD q []).getD 1 0 < tick then (L.getD q []).getD 1 0 else tick) - (L.getD q []).getD 0 0) 0) := rfl
          clear x0 x1 x2 rw2 hbq hrs
          generalize (L.getD q []).getD 0 0 = r0 at z1 br HOV
          generalize (L.getD q []).getD 1 0 = r1 at z2 br HOV
          generalize ovl tick (L.getD q []) = O at HOS HOV
          generalize oL tick L q = OQ at ob HOS ⊢
          rw [HOS.out] at ob1
          have eQ : S - OQ - O = S - (OQ + O) := by omega
          have HEQ := Lib.hid eQ
          clear eQ
          by_cases hm : tick < r1
          · by_cases hx : tick - r0 < 0
            · have HO : Hid (O = 0) := by show _ = _; rw [HOV.out]; unfold mxT; split <;> split <;> omega
              rw [HO.out] at ob1 HEQ HOS
              go_wp2_with fail
              go_quiet (fail)
              go_wp2_with fail
              go_roundw
              case rel => exact ⟨q + 1, by omega, by go_num, by rw [HOS.out]; congr 1 <;> omega, below_drewN HBQ.out _⟩
              case measure => simp [intOf]; omega
            · have HO : Hid (O = tick - r0) := by show _ = _; rw [HOV.out]; unfold mxT; split <;> split <;> omega
              rw [HO.out] at ob1 HEQ HOS
              go_wp2_with fail
              go_quiet (fail)
              go_wp2_with fail
              go_roundw
              case rel => exact ⟨q + 1, by omega, by go_num, by rw [HOS.out]; congr 1 <;> omega, below_drewN HBQ.out _⟩
              case measure => simp [intOf]; omega
          · by_cases hx : r1 - r0 < 0
            · have HO : Hid (O = 0) := by show _ = _; rw [HOV.out]; unfold mxT; split <;> split <;> omega
              rw [HO.out] at ob1 HEQ HOS
              go_wp2_with fail
              go_quiet (fail)
              go_wp2_with fail
              go_roundw
              case rel => exact ⟨q + 1, by omega, by go_num, by rw [HOS.out]; congr 1 <;> omega, below_drewN HBQ.out _⟩
              case measure => simp [intOf]; omega
            · have HO : Hid (O = r1 - r0) := by show _ = _; rw [HOV.out]; unfold mxT; split <;> split <;> omega
              rw [HO.out] at ob1 HEQ HOS
              go_wp2_with fail
              go_quiet (fail)
              go_wp2_with fail
              go_roundw
              case rel => exact ⟨q + 1, by omega, by go_num, by rw [HOS.out]; congr 1 <;> omega, below_drewN HBQ.out _⟩
              case measure => simp [intOf]; omega
        · obtain rfl : q0 = q := by omega
          have hw : S - oL tick L q0 = mx0 (fE js (cT js tick n) - tick) := HWI.out
          rw [hw]
          have HB9 := Lib.hid (HT3.out.trans (HBQ.out.mono HT3.out.size))
          clear hw
          go_wp2_with fail
          go_ret2
          exact ⟨rfl, HB9.out⟩
end Go.Proofs.Ytdggaeipfbacmaa
