/-
  BusyPeriods: both sides.
-/
import Derived.Test.YtdggaeipfbacmaaStretch
import Derived.Test.YtdggaeipfbacmaaStarts
namespace Go.Proofs.Ytdggaeipfbacmaa
open Go.RowKit
set_option maxRecDepth 100000
set_option linter.unusedVariables false

/-- What a function of lists of ints and a bool leaves. -/
def RetSB (w : World) (L : List (List Int)) (b : Bool) (e : Ending) (w' : World) : Prop := ∃ u, e = .returned (.tuple #[u, .bool b]) ∧ OS 29 3 w' w.heap.size w'.heap.size u L ∧ Below w.heap.size w w'
def RetS (w : World) (L : List (List Int)) (e : Ending) (w' : World) : Prop := ∃ u, e = .returned u ∧ OS 29 3 w' w.heap.size w'.heap.size u L ∧ Below w.heap.size w w'
theorem Rows2.total {L : List (List Int)} (h : Rows2 L) : total L = 2 * L.length := by
  induction L with
  | nil => rfl
  | cons l L ih =>
    have h1 : l.length = 2 := by simpa using h 0 (by simp)
    have h2 := ih (fun j hj => by simpa using h (j + 1) (by simp; omega))
    rw [Proofs.Ytdggaeipfbacmaa.total, h1, h2, List.length_cons]
    omega
theorem bpL_rows {js : List Jb} (hA : areJb js = true) (m : Nat) (hm : m ≤ js.length) : Rows2 (bpL js m) := (bp_is hA m hm).2.2.2
theorem bpL_len {js : List Jb} (hA : areJb js = true) (m : Nat) (hm : m ≤ js.length) : (bpL js m).length ≤ m := by
  rw [← (bp_is hA m hm).1]
  exact strL_len _ _ _ _
theorem busyOf_len (js : List Jb) : (busyOf js).1.length ≤ 1048576 ∧ total (busyOf js).1 ≤ 1048576 := by
  unfold busyOf
  split
  · rename_i h
    have h1 := bpL_len h js.length (Nat.le_refl _)
    have h2 := (bpL_rows h js.length (Nat.le_refl _)).total
    have h3 := (areJb_in h).1
    simp only
    omega
  · simp [Proofs.Ytdggaeipfbacmaa.total]
/-- The stretches of the first one first. -/
theorem stretches_first (v u : Value) (js : List Jb) (w : World) (h : RJbS w w.heap.size v js) (h' : RI w w.heap.size u (fifo js)) (hA : areJb js = true) :
    Calls Try.prog 20 #[v, u] w (RetS w (bpL js js.length)) := by
  refine (stretchesOf_any v u js (fifo js) w h h' (fifo_given hA)).mono ?_
  rintro e w1 ⟨z, d, rfl, ho, hs, hos, hb⟩
  rw [fifo_len] at ho hs hos
  obtain rfl := fifo_order hA ho hs
  rw [(bp_is hA js.length (Nat.le_refl _)).1] at hos
  exact ⟨z, rfl, hos, hb⟩
set_option maxHeartbeats 2000000 in
theorem implBusyPeriods_any (v : Value) (js : List Jb) (w : World) (h : RJbS w w.heap.size v js) (hn : js.length ≤ 1048576) :
    Calls Try.prog 6 #[v] w (RetSB w (busyOf js).1 (busyOf js).2) := by
  have HA := Lib.hid (implAreJobs_any v js w h hn)
  cases hg : areJb js
  · have HF : busyOf js = ([], false) := by simp [busyOf, hg]
    rw [HF]
    rw [hg] at HA
    clear hg HF
    go_enter Try.func6, Try.ntmps6
    go_wp2_with fail
    refine HA.out.mono ?_; rintro e w1 ⟨rfl, T⟩
    go_wp2_with fail
    go_ret2
    exact ⟨_, rfl, OS.nil _ _ _ _ _, T⟩
  have HF : busyOf js = (bpL js js.length, true) := by simp [busyOf, hg]
  rw [HF]
  have HFS := Lib.hid (fun (w' : World) (hb : Below w.heap.size w w') => firstStarts_any v js w' ((h.step hb (Nat.le_refl _)).more hb.size) hg)
  have HST := Lib.hid (fun (u : Value) (w' : World) (hb : Below w.heap.size w w') (hu : RI w' w'.heap.size u (fifo js)) => stretches_first v u js w' ((h.step hb (Nat.le_refl _)).more hb.size) hu hg)
  have HFI := Lib.hid (fifo_is hg)
  obtain ⟨R, hR⟩ : ∃ R, bpL js js.length = R := ⟨_, rfl⟩
  rw [hR] at HST ⊢
  rw [hg] at HA
  clear hg HF hR
  go_enter Try.func6, Try.ntmps6
  go_wp2_with fail
  refine HA.out.mono ?_; rintro e w1 ⟨rfl, T1⟩
  have hT1 := T1.size
  go_wp2_with fail
  refine (HFS.out _ T1).mono ?_; rintro e w2 ⟨u, rfl, ho, hb2⟩
  rw [HFI.out] at ho
  have T2 := T1.trans (hb2.mono hT1)
  have hT2 := T2.size
  have HSS := Lib.hid (HST.out u w2 T2 ho.ri)
  obtain ⟨A2, c2, rfl, _⟩ := ho.ri
  clear ho
  go_wp2_with fail
  refine HSS.out.mono ?_; rintro e w3 ⟨z, rfl, hos, hb3⟩
  have HT3 := Lib.hid (T2.trans (hb3.mono hT2))
  have HOS := Lib.hid (hos.wide (lo' := w.heap.size) (hi' := w3.heap.size) hT2 (Nat.le_refl _))
  have hz : ∃ Az nz cz, z = .slice Az nz cz := by obtain ⟨V, A9, c9, hv, _⟩ := hos.rd; exact ⟨A9, _, c9, hv⟩
  obtain ⟨Az, nz, cz, rfl⟩ := hz
  clear hos hb3 T2 T1 hb2
  go_wp2_with fail
  go_ret2
  exact ⟨_, rfl, HOS.out, HT3.out⟩
theorem bp_nil {js : List Jb} {m : Nat} (h : (bpL js m).length = 0) : bpL js (m + 1) = bpL js m ++ [[js[m]!.t, js[m]!.t + js[m]!.l]] := by
  rw [bpL, if_neg (fun h9 => by omega)]
theorem bp_yes {js : List Jb} {m K1 : Nat} (h : (bpL js m).length = K1 + 1) (h2 : js[m]!.t ≤ ((bpL js m).getD K1 []).getD 1 0) :
    bpL js (m + 1) = (bpL js m).set K1 [((bpL js m).getD K1 []).getD 0 0, ((bpL js m).getD K1 []).getD 1 0 + js[m]!.l] := by
  have e : (bpL js m).length - 1 = K1 := by omega
  rw [bpL, e, if_pos ⟨by omega, h2⟩]
theorem bp_no {js : List Jb} {m K1 : Nat} (h : (bpL js m).length = K1 + 1) (h2 : ¬ js[m]!.t ≤ ((bpL js m).getD K1 []).getD 1 0) :
    bpL js (m + 1) = bpL js m ++ [[js[m]!.t, js[m]!.t + js[m]!.l]] := by
  have e : (bpL js m).length - 1 = K1 := by omega
  rw [bpL, e, if_neg (fun h9 => h2 h9.2)]
theorem bp_end {js : List Jb} (hA : areJb js = true) {m K1 : Nat} (hm : m ≤ js.length) (h : (bpL js m).length = K1 + 1) : 0 ≤ ((bpL js m).getD K1 []).getD 1 0 ∧ ((bpL js m).getD K1 []).getD 1 0 ≤ 1400 := by
  obtain ⟨_, h2, h3, _⟩ := bp_is hA m hm
  have hn := (areJb_in hA).1
  by_cases e : m = 0
  · have := h3 e; omega
  · have h4 := (h2 (by omega)).2
    have e2 : (bpL js m).length - 1 = K1 := by omega
    rw [e2] at h4
    have := fE_bd hA m hm
    omega
set_option maxHeartbeats 8000000 in
theorem specBusyPeriods_any (v : Value) (js : List Jb) (w : World) (h : RJbS w w.heap.size v js) (hn : js.length ≤ 1048576) :
    Calls Try.prog 7 #[v] w (RetSB w (busyOf js).1 (busyOf js).2) := by
  have HA := Lib.hid (prJobs_any v js w h hn)
  cases hg : areJb js
  · have HF : busyOf js = ([], false) := by simp [busyOf, hg]
    rw [HF]
    rw [hg] at HA
    clear hg HF
    go_enter Try.func7, Try.ntmps7
    go_wp2_with fail
    refine HA.out.mono ?_; rintro e w1 ⟨rfl, T⟩
    go_wp2_with fail
    go_ret2
    exact ⟨_, rfl, OS.nil _ _ _ _ _, T⟩
  have HF : busyOf js = (bpL js js.length, true) := by simp [busyOf, hg]
  rw [HF]
  have hn2 := (areJb_in hg).1
  obtain ⟨i0, hi, hz0, hz1, hz2⟩ := info_parts intS_info2
  have HTK := Lib.hid (fun k (hk : k < js.length) => tick_at' hg hk)
  have HRW := Lib.hid (fun m (hm : m ≤ js.length) => bpL_rows hg m hm)
  have HLE := Lib.hid (fun m (hm : m ≤ js.length) => bpL_len hg m hm)
  have HEN := Lib.hid (fun (m K1 : Nat) (hm : m ≤ js.length) => bp_end hg (K1 := K1) hm)
  have hjc : ∃ A c, v = .slice A js.length c ∧ ∀ k, k < js.length → ∃ b off, A = some ⟨b, off, none⟩ ∧ b < w.heap.size ∧ w.cell? ⟨b, off + k * 3, none⟩ = some (.int .i64 js[k]!.t) ∧ w.cell? ⟨b, off + k * 3 + 1, none⟩ = some (.int .i64 js[k]!.c) ∧ w.cell? ⟨b, off + k * 3 + 2, none⟩ = some (.int .i64 js[k]!.l) := by
    obtain ⟨A, c, hv, _⟩ := id h
    refine ⟨A, c, hv, fun k hk => ?_⟩
    obtain ⟨b, off, c9, hv9, hb, e0, e1, e2⟩ := left_cells h k hk
    rw [hv] at hv9
    injection hv9 with hA9
    exact ⟨b, off, hA9, hb, e0, e1, e2⟩
  obtain ⟨A, c, rfl, hjc⟩ := hjc
  obtain ⟨n, hN⟩ : ∃ n, js.length = n := ⟨_, rfl⟩
  rw [hg] at HA
  rw [hN] at hn2 HA HTK HRW HLE HEN hjc ⊢
  have hn' : (n : Int) ≤ 20 := by omega
  have HN := Lib.hid hN
  have HJC := Lib.hid hjc
  clear hg HF hN hn h hjc
  go_enter Try.func7, Try.ntmps7
  go_wp2_with fail
  refine HA.out.mono ?_; rintro e w1 ⟨rfl, T1⟩
  have hT1 := T1.size
  have HT1 := Lib.hid T1
  clear T1
  go_wp2_with fail
  go_loopg [4, 13] n (fun f z i wr => ∃ k : Nat, k ≤ n ∧ f = n - k ∧ i = .int .i64 k ∧ OS 29 3 wr w1.heap.size wr.heap.size z (bpL js k) ∧ Below w1.heap.size w1 wr)
  case atStart => exact ⟨0, Nat.zero_le _, rfl, rfl, OS.nil _ _ _ _ _, Below.refl _ _⟩
  case round =>
    obtain ⟨k, hk, hgk, rfl, hos, hbw⟩ := hrel
    have HGK := Lib.hid hgk
    have HBW := Lib.hid hbw
    have hs2 := hbw.size
    have HT2 := Lib.hid (HT1.out.trans (hbw.mono hT1))
    have hzv : ∃ Az cz, u4 = .slice Az (bpL js k).length cz := by obtain ⟨V, A9, c9, hv, _⟩ := hos.rd; exact ⟨A9, c9, hv⟩
    obtain ⟨Az, cz, rfl⟩ := hzv
    have hKl := HLE.out k hk
    have HOS := Lib.hid hos
    clear hbw hgk hos
    by_cases hlt : k < n
    · have hlt' : (k : Int) < (n : Int) := by omega
      obtain ⟨b, off, hAA, hb, e0, e1, e2⟩ := HJC.out k hlt
      subst hAA
      have y0 := (HT2.out.cell (p := ⟨b, off + k * 3, none⟩) hb).trans e0
      have y1 := (HT2.out.cell (p := ⟨b, off + k * 3 + 1, none⟩) hb).trans e1
      have y2 := (HT2.out.cell (p := ⟨b, off + k * 3 + 2, none⟩) hb).trans e2
      have tk := HTK.out k hlt
      have HNIL := Lib.hid (fun h9 => bp_nil (js := js) (m := k) h9)
      have HYES := Lib.hid (fun (K1 : Nat) h9 => bp_yes (js := js) (m := k) (K1 := K1) h9)
      have HNO := Lib.hid (fun (K1 : Nat) h9 => bp_no (js := js) (m := k) (K1 := K1) h9)
      have HEK := Lib.hid (fun (K1 : Nat) => HEN.out k K1 hk)
      have HRK := Lib.hid (HRW.out k hk)
      generalize js[k]! = y at y0 y1 y2 tk HNIL HYES HNO
      obtain ⟨yt, yc, yl⟩ := y
      simp only at y0 y1 y2 tk HNIL HYES HNO
      clear e0 e1 e2
      obtain ⟨LN1, hLN1⟩ : ∃ x, bpL js (k + 1) = x := ⟨_, rfl⟩
      rw [hLN1] at HNIL HYES HNO
      have HLN1 := Lib.hid hLN1
      clear hLN1
      generalize bpL js k = L at HOS hKl HNIL HYES HNO HEK HRK ⊢
      obtain ⟨K, hK⟩ : ∃ K, L.length = K := ⟨_, rfl⟩
      have HK := Lib.hid hK
      rw [hK] at hKl ⊢
      have HOS2 : Hid (OS 29 3 wr w1.heap.size wr.heap.size (.slice Az K cz) L) := by have := HOS.out; rw [hK] at this; exact this
      clear hK HOS
      have HOSX : Hid (OS 29 3 (wr.alloc (.cells #[.int .i64 yt, .int .i64 yc, .int .i64 yl] 36)) w1.heap.size wr.heap.size (.slice Az K cz) L) :=
        HOS2.out.step ((Below.refl _ _).alloc (Nat.le_refl _) _) (Nat.le_refl _)
      have HBX : Hid (Below w1.heap.size w1 (wr.alloc (.cells #[.int .i64 yt, .int .i64 yc, .int .i64 yl] 36))) := HBW.out.alloc hs2 _
      have HOSW : Hid (∀ N, OS 29 3 (((wr.alloc (.cells #[.int .i64 yt, .int .i64 yc, .int .i64 yl] 36)).drewN N).alloc (.cells #[.int .i64 yt, .int .i64 (yt + yl)] 3)) w1.heap.size wr.heap.size (.slice Az K cz) L) := fun N =>
        (HOSX.out.drewN N).step ((Below.refl _ _).alloc (Nat.le_refl _) _) (by simp)
      have HSZ : Hid (∀ N, (((wr.alloc (.cells #[.int .i64 yt, .int .i64 yc, .int .i64 yl] 36)).drewN N).alloc (.cells #[.int .i64 yt, .int .i64 (yt + yl)] 3)).heap.size = wr.heap.size + 1 + 1) := fun N => by simp
      have HUW : Hid (∀ N, OI 3 (((wr.alloc (.cells #[.int .i64 yt, .int .i64 yc, .int .i64 yl] 36)).drewN N).alloc (.cells #[.int .i64 yt, .int .i64 (yt + yl)] 3)) wr.heap.size (wr.heap.size + 2) (.slice (some ⟨wr.heap.size + 1, 0, none⟩) 2 2) [yt, yt + yl]) := fun N => by
        have h9 := (Acc.lit2 (w := (wr.alloc (.cells #[.int .i64 yt, .int .i64 yc, .int .i64 yl] 36)).drewN N) (x := yt) (y := yt + yl) (E := 3) (g := wr.heap.size + 1) (by simp)).oi
        rw [HSZ.out N] at h9
        exact h9.wide (by omega) (by omega)
      have HBW2 : Hid (∀ N, Below w1.heap.size w1 (((wr.alloc (.cells #[.int .i64 yt, .int .i64 yc, .int .i64 yl] 36)).drewN N).alloc (.cells #[.int .i64 yt, .int .i64 (yt + yl)] 3))) := fun N => (below_drewN HBX.out N).alloc (by simp; omega) _
      have HSZ1 : Hid (∀ N, wr.heap.size + 2 ≤ (((wr.alloc (.cells #[.int .i64 yt, .int .i64 yc, .int .i64 yl] 36)).drewN N).alloc (.cells #[.int .i64 yt, .int .i64 (yt + yl)] 3)).heap.size) := fun N => by rw [HSZ.out N]; exact Nat.le_refl _
      have HSZ0 : Hid (∀ N, wr.heap.size ≤ (((wr.alloc (.cells #[.int .i64 yt, .int .i64 yc, .int .i64 yl] 36)).drewN N).alloc (.cells #[.int .i64 yt, .int .i64 (yt + yl)] 3)).heap.size) := fun N => by rw [HSZ.out N]; omega
      have hLl : L.length < 1000000 := by rw [HK.out]; omega
      have e1 : IntKind.i64.wrap (yt + yl) = yt + yl := IntWalk.i64_in _ (by omega)
      by_cases hK0 : K = 0
      · subst hK0
        have HX := Lib.hid (HNIL.out HK.out)
        go_wp2_with fail
        go_quiet (fail)
        go_wp2_with (at_builtin; refine wpList_pushS rfl (.tmp 52) (.tmp 61) 26 rfl 29 3 (by decide) i0 Try.underlying26 hi hz0 hz1 hz2 _ w1 w1.heap.size wr.heap.size (wr.heap.size + 2) _ _ L [yt, yt + yl] rfl rfl (HOSW.out _) (HUW.out _) hs2 (HSZ1.out _) (HSZ0.out _) (by rw [HSZ.out]; rfl) hLl (HBW2.out _) ?_; intro v9 w9 hos9 hb9)
        rw [← HX.out, ← HLN1.out] at hos9
        go_roundg (n - (k + 1))
        case rel => exact ⟨k + 1, by omega, rfl, by go_num, hos9, hb9⟩
        case measure => have := HGK.out; omega
      · obtain ⟨K1, hK1⟩ : ∃ K1, K = K1 + 1 := ⟨K - 1, by omega⟩
        have eK : IntKind.i64.wrap ((K : Int) - 1) = (K1 : Int) := by rw [IntWalk.i64_in _ (by omega)]; omega
        have hK1i : (K1 : Int) < (K : Int) := by omega
        have hK1p : (0 : Int) ≤ (K1 : Int) := by omega
        have hr2 := HRK.out K1 (by rw [HK.out]; omega)
        have en := HEK.out K1 (by rw [HK.out]; exact hK1)
        obtain ⟨A9, c9, b9, c8, hv9, hA9l, hA9h, hA9s, xr, xrf, hb9l, hb9h, hb9s, xcell, xfz, _⟩ := HOSX.out.row_at (by decide) K1 (by rw [HK.out]; omega) (by intro h9; rw [h9] at hr2; simp at hr2)
        rw [HK.out] at hv9
        injection hv9 with hA8 _ hC8
        subst hA8; subst hC8
        rw [hr2] at xr xcell
        have x0 := xcell 0 (by omega)
        have x1 := xcell 1 (by omega)
        have HY := Lib.hid (fun h9 => HYES.out K1 (by rw [HK.out]; exact hK1) h9)
        have HNN := Lib.hid (fun h9 => HNO.out K1 (by rw [HK.out]; exact hK1) h9)
        clear xcell xfz hr2 HYES HNO HEK hK1
        generalize (L.getD K1 []).getD 1 0 = E1 at x1 HY HNN en
        generalize (L.getD K1 []).getD 0 0 = E0 at x0 HY
        have e2 : IntKind.i64.wrap (E1 + yl) = E1 + yl := IntWalk.i64_in _ (by omega)
        by_cases hq : yt ≤ E1
        · have HX := Lib.hid (HY.out hq)
          go_wp2_with fail
          go_quiet (fail)
          go_wp2_with fail
          have HSET : Hid (∀ N, OS 29 3 ((((wr.alloc (.cells #[.int .i64 yt, .int .i64 yc, .int .i64 yl] 36)).drewN N).setCell ⟨A9, K1, none⟩ (.slice (some ⟨wr.heap.size + 1, 0, none⟩) 2 2)).alloc (.cells #[.int .i64 E0, .int .i64 (E1 + yl)] 3)) w1.heap.size (wr.heap.size + 2) (.slice (some ⟨A9, 0, none⟩) K cz) (L.set K1 [E0, E1 + yl])) := fun N => by
            have h8 : OS 29 3 (((wr.alloc (.cells #[.int .i64 yt, .int .i64 yc, .int .i64 yl] 36)).drewN N).alloc (.cells #[.int .i64 E0, .int .i64 (E1 + yl)] 3)) w1.heap.size (wr.heap.size + 1) (.slice (some ⟨A9, 0, none⟩) K cz) L :=
              ((HOSX.out.drewN N).step ((Below.refl _ _).alloc (Nat.le_refl _) _) (by simp)).wide (Nat.le_refl _) (Nat.le_succ _)
            have h9 := (Acc.lit2 (w := (wr.alloc (.cells #[.int .i64 yt, .int .i64 yc, .int .i64 yl] 36)).drewN N) (x := E0) (y := E1 + yl) (E := 3) (g := wr.heap.size + 1) (by simp)).oi
            have hsz : (((wr.alloc (.cells #[.int .i64 yt, .int .i64 yc, .int .i64 yl] 36)).drewN N).alloc (.cells #[.int .i64 E0, .int .i64 (E1 + yl)] 3)).heap.size = wr.heap.size + 2 := by simp
            rw [hsz] at h9
            obtain ⟨A7, c7, hv7, _, _, _, _, _, h7⟩ := h8.set_row (by decide) K1 (by rw [HK.out]; omega) h9 (by simp) (by omega) (by omega)
            injection hv7 with hA7
            injection hA7 with hA7
            injection hA7 with hA7
            subst hA7
            rw [World.setCell_alloc_past _ _ _ _ (by show A9 < (wr.alloc _).heap.size; simp; omega)] at h7
            exact h7
          have HSB : Hid (∀ N, Below w1.heap.size w1 ((((wr.alloc (.cells #[.int .i64 yt, .int .i64 yc, .int .i64 yl] 36)).drewN N).setCell ⟨A9, K1, none⟩ (.slice (some ⟨wr.heap.size + 1, 0, none⟩) 2 2)).alloc (.cells #[.int .i64 E0, .int .i64 (E1 + yl)] 3))) := fun N =>
            ((below_drewN HBX.out N).setCell (p := ⟨A9, K1, none⟩) hA9l _).alloc (by simp [World.setCell]; omega) _
          go_region
          all_goals
            go_wp2_with fail
            go_roundg (n - (k + 1))
            case rel => exact ⟨k + 1, by omega, rfl, by go_num, by rw [HLN1.out, HX.out]; exact (HSET.out _).wide (Nat.le_refl _) (by simp [World.setCell]), HSB.out _⟩
            case measure => have := HGK.out; omega
        · have HX := Lib.hid (HNN.out hq)
          have hqd : decide (yt ≤ E1) = false := decide_eq_false hq
          go_wp2_with fail
          go_quiet (fail)
          go_wp2_with (at_builtin; refine wpList_pushS rfl (.tmp 52) (.tmp 61) 26 rfl 29 3 (by decide) i0 Try.underlying26 hi hz0 hz1 hz2 _ w1 w1.heap.size wr.heap.size (wr.heap.size + 2) _ _ L [yt, yt + yl] rfl rfl (HOSW.out _) (HUW.out _) hs2 (HSZ1.out _) (HSZ0.out _) (by rw [HSZ.out]; rfl) hLl (HBW2.out _) ?_; intro v9 w9 hos9 hb9)
          rw [← HX.out, ← HLN1.out] at hos9
          go_roundg (n - (k + 1))
          case rel => exact ⟨k + 1, by omega, rfl, by go_num, hos9, hb9⟩
          case measure => have := HGK.out; omega
    · obtain rfl : n = k := by omega
      go_wp2_with fail
      go_ret2
      exact ⟨_, rfl, HOS.out.wide hT1 (Nat.le_refl _), HT2.out⟩
end Go.Proofs.Ytdggaeipfbacmaa
