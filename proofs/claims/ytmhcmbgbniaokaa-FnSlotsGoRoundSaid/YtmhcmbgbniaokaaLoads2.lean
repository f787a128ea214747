/-
  The contracts of LoadOfLinks, both sides: the walks.
-/
import Derived.Test.YtmhcmbgbniaokaaLoads
namespace Go.Proofs.Ytmhcmbgbniaokaa
open Go.RowKit
set_option maxRecDepth 100000
set_option linter.unusedVariables false

set_option maxHeartbeats 2000000 in
theorem implLoadOfLinks_any (v : Value) (x : Sr) (l : List Ms) (w : World) (h : RMsS w w.heap.size v l) (hn : l.length ≤ 1048576) :
    Calls Try.prog 14 #[SrV x, v] w (RetLB 3 w (loads x l).1 (loads x l).2) := by
  have HG := Lib.hid (fun w h => (slRing_any _ x l w h hn : Calls _ _ #[_, v] w _))
  have hr := h
  obtain ⟨A, c, rfl, hfl, hlc, hc⟩ := h
  clear hc hfl
  obtain ⟨_, _, _, hc⟩ := hr.parts
  cases hg : slOk x l
  · rw [loads_no hg]
    rw [hg] at HG
    obtain ⟨k, hh⟩ := x
    simp only [SrV] at HG ⊢
    have hW : Below w.heap.size w (w.alloc (.cells #[.int .i64 k, .bool hh] 25)) := (Below.refl _ _).alloc (Nat.le_refl _) _
    clear hg
    go_enter Try.func14, Try.ntmps14
    go_wp2_with fail
    refine (HG.out _ ((hr.step hW (Nat.le_refl _)).more hW.size)).mono ?_; rintro e w1 ⟨rfl, hb⟩
    go_wp2_with fail
    go_ret2
    exact ⟨_, rfl, .inl ⟨rfl, none, 0, rfl, by simp, fun _ => rfl⟩, hW.trans (hb.mono hW.size)⟩
  rw [loads_yes hg]
  rw [hg] at HG
  have hin := isSr_in (slOk_in hg).1
  obtain ⟨hl20, hall, _⟩ := areMs_in (slOk_in hg).2
  have HBH := Lib.hid (fun s w hs => slBehind_any x s w hin hs)
  obtain ⟨k, hh⟩ := x
  simp only [SrV] at HG hin HBH hall ⊢
  have hW : Below w.heap.size w (w.alloc (.cells #[.int .i64 k, .bool hh] 25)) := (Below.refl _ _).alloc (Nat.le_refl _) _
  have hB := BK.made w 25 #[.int .i64 k, .bool hh]
  clear hg
  have hl2 : (l.length : Int) ≤ 20 := by omega
  obtain ⟨n, hN⟩ : ∃ n : Nat, n = k.toNat := ⟨_, rfl⟩
  have hk : k = (n : Int) := by omega
  have HK := Lib.hid hk
  have HALL := Lib.hid hall
  have HC := Lib.hid hc
  have HIN := Lib.hid hin
  have HN := Lib.hid hN
  have hn12 : (n : Int) ≤ 12 ∧ 2 ≤ (n : Int) := by omega
  subst hk
  clear hc hall hn hN
  go_enter Try.func14, Try.ntmps14
  go_wp2_with fail
  refine (HG.out _ ((hr.step hW (Nat.le_refl _)).more hW.size)).mono ?_; rintro e w1 ⟨rfl, hb⟩
  have T1 := hW.trans (hb.mono hW.size)
  have hB1 := hB.step hb
  have c0 := hB1.cell 0
  have c1 := hB1.cell 1
  simp at c0 c1
  have hz1 : w.heap.size < w1.heap.size := hB1.1
  clear hW hB hb
  obtain ⟨i0, hi, hz0, hz1', hz2⟩ := info_parts int_info
  go_wp2_with (at_make; refine wpList_make_full _ rfl _ _ 29 rfl w1.heap.size 3 i0 _ 1 Try.underlying29 hi hz0 hz1' _ _ _ _ n rfl rfl rfl rfl (by rw [hz2]; omega) (by unfold maxLen; omega) (Nat.le_refl _) ?_; intro w2 hown hg2)
  have HR0 : Hid (RC w2 w1.heap.size n (List.replicate n 0)) := RC.made hown
  have hb2 : Below w1.heap.size w1 w2 := (Below.refl _ _).grown hg2 (Nat.le_refl _) (by intro k hk; cases hk)
  have d0 := (hB1.step hb2).cell 0
  have d1 := (hB1.step hb2).cell 1
  simp at d0 d1
  clear hown hg2 c0 c1 hB1
  have HT1 := Lib.hid T1
  clear T1
  go_wp2_with fail
  go_loopw [19] (fun i wr => ∃ j : Nat, j ≤ l.length ∧ i = .int .i64 j ∧ RC wr w1.heap.size n (loadsOf n (l.take j)) ∧ wr.cell? ⟨w.heap.size, 0, none⟩ = some (.int .i64 (n : Int)) ∧ wr.cell? ⟨w.heap.size, 1, none⟩ = some (.bool hh) ∧ Below w1.heap.size w1 wr)
    (fun i _ => l.length - (intOf i).toNat)
  case atStart => exact ⟨0, Nat.zero_le _, rfl, by have := HR0.out; simpa [loadsOf] using this, d0, d1, hb2⟩
  case round =>
    clear d0 d1 hb2
    obtain ⟨j, hj, rfl, hrow, e0, e1, hbw⟩ := hrel
    have hsw := hbw.size
    have hT := HT1.out.trans (hbw.mono (by omega))
    have HTW := Lib.hid hT
    by_cases hlt : j < l.length
    · obtain ⟨b, off, rfl, hbB, hcell⟩ := HC.out (by omega)
      obtain ⟨hd0, hd1, hd2⟩ := hcell j hlt
      have hc0 := (hT.cell (p := ⟨b, off + j * 3, none⟩) hbB).trans hd0
      have hc1 := (hT.cell (p := ⟨b, off + j * 3 + 1, none⟩) hbB).trans hd1
      have hc2 := (hT.cell (p := ⟨b, off + j * 3 + 2, none⟩) hbB).trans hd2
      clear hd0 hd1 hd2 hcell
      have hml : MsIn n l[j]! := by rw [getElem!_pos l j hlt]; exact HALL.out _ (List.getElem_mem _)
      have HST := Lib.hid (loads_at n l j hlt)
      have HUP : Hid (Upto (12 * l.length) (loadsOf n (l.take j))) := by
        have h9 := loadsOf_upto n (l.take j) (by omega) (fun y hy => HALL.out y (List.mem_of_mem_take hy))
        intro i
        have := h9 i
        simp only [List.length_take] at this
        omega
      obtain ⟨L, hL⟩ : ∃ L, L = loadsOf n (l.take j) := ⟨_, rfl⟩
      rw [← hL] at hrow HST HUP
      have HLL : Hid (L.length = n) := by show _ = _; rw [hL, loadsOf_length]; omega
      clear hL
      have hh1 := hopsI_in (by omega) hml
      have HAE := Lib.hid (fun d hd => at_end (by omega) hml d hd)
      generalize l[j]! = y at hc0 hc1 hc2 hml HST hh1 HAE
      obtain ⟨yt, yf, yo⟩ := y
      obtain ⟨m1, m2, m3, m4, m5, m6, m7⟩ := hml
      simp only at hc0 hc1 hc2 m1 m2 m3 m4 m5 m6 m7
      obtain ⟨H, hH⟩ : ∃ H, H = hopsI n ⟨yt, yf, yo⟩ := ⟨_, rfl⟩
      rw [← hH] at hh1 HAE
      have HH := Lib.hid hH
      clear hH
      obtain ⟨fn, hfn⟩ : ∃ fn : Nat, fn = yf.toNat := ⟨_, rfl⟩
      have hyf : yf = (fn : Int) := by omega
      have HFN := Lib.hid hfn
      simp only [Int.toNat_natCast] at HAE
      rw [← hfn] at HAE
      subst hyf
      clear hfn m7
      have hfl : fn < n := by omega
      obtain ⟨Hn, hHn⟩ : ∃ Hn : Nat, Hn = H.toNat := ⟨_, rfl⟩
      have hHe : H = (Hn : Int) := by omega
      have HHN := Lib.hid hHe
      subst hHe
      clear hHn
      have hm0 : (wr.alloc (.cells #[.int .i64 yt, .int .i64 (fn : Int), .int .i64 yo] 39)).cell? ⟨wr.heap.size, 1, none⟩ = some (.int .i64 (fn : Int)) := by simp
      have hm1 : (wr.alloc (.cells #[.int .i64 yt, .int .i64 (fn : Int), .int .i64 yo] 39)).cell? ⟨wr.heap.size, 2, none⟩ = some (.int .i64 yo) := by simp
      have HRA := Lib.hid (hrow.alloc (.cells #[.int .i64 yt, .int .i64 (fn : Int), .int .i64 yo] 39))
      have hwr0 : w.heap.size < wr.heap.size := by omega
      have f0 := (World.cell?_alloc_lt wr (.cells #[.int .i64 yt, .int .i64 (fn : Int), .int .i64 yo] 39) ⟨w.heap.size, 0, none⟩ hwr0).trans e0
      have f1 := (World.cell?_alloc_lt wr (.cells #[.int .i64 yt, .int .i64 (fn : Int), .int .i64 yo] 39) ⟨w.heap.size, 1, none⟩ hwr0).trans e1
      have hba := hbw.alloc (by omega) (.cells #[.int .i64 yt, .int .i64 (fn : Int), .int .i64 yo] 39)
      have hlow : w1.heap.size < wr.heap.size := hrow.lt
      have HWR := Lib.hid hlow
      obtain ⟨wo, hwo⟩ : ∃ wo, wo = wr := ⟨_, rfl⟩
      subst hwo
      go_wp2_with fail
      go_loopw [9] (fun s wr => ∃ d : Nat, d ≤ Hn ∧ s = .int .i64 (((fn + d) % n : Nat) : Int) ∧ RC wr w1.heap.size n (walkL n fn L d) ∧ wr.cell? ⟨wo.heap.size, 2, none⟩ = some (.int .i64 yo) ∧ wr.cell? ⟨w.heap.size, 0, none⟩ = some (.int .i64 (n : Int)) ∧ wr.cell? ⟨w.heap.size, 1, none⟩ = some (.bool hh) ∧ wo.heap.size < wr.heap.size ∧ Below w1.heap.size w1 wr)
        (fun s _ => Hn - ((intOf s).toNat + (n - fn)) % n)
      case atStart => exact ⟨0, Nat.zero_le _, by rw [Nat.add_zero, Nat.mod_eq_of_lt hfl], HRA.out, hm1, f0, f1, by simp, hba⟩
      case round =>
        clear hm0 hm1 f0 f1 hba hc0 hc1 hc2 e0 e1 hrow hbw hT
        obtain ⟨d, hd, rfl, hrq, q2, q0, q1, hsq, hbq⟩ := hrel
        have HAT := Lib.hid (HAE.out d (by omega))
        have HDI := Lib.hid (dist_at n fn d hfl (by omega))
        obtain ⟨s, hs⟩ : ∃ s : Nat, s = (fn + d) % n := ⟨_, rfl⟩
        have hsn : s < n := by rw [hs]; exact Nat.mod_lt _ (by omega)
        have HNX : Hid ((s + 1) % n = (fn + (d + 1)) % n) := by show _ = _; rw [hs]; exact next_at n fn d
        have HS := Lib.hid hs
        rw [← hs] at HAT HDI
        simp only [← hs]
        clear hs
        by_cases hde : d = Hn
        · have hso : (s : Int) = yo := HAT.out.2 (by omega)
          have HFI : Hid (RC wr w1.heap.size n (loadsOf n (l.take (j + 1)))) := by
            show RC _ _ _ _
            rw [HST.out]
            have h8 := hrq
            rw [hde] at h8
            have h7 : loadMs n L ⟨yt, (fn : Int), yo⟩ = walkL n fn L Hn := by
              unfold loadMs
              rw [← HH.out]
              simp
            rw [h7]
            exact h8
          subst hso
          have HBQ := Lib.hid hbq
          clear hrq hbq hde
          go_wp2_with fail
          go_roundw
          case rel => exact ⟨j + 1, by omega, by go_num, HFI.out, q0, q1, HBQ.out⟩
          case measure => simp [intOf]; omega
        · have hso : ¬ (s : Int) = yo := fun e => hde (by have := HAT.out.1 e; omega)
          have hup : 0 ≤ (walkL n fn L d).getD s 0 ∧ (walkL n fn L d).getD s 0 ≤ 1000 := by
            have := walkL_upto n fn HUP.out d s
            omega
          have hwl : (walkL n fn L d).length = n := (walkL_length _ _ _ _).trans HLL.out
          have g0 := hrq.cell s (by omega)
          have g1 := hrq.free s
          have HRS : Hid (RC (wr.setCell ⟨w1.heap.size, s, none⟩ (.int .i64 ((walkL n fn L d).getD s 0 + 1))) w1.heap.size n (walkL n fn L (d + 1))) := by
            have h8 := hrq.set s ((walkL n fn L d).getD s 0 + 1)
            have h7 : walkL n fn L (d + 1) = (walkL n fn L d).set s ((walkL n fn L d).getD s 0 + 1) := by
              rw [walkL, HS.out]
              rfl
            show RC _ _ _ _
            rw [h7]
            exact h8
          generalize (walkL n fn L d).getD s 0 = u at g0 hup HRS
          have hsnI : (s : Int) < (n : Int) := by omega
          have ew : IntKind.i64.wrap (u + 1) = u + 1 := IntWalk.i64_in _ (by omega)
          have p2 := (World.cell?_setCell_far wr ⟨w1.heap.size, s, none⟩ ⟨wo.heap.size, 2, none⟩ (.int .i64 (u + 1)) (by show w1.heap.size ≠ wo.heap.size; omega)).trans q2
          have p0 := (World.cell?_setCell_far wr ⟨w1.heap.size, s, none⟩ ⟨w.heap.size, 0, none⟩ (.int .i64 (u + 1)) (by show w1.heap.size ≠ w.heap.size; omega)).trans q0
          have p1 := (World.cell?_setCell_far wr ⟨w1.heap.size, s, none⟩ ⟨w.heap.size, 1, none⟩ (.int .i64 (u + 1)) (by show w1.heap.size ≠ w.heap.size; omega)).trans q1
          have HBS := Lib.hid (hbq.setCell (p := ⟨w1.heap.size, s, none⟩) (Nat.le_refl _) (.int .i64 (u + 1)))
          have HSZ : Hid (wo.heap.size < (wr.setCell ⟨w1.heap.size, s, none⟩ (.int .i64 (u + 1))).heap.size) := by show _ < _; simpa [World.setCell] using hsq
          clear hrq hbq hwl hup
          go_wp2_with fail
          have HPP := Lib.hid (And.intro p2 (And.intro p0 p1))
          refine (HBH.out s _ (by omega)).mono ?_; rintro e w5 ⟨rfl, hb5⟩
          obtain ⟨p2, p0, p1⟩ := HPP.out
          have HR5 := Lib.hid (HRS.out.step hb5)
          have z5 := hb5.size
          have zz := HSZ.out
          have r2 := (hb5.cell (p := ⟨wo.heap.size, 2, none⟩) (by exact zz)).trans p2
          have r0 := (hb5.cell (p := ⟨w.heap.size, 0, none⟩) (by show w.heap.size < _; omega)).trans p0
          have r1 := (hb5.cell (p := ⟨w.heap.size, 1, none⟩) (by show w.heap.size < _; omega)).trans p1
          have HB5 := Lib.hid (HBS.out.trans (hb5.mono HBS.out.size))
          go_wp2_with fail
          go_roundw
          case rel => exact ⟨d + 1, by omega, by rw [← HNX.out]; first | go_num | rfl, HR5.out, r2, r0, r1, by omega, HB5.out⟩
          case measure =>
            have h9 := dist_at n fn (d + 1) hfl (by omega)
            have h8 := HDI.out
            have h7 : (((s : Int) + 1) % (n : Int)) = (((fn + (d + 1)) % n : Nat) : Int) := by rw [← HNX.out]; push_cast; rfl
            simp only [intOf, Int.toNat_natCast]
            rw [h7, Int.toNat_natCast, h8, h9]
            omega
    · obtain rfl : j = l.length := by omega
      rw [List.take_length] at hrow
      have HOI := Lib.hid (hrow.oi (lo := w.heap.size) (by omega) (Nat.le_refl _))
      have HLE : Hid ((loadsOf n l).length = n) := by show _ = _; rw [loadsOf_length]; omega
      rw [HLE.out] at HOI
      clear hrow hbw
      go_wp2_with fail
      go_ret2
      exact ⟨_, rfl, HOI.out, HTW.out⟩
set_option maxHeartbeats 2000000 in
theorem specLoadOfLinks_any (v : Value) (x : Sr) (l : List Ms) (w : World) (h : RMsS w w.heap.size v l) (hn : l.length ≤ 1048576) :
    Calls Try.prog 15 #[SrV x, v] w (RetLB 3 w (loads x l).1 (loads x l).2) := by
  have HG := Lib.hid (fun w h => (slAll_any _ x l w h hn : Calls _ _ #[_, v] w _))
  have hr := h
  obtain ⟨A, c, rfl, hfl, hlc, hc⟩ := h
  clear hc hfl
  obtain ⟨_, _, _, hc⟩ := hr.parts
  cases hg : slOk x l
  · rw [loads_no hg]
    rw [hg] at HG
    obtain ⟨k, hh⟩ := x
    simp only [SrV] at HG ⊢
    have hW : Below w.heap.size w (w.alloc (.cells #[.int .i64 k, .bool hh] 25)) := (Below.refl _ _).alloc (Nat.le_refl _) _
    clear hg
    go_enter Try.func15, Try.ntmps15
    go_wp2_with fail
    refine (HG.out _ ((hr.step hW (Nat.le_refl _)).more hW.size)).mono ?_; rintro e w1 ⟨rfl, hb⟩
    go_wp2_with fail
    go_ret2
    exact ⟨_, rfl, .inl ⟨rfl, none, 0, rfl, by simp, fun _ => rfl⟩, hW.trans (hb.mono hW.size)⟩
  rw [loads_yes hg]
  rw [hg] at HG
  have hin := isSr_in (slOk_in hg).1
  obtain ⟨hl20, hall, _⟩ := areMs_in (slOk_in hg).2
  have HBH := Lib.hid (fun s w hs => slBehind_any x s w hin hs)
  obtain ⟨k, hh⟩ := x
  simp only [SrV] at HG hin HBH hall ⊢
  have hW : Below w.heap.size w (w.alloc (.cells #[.int .i64 k, .bool hh] 25)) := (Below.refl _ _).alloc (Nat.le_refl _) _
  have hB := BK.made w 25 #[.int .i64 k, .bool hh]
  clear hg
  have hl2 : (l.length : Int) ≤ 20 := by omega
  obtain ⟨n, hN⟩ : ∃ n : Nat, n = k.toNat := ⟨_, rfl⟩
  have hk : k = (n : Int) := by omega
  have HK := Lib.hid hk
  have HALL := Lib.hid hall
  have HC := Lib.hid hc
  have HIN := Lib.hid hin
  have HN := Lib.hid hN
  have hn12 : (n : Int) ≤ 12 ∧ 2 ≤ (n : Int) := by omega
  subst hk
  clear hc hall hn hN
  go_enter Try.func15, Try.ntmps15
  go_wp2_with fail
  refine (HG.out _ ((hr.step hW (Nat.le_refl _)).more hW.size)).mono ?_; rintro e w1 ⟨rfl, hb⟩
  have T1 := hW.trans (hb.mono hW.size)
  have hB1 := hB.step hb
  have c0 := hB1.cell 0
  have c1 := hB1.cell 1
  simp at c0 c1
  have hz1 : w.heap.size < w1.heap.size := hB1.1
  clear hW hB hb
  obtain ⟨i0, hi, hz0, hz1', hz2⟩ := info_parts int_info
  go_wp2_with (at_make; refine wpList_make_full _ rfl _ _ 29 rfl w1.heap.size 3 i0 _ 1 Try.underlying29 hi hz0 hz1' _ _ _ _ n rfl rfl rfl rfl (by rw [hz2]; omega) (by unfold maxLen; omega) (Nat.le_refl _) ?_; intro w2 hown hg2)
  have HR0 : Hid (RC w2 w1.heap.size n (List.replicate n 0)) := RC.made hown
  have hb2 : Below w1.heap.size w1 w2 := (Below.refl _ _).grown hg2 (Nat.le_refl _) (by intro k hk; cases hk)
  have d0 := (hB1.step hb2).cell 0
  have d1 := (hB1.step hb2).cell 1
  simp at d0 d1
  clear hown hg2 c0 c1 hB1
  have HT1 := Lib.hid T1
  clear T1
  go_wp2_with fail
  go_loopw [19] (fun i wr => ∃ j : Nat, j ≤ l.length ∧ i = .int .i64 j ∧ RC wr w1.heap.size n (loadsOf n (l.take j)) ∧ wr.cell? ⟨w.heap.size, 0, none⟩ = some (.int .i64 (n : Int)) ∧ wr.cell? ⟨w.heap.size, 1, none⟩ = some (.bool hh) ∧ Below w1.heap.size w1 wr)
    (fun i _ => l.length - (intOf i).toNat)
  case atStart => exact ⟨0, Nat.zero_le _, rfl, by have := HR0.out; simpa [loadsOf] using this, d0, d1, hb2⟩
  case round =>
    clear d0 d1 hb2
    obtain ⟨j, hj, rfl, hrow, e0, e1, hbw⟩ := hrel
    have hsw := hbw.size
    have hT := HT1.out.trans (hbw.mono (by omega))
    have HTW := Lib.hid hT
    by_cases hlt : j < l.length
    · obtain ⟨b, off, rfl, hbB, hcell⟩ := HC.out (by omega)
      obtain ⟨hd0, hd1, hd2⟩ := hcell j hlt
      have hc0 := (hT.cell (p := ⟨b, off + j * 3, none⟩) hbB).trans hd0
      have hc1 := (hT.cell (p := ⟨b, off + j * 3 + 1, none⟩) hbB).trans hd1
      have hc2 := (hT.cell (p := ⟨b, off + j * 3 + 2, none⟩) hbB).trans hd2
      clear hd0 hd1 hd2 hcell
      have hml : MsIn n l[j]! := by rw [getElem!_pos l j hlt]; exact HALL.out _ (List.getElem_mem _)
      have HST := Lib.hid (loads_at n l j hlt)
      have HUP : Hid (Upto (12 * l.length) (loadsOf n (l.take j))) := by
        have h9 := loadsOf_upto n (l.take j) (by omega) (fun y hy => HALL.out y (List.mem_of_mem_take hy))
        intro i
        have := h9 i
        simp only [List.length_take] at this
        omega
      obtain ⟨L, hL⟩ : ∃ L, L = loadsOf n (l.take j) := ⟨_, rfl⟩
      rw [← hL] at hrow HST HUP
      have HLL : Hid (L.length = n) := by show _ = _; rw [hL, loadsOf_length]; omega
      clear hL
      have hh1 := hopsI_in (by omega) hml
      have HAE := Lib.hid (fun d hd => at_end (by omega) hml d hd)
      generalize l[j]! = y at hc0 hc1 hc2 hml HST hh1 HAE
      obtain ⟨yt, yf, yo⟩ := y
      obtain ⟨m1, m2, m3, m4, m5, m6, m7⟩ := hml
      simp only at hc0 hc1 hc2 m1 m2 m3 m4 m5 m6 m7
      obtain ⟨H, hH⟩ : ∃ H, H = hopsI n ⟨yt, yf, yo⟩ := ⟨_, rfl⟩
      rw [← hH] at hh1 HAE
      have HH := Lib.hid hH
      clear hH
      obtain ⟨fn, hfn⟩ : ∃ fn : Nat, fn = yf.toNat := ⟨_, rfl⟩
      have hyf : yf = (fn : Int) := by omega
      have HFN := Lib.hid hfn
      simp only [Int.toNat_natCast] at HAE
      rw [← hfn] at HAE
      subst hyf
      clear hfn m7
      have hfl : fn < n := by omega
      obtain ⟨Hn, hHn⟩ : ∃ Hn : Nat, Hn = H.toNat := ⟨_, rfl⟩
      have hHe : H = (Hn : Int) := by omega
      have HHN := Lib.hid hHe
      subst hHe
      clear hHn
      have hm0 : (wr.alloc (.cells #[.int .i64 yt, .int .i64 (fn : Int), .int .i64 yo] 39)).cell? ⟨wr.heap.size, 1, none⟩ = some (.int .i64 (fn : Int)) := by simp
      have hm1 : (wr.alloc (.cells #[.int .i64 yt, .int .i64 (fn : Int), .int .i64 yo] 39)).cell? ⟨wr.heap.size, 2, none⟩ = some (.int .i64 yo) := by simp
      have HRA := Lib.hid (hrow.alloc (.cells #[.int .i64 yt, .int .i64 (fn : Int), .int .i64 yo] 39))
      have hwr0 : w.heap.size < wr.heap.size := by omega
      have f0 := (World.cell?_alloc_lt wr (.cells #[.int .i64 yt, .int .i64 (fn : Int), .int .i64 yo] 39) ⟨w.heap.size, 0, none⟩ hwr0).trans e0
      have f1 := (World.cell?_alloc_lt wr (.cells #[.int .i64 yt, .int .i64 (fn : Int), .int .i64 yo] 39) ⟨w.heap.size, 1, none⟩ hwr0).trans e1
      have hba := hbw.alloc (by omega) (.cells #[.int .i64 yt, .int .i64 (fn : Int), .int .i64 yo] 39)
      have hlow : w1.heap.size < wr.heap.size := hrow.lt
      have HWR := Lib.hid hlow
      obtain ⟨wo, hwo⟩ : ∃ wo, wo = wr := ⟨_, rfl⟩
      subst hwo
      go_wp2_with fail
      go_loopw [9] (fun s wr => ∃ d : Nat, d ≤ Hn ∧ s = .int .i64 (((fn + d) % n : Nat) : Int) ∧ RC wr w1.heap.size n (walkL n fn L d) ∧ wr.cell? ⟨wo.heap.size, 2, none⟩ = some (.int .i64 yo) ∧ wr.cell? ⟨w.heap.size, 0, none⟩ = some (.int .i64 (n : Int)) ∧ wr.cell? ⟨w.heap.size, 1, none⟩ = some (.bool hh) ∧ wo.heap.size < wr.heap.size ∧ Below w1.heap.size w1 wr)
        (fun s _ => Hn - ((intOf s).toNat + (n - fn)) % n)
      case atStart => exact ⟨0, Nat.zero_le _, by rw [Nat.add_zero, Nat.mod_eq_of_lt hfl], HRA.out, hm1, f0, f1, by simp, hba⟩
      case round =>
        clear hm0 hm1 f0 f1 hba hc0 hc1 hc2 e0 e1 hrow hbw hT
        obtain ⟨d, hd, rfl, hrq, q2, q0, q1, hsq, hbq⟩ := hrel
        have HAT := Lib.hid (HAE.out d (by omega))
        have HDI := Lib.hid (dist_at n fn d hfl (by omega))
        obtain ⟨s, hs⟩ : ∃ s : Nat, s = (fn + d) % n := ⟨_, rfl⟩
        have hsn : s < n := by rw [hs]; exact Nat.mod_lt _ (by omega)
        have HNX : Hid ((s + 1) % n = (fn + (d + 1)) % n) := by show _ = _; rw [hs]; exact next_at n fn d
        have HS := Lib.hid hs
        rw [← hs] at HAT HDI
        simp only [← hs]
        clear hs
        by_cases hde : d = Hn
        · have hso : (s : Int) = yo := HAT.out.2 (by omega)
          have HFI : Hid (RC wr w1.heap.size n (loadsOf n (l.take (j + 1)))) := by
            show RC _ _ _ _
            rw [HST.out]
            have h8 := hrq
            rw [hde] at h8
            have h7 : loadMs n L ⟨yt, (fn : Int), yo⟩ = walkL n fn L Hn := by
              unfold loadMs
              rw [← HH.out]
              simp
            rw [h7]
            exact h8
          subst hso
          have HBQ := Lib.hid hbq
          clear hrq hbq hde
          go_wp2_with fail
          go_roundw
          case rel => exact ⟨j + 1, by omega, by go_num, HFI.out, q0, q1, HBQ.out⟩
          case measure => simp [intOf]; omega
        · have hso : ¬ (s : Int) = yo := fun e => hde (by have := HAT.out.1 e; omega)
          have hup : 0 ≤ (walkL n fn L d).getD s 0 ∧ (walkL n fn L d).getD s 0 ≤ 1000 := by
            have := walkL_upto n fn HUP.out d s
            omega
          have hwl : (walkL n fn L d).length = n := (walkL_length _ _ _ _).trans HLL.out
          have g0 := hrq.cell s (by omega)
          have g1 := hrq.free s
          have HRS : Hid (RC (wr.setCell ⟨w1.heap.size, s, none⟩ (.int .i64 ((walkL n fn L d).getD s 0 + 1))) w1.heap.size n (walkL n fn L (d + 1))) := by
            have h8 := hrq.set s ((walkL n fn L d).getD s 0 + 1)
            have h7 : walkL n fn L (d + 1) = (walkL n fn L d).set s ((walkL n fn L d).getD s 0 + 1) := by
              rw [walkL, HS.out]
              rfl
            show RC _ _ _ _
            rw [h7]
            exact h8
          generalize (walkL n fn L d).getD s 0 = u at g0 hup HRS
          have hsnI : (s : Int) < (n : Int) := by omega
          have ew : IntKind.i64.wrap (u + 1) = u + 1 := IntWalk.i64_in _ (by omega)
          have p2 := (World.cell?_setCell_far wr ⟨w1.heap.size, s, none⟩ ⟨wo.heap.size, 2, none⟩ (.int .i64 (u + 1)) (by show w1.heap.size ≠ wo.heap.size; omega)).trans q2
          have p0 := (World.cell?_setCell_far wr ⟨w1.heap.size, s, none⟩ ⟨w.heap.size, 0, none⟩ (.int .i64 (u + 1)) (by show w1.heap.size ≠ w.heap.size; omega)).trans q0
          have p1 := (World.cell?_setCell_far wr ⟨w1.heap.size, s, none⟩ ⟨w.heap.size, 1, none⟩ (.int .i64 (u + 1)) (by show w1.heap.size ≠ w.heap.size; omega)).trans q1
          have HBS := Lib.hid (hbq.setCell (p := ⟨w1.heap.size, s, none⟩) (Nat.le_refl _) (.int .i64 (u + 1)))
          have HSZ : Hid (wo.heap.size < (wr.setCell ⟨w1.heap.size, s, none⟩ (.int .i64 (u + 1))).heap.size) := by show _ < _; simpa [World.setCell] using hsq
          clear hrq hbq hwl hup
          go_wp2_with fail
          go_roundw
          case rel => exact ⟨d + 1, by omega, by rw [← HNX.out]; go_num, HRS.out, p2, p0, p1, HSZ.out, HBS.out⟩
          case measure =>
            have h9 := dist_at n fn (d + 1) hfl (by omega)
            have h8 := HDI.out
            have h7 : (((s : Int) + 1) % (n : Int)) = (((fn + (d + 1)) % n : Nat) : Int) := by rw [← HNX.out]; push_cast; rfl
            simp only [intOf, Int.toNat_natCast]
            rw [h7, Int.toNat_natCast, h8, h9]
            omega
    · obtain rfl : j = l.length := by omega
      rw [List.take_length] at hrow
      have HOI := Lib.hid (hrow.oi (lo := w.heap.size) (by omega) (Nat.le_refl _))
      have HLE : Hid ((loadsOf n l).length = n) := by show _ = _; rw [loadsOf_length]; omega
      rw [HLE.out] at HOI
      clear hrow hbw
      go_wp2_with fail
      go_ret2
      exact ⟨_, rfl, HOI.out, HTW.out⟩
end Go.Proofs.Ytmhcmbgbniaokaa
