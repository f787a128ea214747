/-
  Chapter 9: the model's visits.
-/
import Derived.Test.YtgkpdlicgllcoaaBpE
import Derived.Test.YtgkpdlicgllcoaaPrS
namespace Go.Proofs.Ytgkpdlicgllcoaa
open Go.RowKit
set_option maxRecDepth 100000
set_option linter.unusedVariables false
theorem litN9 {E : TypeId} {w : World} (l : List Int) (m : Nat) (cs : Array Value) (hm : m = l.length) (hm0 : 0 < m) (hcs : cs.toList = ics l) (hl : l.length ≤ 100) : OI E (w.alloc (.cells cs E)) w.heap.size (w.alloc (.cells cs E)).heap.size (.slice (some ⟨w.heap.size, 0, none⟩) m m) l := by
  subst hm
  have hs : cs.size = l.length := by
    rw [← Array.length_toList, hcs]
    simp [ics]
  have h : (w.alloc (.cells cs E)).ownsRow w.heap.size E 1 (.slice (some ⟨w.heap.size, 0, none⟩) l.length l.length) l.length (ics l) :=
    ⟨by simp [ics], .inr ⟨_, l.length, cs, rfl, Nat.le_refl _, heap_alloc_new w _, Nat.le_refl _, by unfold maxLen; omega, by omega, by rw [hcs, Nat.mul_one]; exact List.take_of_length_le (by simp [ics])⟩⟩
  exact Acc.oi h
/-- The rows and the rotations so far. -/
def rowsB (x : Tm) (L : List (List Int)) (r s : Nat) : List (List Int) := vrR x L r ++ vrS x L r s
def goB (x : Tm) (L : List (List Int)) (r s : Nat) : List Int := goR x L r ++ goS x L r s
theorem rowsB_succ (x : Tm) (L : List (List Int)) (r s : Nat) : rowsB x L r s ++ [vrow x L r s] = rowsB x L r (s + 1) := by unfold rowsB; rw [vrS_succ, ← List.append_assoc]
theorem goB_succ (x : Tm) (L : List (List Int)) (r s : Nat) : goB x L r s ++ [goT x (L.getD r []) (rdT x L r) s] = goB x L r (s + 1) := by unfold goB; rw [goS_succ, ← List.append_assoc]
theorem rowsB_next (x : Tm) (L : List (List Int)) (r : Nat) : rowsB x L r x.d.length = rowsB x L (r + 1) 0 := by simp [rowsB, vrR, vrS]
theorem goB_next (x : Tm) (L : List (List Int)) (r : Nat) : goB x L r x.d.length = goB x L (r + 1) 0 := by simp [goB, goR, goS]
theorem rowsB_all (x : Tm) (L : List (List Int)) (r : Nat) : rowsB x L r 0 = vrR x L r := by simp [rowsB, vrS]
theorem goB_all (x : Tm) (L : List (List Int)) (r : Nat) : goB x L r 0 = goR x L r := by simp [goB, goS]
theorem rowsB_len (x : Tm) (L : List (List Int)) (r s : Nat) : (rowsB x L r s).length = r * x.d.length + s := by simp [rowsB, vrR_length, vrS_length]
theorem goB_len (x : Tm) (L : List (List Int)) (r s : Nat) : (goB x L r s).length = r * x.d.length + s := by simp [goB, goR_length, goS_length]
set_option maxHeartbeats 4000000 in
theorem boVisits_any (s0 v : Value) (x : Tm) (L : List (List Int)) (w : World) (h : RI w w.heap.size s0 x.d) (h2 : RS w w.heap.size v L) (hask : askT x L = true) :
    Calls Try.prog 76 #[TmV x s0, v] w fun e w' => ∃ u1 u2, e = .returned (.tuple #[u1, u2]) ∧ OS 22 3 w' w.heap.size w'.heap.size u1 (vrR x L L.length) ∧ OI 3 w' w.heap.size w'.heap.size u2 (goR x L L.length) ∧ Below w.heap.size w w' := by
  have hask2 := hask
  simp only [askT, Bool.and_eq_true] at hask2
  have hin := tmOk_in hask2.1
  have hL20 := wishOk_len hask2.2
  have HVI := Lib.hid fun r s hr hs => visit_in (r := r) (s := s) hask hr hs
  have HRL := Lib.hid fun r => rdT_len x L r
  have HSL := Lib.hid fun r s => stT_len x (L.getD r []) (rdT x L r) s
  have HWL := Lib.hid fun r hr => (wishOk_at hask2.2 r hr).1
  have HWI := Lib.hid fun r j => wishD hask2.2 r j
  have HDI := Lib.hid fun j hj => okAll_at hin.2.2.2.1 j hj
  have HVA := Lib.hid fun r => rowsB_all x L r
  have HVN := Lib.hid fun r => rowsB_next x L r
  have HVS := Lib.hid fun r s => rowsB_succ x L r s
  have HGA := Lib.hid fun r => goB_all x L r
  have HGN := Lib.hid fun r => goB_next x L r
  have HGS := Lib.hid fun r s => goB_succ x L r s
  have HBL0 := Lib.hid fun r s => rowsB_len x L r s
  have HGL0 := Lib.hid fun r s => goB_len x L r s
  have HAL := Lib.hid (aheadT_len x)
  have HAV := Lib.hid fun j hj => aheadT_at x j hj
  obtain ⟨i0, hi, hz0, hz1, hz2⟩ := info_parts int_info
  obtain ⟨iS, hiS, hS0, hS1, hS2⟩ := info_parts intSS_info
  obtain ⟨X, hX⟩ : ∃ X, X = x := ⟨_, rfl⟩
  have HX := Lib.hid hX
  have hXd : X.d = x.d := by rw [hX]
  have hXt : X.t = x.t := by rw [hX]
  have hXk : X.k = x.k := by rw [hX]
  rw [← hX] at HVI HRL HSL HVA HVN HVS HGA HGN HGS HBL0 HGL0
  rw [show vrR x L L.length = vrR X L L.length from by rw [hX], show goR x L L.length = goR X L L.length from by rw [hX]]
  rw [show aheadT x = aheadT X from by rw [hX]] at HAL HAV
  clear hX hask hask2 HX
  obtain ⟨t, k, d⟩ := x
  simp only [TmV] at *
  obtain ⟨A, c, rfl, hlc, hc⟩ := h
  obtain ⟨V, VA, vc, rfl, hV, hvl, hvc, hvr⟩ := h2
  have HC := Lib.hid hc
  have HVC := Lib.hid hvc
  have HVR := Lib.hid hvr
  clear hc hvc hvr
  have hn' : (d.length : Int) ≤ 12 := by omega
  have hL' : (L.length : Int) ≤ 20 := by omega
  have HRD0 : Hid ((rdT X L 0).2 = aheadT X ∧ (rdT X L 0).1 = 0) := ⟨rfl, rfl⟩
  generalize hAH : aheadT X = AH at *
  have p0 := BK.made w 27 #[.int .i64 t, .int .i64 k, .slice A d.length c]
  have hW : Below w.heap.size w (w.alloc (.cells #[.int .i64 t, .int .i64 k, .slice A d.length c] 27)) := (Below.refl _ _).alloc (Nat.le_refl _) _
  obtain ⟨w0, hw0⟩ : ∃ w0, w0 = (w.alloc (.cells #[.int .i64 t, .int .i64 k, .slice A d.length c] 27)) := ⟨_, rfl⟩
  rw [← hw0] at p0 hW
  have HCL : Hid (∀ W, Below w0.heap.size w0 W → W.cell? ⟨w.heap.size, 0, none⟩ = some (.int .i64 t) ∧ W.cell? ⟨w.heap.size, 1, none⟩ = some (.int .i64 k) ∧ W.cell? ⟨w.heap.size, 2, none⟩ = some (.slice A d.length c)) := by
    show ∀ W, _
    intro W hb
    have p1 := p0.step hb
    have c0 := p1.cell 0
    have c1 := p1.cell 1
    have c2 := p1.cell 2
    simp at c0 c1 c2
    exact ⟨c0, c1, c2⟩
  have HW := Lib.hid hW
  have HW0 := Lib.hid hw0
  obtain ⟨c0, c1, c2⟩ := HCL.out w0 (Below.refl _ _)
  have hd9 : Below w0.heap.size w0 w0 := Below.refl _ _
  have hd : Below w0.heap.size w0 w0.drew := (Below.refl _ _).drew
  clear p0 hW hw0
  clear c0 c1 c2 hd9 hd hAH
  have HS0 : Hid (w0.heap.size = w.heap.size + 1) := by show _ = _; rw [HW0.out]; simp
  go_enter Try.func76, Try.ntmps76
  go_wp2_with (at_make; rw [← HW0.out]; obtain ⟨c0, c1, c2⟩ := HCL.out w0 (Below.refl _ _); refine wpList_make_full _ rfl _ _ 22 rfl w0.heap.size 3 i0 _ 1 Try.underlying22 hi hz0 hz1 _ _ _ _ d.length rfl rfl rfl rfl (by rw [hz2]; omega) (by unfold maxLen; omega) (Nat.le_refl _) ?_; intro w2 hown hg)
  have hrc : RC w2 w0.heap.size d.length (ptI AH 0) := by
    have h1 := RC.made hown
    rw [ptI_zero, HAL.out]
    exact h1
  have hb2 : Below w0.heap.size w0 w2 := (Below.refl _ _).grown hg (Nat.le_refl _) (by intro k hk; cases hk)
  have HRC := Lib.hid hrc
  have HB2 := Lib.hid hb2
  clear hown hg hrc hb2 c0 c1 c2
  go_wp2_with fail
  go_loopg [25] d.length (fun g s25 wx => ∃ j : Nat, j + g = d.length ∧ s25 = .int .i64 (j : Int) ∧ RC wx w0.heap.size d.length (ptI AH j) ∧ Below w0.heap.size w0 wx)
  case atStart => exact ⟨0, by omega, rfl, HRC.out, HB2.out⟩
  case round =>
    clear HRC HB2
    obtain ⟨j, hjg, rfl, hrc, hb⟩ := hrel
    have HRC := Lib.hid hrc
    have HB := Lib.hid hb
    obtain ⟨c0, c1, c2⟩ := HCL.out wr hb
    clear hrc hb
    cases gk with
    | succ g =>
      have hj : j < d.length := by omega
      have hj' : (j : Int) < (d.length : Int) := by omega
      have HLN := Lib.hid (ptI_length AH j (by rw [HAL.out]; omega))
      have hcy : wr.cell? ⟨w0.heap.size, j, none⟩ = some (.int .i64 ((ptI AH j).getD j 0)) := HRC.out.cell j (by rw [HLN.out, HAL.out]; exact hj)
      have hfz : wr.frozen? ⟨w0.heap.size, j, none⟩ = false := HRC.out.free j
      generalize (ptI AH j).getD j 0 = u0 at hcy
      have HVAL := Lib.hid (HAV.out j hj)
      have HSET := Lib.hid (ptI_set AH j (by rw [HAL.out]; exact hj))
      have hP1 := Int.mul_le_mul_of_nonneg_right (show ((j : Int) - d.length) ≤ 0 by omega) (show 0 ≤ k by omega)
      have hP2 := Int.mul_le_mul_of_nonneg_right (show -12 ≤ ((j : Int) - d.length) by omega) (show 0 ≤ k by omega)
      have e1 : IntKind.i64.wrap (((j : Int) - d.length) * k) = ((j : Int) - d.length) * k := IntWalk.i64_in _ (by omega)
      have hs := HRC.out.set j (((j : Int) - d.length) * k)
      have HS : Hid (RC (wr.setCell ⟨w0.heap.size, j, none⟩ (.int .i64 (((j : Int) - d.length) * k))) w0.heap.size d.length (ptI AH (j + 1))) := by
        show RC _ _ _ _
        rw [← HSET.out, HVAL.out]
        exact hs
      have HB7 := Lib.hid (HB.out.setCell (p := ⟨w0.heap.size, j, none⟩) (Nat.le_refl _) (.int .i64 (((j : Int) - d.length) * k)))
      have hne : w0.heap.size ≠ w.heap.size := by have := HS0.out; omega
      clear hs hP1 hP2
      go_wp2_with fail
      go_roundg g
      case measure => omega
      case rel => exact ⟨j + 1, by omega, by go_num, HS.out, HB7.out⟩
    | zero =>
      have hje : j = d.length := by omega
      have hz : ¬ ((d.length : Int) < (d.length : Int)) := by omega
      have HPA : Hid (ptI AH d.length = AH) := by show _ = _; have := ptI_all AH; rw [HAL.out] at this; exact this
      rw [hje, HPA.out] at HRC
      rw [hje]
      clear hje hjg
      obtain ⟨g9, hg9⟩ : ∃ g9, g9 = w0.heap.size := ⟨_, rfl⟩
      have HG9 := Lib.hid hg9
      have hlg : w.heap.size < g9 := by have := HS0.out; omega
      rw [← hg9] at HRC ⊢
      have HGL := Lib.hid HRC.out.lt
      have HW1 := Lib.hid (HW.out.trans (HB.out.mono HW.out.size))
      have HB9 : Hid (Below g9 w0 wr) := by show Below g9 w0 wr; rw [hg9]; exact HB.out
      obtain ⟨w1, hw1⟩ : ∃ w1, w1 = wr := ⟨_, rfl⟩
      rw [← hw1] at HRC HGL HW1 HB9 c0 c1 c2 ⊢
      clear hw1 HB hg9
      have HCL1 : Hid (∀ W, Wr g9 (g9 + 1) w1 W → W.cell? ⟨w.heap.size, 0, none⟩ = some (.int .i64 t) ∧ W.cell? ⟨w.heap.size, 1, none⟩ = some (.int .i64 k) ∧ W.cell? ⟨w.heap.size, 2, none⟩ = some (.slice A d.length c)) := by
        show ∀ W, _
        intro W hb
        have hb9 : Below w0.heap.size w0 W := by
          have := HB9.out.trans (hb.below (B := g9) (Nat.le_refl _) (Nat.le_of_lt HGL.out))
          rw [HG9.out] at this
          exact this
        exact HCL.out W hb9
      have HRC0 : Hid (RC w1 g9 d.length (rdT X L 0).2) := by show RC _ _ _ _; rw [HRD0.out.1]; exact HRC.out
      have HCL := HCL1
      clear HCL1 HRC
      go_wp2_with fail
      go_loopg [40, 9, 10, 11] L.length (fun g s40 s9 s10 s11 wx => ∃ r : Nat, r + g = L.length ∧ s40 = .int .i64 (r : Int) ∧ s11 = .int .i64 (rdT X L r).1 ∧ PrS 22 wx w1.heap.size s9 s10 (rowsB X L r 0) (goB X L r 0) ∧ RC wx g9 d.length (rdT X L r).2 ∧ Wr g9 (g9 + 1) w1 wx)
      case atStart => exact ⟨0, by omega, rfl, rfl, PrS.nil _ _ _, HRC0.out, Wr.refl _ _ _⟩
      case round =>
        clear HRC0 c0 c1 c2
        obtain ⟨r, hrg, rfl, rfl, hpr, hrc, hwr⟩ := hrel
        cases gk with
        | zero =>
          have hre : r = L.length := by omega
          have hz : ¬ ((L.length : Int) < (L.length : Int)) := by omega
          rw [hre, HVA.out, HGA.out] at hpr
          rw [hre]
          have HO1 := Lib.hid (hpr.os.wide HW1.out.size (Nat.le_refl _))
          have HO2 := Lib.hid (hpr.oi.wide HW1.out.size (Nat.le_refl _))
          have HBE := Lib.hid (HW1.out.trans (hwr.below (Nat.le_of_lt hlg) HW1.out.size))
          clear hpr hrc hwr hre hrg
          go_wp2_with fail
          refine bodyPost_ret (v := .tuple #[_, _]) (by simp [results, Try.results76, go_sem]; exact ⟨rfl, rfl⟩) rfl ?_
          exact ⟨_, _, rfl, HO1.out, HO2.out, HBE.out⟩
        | succ g =>
          have hr : r < L.length := by omega
          have hr' : (r : Int) < (L.length : Int) := by omega
          obtain ⟨b, off, rfl, hbB, hcell⟩ := HVC.out (by omega)
          have hb1 : Below w.heap.size w wr := HW1.out.trans (hwr.below (Nat.le_of_lt hlg) HW1.out.size)
          have hcx := (hb1.cell (p := ⟨b, off + r, none⟩) hbB).trans (hcell r hr)
          obtain ⟨ra, rc, hvr9, hrc9, hrcell⟩ := HVR.out r hr
          have hwl := HWL.out r hr
          obtain ⟨lr, hlr⟩ : ∃ lr, lr = L.getD r [] := ⟨_, rfl⟩
          have HLR : Hid (L.getD r [] = lr) := hlr.symm
          rw [← hlr] at hwl hvr9 hrc9 hrcell
          clear hlr
          rw [hvr9, hwl] at hcx
          rw [hwl] at hrc9 hrcell
          have HRW := Lib.hid hrcell
          have HPR0 := Lib.hid hpr
          have HRC1 := Lib.hid hrc
          have HWR1 := Lib.hid hwr
          clear hpr hrc hwr hb1 hcell hvr9 hrcell
          go_wp2_with fail
          go_loopg [46, 9, 10, 11] d.length (fun g s46 s9 s10 s11 wx => ∃ s : Nat, s + g = d.length ∧ s46 = .int .i64 (s : Int) ∧ s11 = .int .i64 (stT X lr (rdT X L r) s).1 ∧ PrS 22 wx w1.heap.size s9 s10 (rowsB X L r s) (goB X L r s) ∧ RC wx g9 d.length (stT X lr (rdT X L r) s).2 ∧ Wr g9 (g9 + 1) w1 wx)
          case atStart => exact ⟨0, by omega, rfl, rfl, HPR0.out, HRC1.out, HWR1.out⟩
          case round =>
            clear HPR0 HRC1 HWR1 hcx
            obtain ⟨s, hsg, rfl, rfl, hpr, hrc, hwr⟩ := hrel
            have HPR := Lib.hid hpr
            have HRC := Lib.hid hrc
            have HWR := Lib.hid hwr
            clear hpr hrc hwr
            cases gk with
            | zero =>
              have hse : s = d.length := by omega
              have hz : ¬ ((d.length : Int) < (d.length : Int)) := by omega
              have hXd2 : X.d.length = d.length := by rw [hXd]
              have h9 := HPR.out
              rw [hse, ← hXd2, HVN.out r, HGN.out r] at h9
              have HP9 := Lib.hid h9
              clear h9
              have HR9 : Hid (rdT X L (r + 1) = stT X lr (rdT X L r) d.length) := by show _ = _; rw [rdT_succ, hXd2, HLR.out]
              rw [hse] at HRC
              rw [hse]
              clear hse hsg HPR
              go_wp2_with fail
              go_roundg g
              case measure => omega
              case rel => exact ⟨r + 1, by omega, by go_num, by rw [HR9.out], HP9.out, by rw [HR9.out]; exact HRC.out, HWR.out⟩
            | succ g =>
              have hs : s < d.length := by omega
              have hs' : (s : Int) < (d.length : Int) := by omega
              obtain ⟨c0, c1, c2⟩ := HCL.out wr HWR.out
              have hb1 : Below w.heap.size w wr := HW1.out.trans (HWR.out.below (Nat.le_of_lt hlg) HW1.out.size)
              obtain ⟨b1, off1, rfl, hbB1, hcell1⟩ := HC.out (by omega)
              have HCD : Hid (∀ W, Wr g9 (g9 + 1) w1 W → W.cell? ⟨b1, off1 + s, none⟩ = some (.int .i64 (d.getD s 0))) := fun W hb => ((HW1.out.trans (hb.below (Nat.le_of_lt hlg) HW1.out.size)).cell (p := ⟨b1, off1 + s, none⟩) hbB1).trans (hcell1 s hs)
              obtain ⟨b2, off2, rfl, hbB2, hcell2⟩ := HRW.out (by omega)
              have hcw := (hb1.cell (p := ⟨b2, off2 + s, none⟩) hbB2).trans (hcell2 s hs)
              have hvi := HVI.out r s hr (by rw [hXd]; omega)
              rw [HLR.out] at hvi
              have hq9 := hvi.2.1 s
              have hdi := HDI.out s hs
              have hwi := HWI.out r s
              rw [HLR.out] at hwi
              have hsl9 := HSL.out r s
              rw [HLR.out] at hsl9
              have hlen2 : (stT X lr (rdT X L r) s).2.length = d.length := by rw [hsl9, HRL.out, hXd]
              have HLS : Hid (s < (stT X lr (rdT X L r) s).2.length) := by show _ < _; rw [hlen2]; exact hs
              have hcy := HRC.out.cell s HLS.out
              obtain ⟨T, hT⟩ : ∃ T, T = (stT X lr (rdT X L r) s).1 := ⟨_, rfl⟩
              obtain ⟨q, hq⟩ : ∃ q, q = (stT X lr (rdT X L r) s).2.getD s 0 := ⟨_, rfl⟩
              obtain ⟨fr, hfr⟩ : ∃ fr, fr = frT X lr (rdT X L r) s := ⟨_, rfl⟩
              have HQ : Hid ((stT X lr (rdT X L r) s).2.getD s 0 = q) := hq.symm
              have HST1 : Hid ((stT X lr (rdT X L r) (s + 1)).1 = T + (d.getD s 0 + fr + k)) := by
                show _ = _
                rw [stT_succ]
                show (stT X lr (rdT X L r) s).1 + X.d.getD s 0 + frT X lr (rdT X L r) s + X.k = _
                rw [hXd, hXk, ← hT, ← hfr]
                omega
              have HST2 : Hid ((stT X lr (rdT X L r) (s + 1)).2 = (stT X lr (rdT X L r) s).2.set s T) := by show _ = _; rw [stT_succ, hT]
              have HVW : Hid (rowsB X L r s ++ [[T, (s : Int), fr]] = rowsB X L r (s + 1)) := by show _ = _; rw [← HVS.out r s, hT, hfr, ← HLR.out]; rfl
              have HGW : Hid (goB X L r s ++ [T - q] = goB X L r (s + 1)) := by show _ = _; rw [← HGS.out r s, hT, hq, ← HLR.out]; rfl
              have hfe : fr = min (lr.getD s 0) (max 0 (t - (T - q))) := by rw [hfr, frT, ← hT, ← hq, hXt]
              rw [← hT, ← hfr] at hvi
              rw [← hq] at hcy hq9
              rw [← hT]
              obtain ⟨fd, hfd⟩ : ∃ fd, fd = d.getD s 0 := ⟨_, rfl⟩
              obtain ⟨wd, hwd⟩ : ∃ wd, wd = lr.getD s 0 := ⟨_, rfl⟩
              rw [← hfd] at HCD hdi HST1
              rw [← hwd] at hcw hwi hfe
              obtain ⟨lf, hlf⟩ : ∃ lf, lf = max 0 (t - (T - q)) := ⟨_, rfl⟩
              have HM1 := Lib.hid fun W => shMost_any 0 (t - (T - q)) W
              have HM2 := Lib.hid fun W => shLeast_any wd lf W
              rw [← hlf] at HM1 hfe
              rw [← hfe] at HM2
              have hfr9 : 0 ≤ fr ∧ fr ≤ 200 := hvi.2.2
              have hT9 : 0 ≤ T ∧ T ≤ 110000 := hvi.1
              have hne9 : g9 ≠ w.heap.size := by omega
              have hne8 : g9 ≠ b1 := by omega
              have hrl : r * d.length ≤ 20 * 12 := Nat.mul_le_mul (by omega) (by omega)
              have HLN : Hid ((rowsB X L r s).length < 1000000) := by show _ < _; rw [HBL0.out, hXd]; omega
              have HLN2 : Hid ((goB X L r s).length < 1000000000) := by show _ < _; rw [HGL0.out, hXd]; omega
              have HSZ : Hid (w1.heap.size ≤ wr.heap.size) := HWR.out.size
              have HBL : Hid (Below wr.heap.size wr (wr.alloc (.cells #[.int .i64 T, .int .i64 (s : Int), .int .i64 fr] 3))) := (Below.refl _ _).alloc (Nat.le_refl _) _
              have HS1 : Hid ((wr.alloc (.cells #[.int .i64 T, .int .i64 (s : Int), .int .i64 fr] 3)).heap.size = wr.heap.size + 1) := by show _ = _; simp
              have HOU := Lib.hid (litN9 (E := 3) (w := wr) [T, (s : Int), fr] 3 #[.int .i64 T, .int .i64 (s : Int), .int .i64 fr] rfl (by omega) rfl (by simp))
              clear hsl9 hT hq hfr hfe hlf hfd hwd hvi hcell1 hcell2 hb1 hlen2 hbB1 hbB2
              go_wp2_with (first
                | (go_at_call 81; (with_reducible refine (HM1.out _).mono ?_); rintro e w_ ⟨rfl, rfl⟩)
                | (go_at_call 71; (with_reducible refine (HM2.out _).mono ?_); rintro e w_ ⟨rfl, rfl⟩)
                | (at_builtin; refine wpList_pushSP rfl (.tmp 64) (.tmp 69) 59 rfl 22 (by decide) iS Try.underlying59 hiS hS0 hS1 hS2 wr (wr.alloc (.cells #[.int .i64 T, .int .i64 (s : Int), .int .i64 fr] 3)) wr w1.heap.size _ (.slice (some ⟨wr.heap.size, 0, none⟩) 3 3) _ _ _ [T, (s : Int), fr] rfl rfl HPR.out HBL.out HOU.out (by simp) HSZ.out (by rw [HS1.out]; rfl) HLN.out (HBL.out.mono HSZ.out) ?_; intro v2 w2 hp2 hb2 _ _; have HP2 := Lib.hid hp2; have hrc2 := HRC.out.low hb2 HGL.out; have HRC2 := Lib.hid hrc2; have HWR2 := Lib.hid (HWR.out.low9 hb2 rfl); have HSZ2 := Lib.hid (Nat.le_trans HSZ.out hb2.size); clear hp2 hb2 hrc2)
                | (at_builtin; refine wpList_pushIP rfl (.tmp 71) (.tmp 73) 22 rfl 22 (by decide) i0 Try.underlying22 hi hz0 hz1 hz2 w2 w2 w1.heap.size _ _ _ _ (T - q) rfl rfl HP2.out rfl HLN2.out HSZ2.out (Below.refl _ _) ?_; intro v3 w3 hp3 hb3; have hrc3 := HRC2.out.low hb3 HGL.out; have y3 := hrc3.cell s HLS.out; have z3 := hrc3.free s; rw [HQ.out] at y3; have hwr3 : Wr g9 (g9 + 1) w1 w3 := HWR2.out.low9 hb3 rfl; obtain ⟨e0, e1, e2⟩ := HCL.out w3 hwr3; have hcd3 := HCD.out w3 hwr3; have HP3 := Lib.hid hp3; have HRC3 := Lib.hid hrc3; have HWR3 := Lib.hid hwr3; clear hp3 hb3 hrc3 hwr3))
              go_region
              go_wp2_with fail
              have hsr := HRC3.out.set s T
              rw [← HST2.out] at hsr
              have hwr4 : Wr g9 (g9 + 1) w3 (w3.setCell ⟨g9, s, none⟩ (.int .i64 T)) := (Wr.refl g9 (g9 + 1) w3).setCell (p := ⟨g9, s, none⟩) (Nat.le_refl _) (Nat.lt_succ_self _) _
              have HP4 := Lib.hid (HP3.out.far hwr4 (.inl HGL.out))
              have HWR4 := Lib.hid ((HWR3.out.trans hwr4).then9 ((Below.refl _ _).drew))
              have HSR := Lib.hid hsr
              clear hsr hwr4
              go_roundg g
              case measure => omega
              case rel => exact ⟨s + 1, by omega, by go_num, by rw [HST1.out], by rw [← HVW.out, ← HGW.out]; exact HP4.out, HSR.out, HWR4.out⟩
end Go.Proofs.Ytgkpdlicgllcoaa
