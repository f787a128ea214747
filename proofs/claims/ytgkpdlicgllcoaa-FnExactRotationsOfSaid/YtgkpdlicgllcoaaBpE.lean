/-
  Chapter 9: the program's visits.
-/
import Derived.Test.YtgkpdlicgllcoaaBpD
namespace Go.Proofs.Ytgkpdlicgllcoaa
open Go.RowKit
set_option maxRecDepth 100000
set_option linter.unusedVariables false
theorem tv_info : (Try.prog.info? 83).map (fun i => (i.zero, i.size, i.bytes)) = some (some (.agg #[.int .i64 0, .int .i64 0, .int .i64 0]), 3, 24) := by kernel_rfl
theorem RC.low {w w' : World} {g c lo : Nat} {L : List Int} (h : RC w g c L) (hb : Below lo w w') (hg : g < lo) : RC w' g c L :=
  h.far (a := lo) (b := w.heap.size) ⟨hb.os, hb.tape, hb.output, hb.size, fun k hk hn => hb.block k (by omega)⟩ (.inl hg)
theorem AccK.far9 {k : Nat} {E : TypeId} {w w' : World} {lo a b n : Nat} {v : Value} {l : List Int} (h : AccK k E w lo v n l) (hg : Wr a b w w') (hb : b ≤ lo) : AccK k E w' lo v n l := by
  refine ⟨h.1, ?_⟩
  have h0 := h.2
  rcases h.2.2 with ⟨rfl, hn⟩ | ⟨g, c, cur, rfl, hg1, _⟩
  · exact ⟨h.2.1, .inl ⟨rfl, hn⟩⟩
  · exact rowk_far h0 hg (.inr (by omega))
theorem Wr.low9 {a b lo : Nat} {w0 w1 w2 : World} (h : Wr a b w0 w1) (hb : Below lo w1 w2) (hlo : lo = w0.heap.size) : Wr a b w0 w2 := by
  subst hlo
  exact ⟨hb.os.trans h.os, hb.tape.trans h.tape, hb.output.trans h.output, Nat.le_trans h.size hb.size, fun k hk hn => (hb.block k hk).trans (h.block k hk hn)⟩
/-- The visits so far, one behind the other. -/
def visF (x : Tm) (L : List (List Int)) (r s : Nat) : List Int := (vrR x L r ++ vrS x L r s).flatten
theorem visF_succ (x : Tm) (L : List (List Int)) (r s : Nat) : visF x L r s ++ vrow x L r s = visF x L r (s + 1) := by
  unfold visF
  rw [vrS_succ, ← List.append_assoc, List.flatten_append]
  simp
theorem visF_next (x : Tm) (L : List (List Int)) (r : Nat) : visF x L r x.d.length = visF x L (r + 1) 0 := by simp [visF, vrR, vrS]
theorem visF_all (x : Tm) (L : List (List Int)) (r : Nat) : visF x L r 0 = (vrR x L r).flatten := by simp [visF, vrS]
set_option maxHeartbeats 4000000 in
theorem timedVisits_any (s0 v : Value) (x : Tm) (L : List (List Int)) (w : World) (h : RI w w.heap.size s0 x.d) (h2 : RS w w.heap.size v L) (hask : askT x L = true) :
    Calls Try.prog 78 #[TmV x s0, v] w fun e w' => ∃ u, e = .returned u ∧ OK 3 83 w' w.heap.size w'.heap.size u (L.length * x.d.length) (vrR x L L.length).flatten ∧ Below w.heap.size w w' := by
  have hask2 := hask
  simp only [askT, Bool.and_eq_true] at hask2
  have hin := tmOk_in hask2.1
  have hL20 := wishOk_len hask2.2
  have HT := Lib.hid fun W (hb : Below w.heap.size w W) => visitsAhead_any s0 x W ((h.below hb).more hb.size) (tmOk_pre hask2.1)
  have HVI := Lib.hid fun r s hr hs => visit_in (r := r) (s := s) hask hr hs
  have HRL := Lib.hid fun r => rdT_len x L r
  have HSL := Lib.hid fun r s => stT_len x (L.getD r []) (rdT x L r) s
  have HWL := Lib.hid fun r hr => (wishOk_at hask2.2 r hr).1
  have HWI := Lib.hid fun r j => wishD hask2.2 r j
  have HDI := Lib.hid fun j hj => okAll_at hin.2.2.2.1 j hj
  have HVA := Lib.hid fun r => visF_all x L r
  have HVN := Lib.hid fun r => visF_next x L r
  have HVS := Lib.hid fun r s => visF_succ x L r s
  obtain ⟨i0, hi, hz0, hz1, hz2⟩ := info_parts tv_info
  obtain ⟨X, hX⟩ : ∃ X, X = x := ⟨_, rfl⟩
  have HX := Lib.hid hX
  have hXd : X.d = x.d := by rw [hX]
  have hXt : X.t = x.t := by rw [hX]
  have hXk : X.k = x.k := by rw [hX]
  rw [← hX] at HVI HRL HSL HVA HVN HVS
  rw [show vrR x L L.length = vrR X L L.length from by rw [hX]]
  rw [show aheadT x = aheadT X from by rw [hX]] at HT
  clear hX hask hask2 HX
  obtain ⟨t, k, d⟩ := x
  simp only [TmV] at *
  obtain ⟨A, c, rfl, hlc, hc⟩ := h
  obtain ⟨V, VA, vc, rfl, hV, hvl, hvc, hvr⟩ := h2
  have HC := Lib.hid hc
  have HVC := Lib.hid hvc
  have HVR := Lib.hid hvr
  clear hc hvc hvr
  have hn' : (d.length : Int) ≤ 12 := by omega
  have hL' : (L.length : Int) ≤ 20 := by omega
  have hW : Below w.heap.size w (w.alloc (.cells #[.int .i64 t, .int .i64 k, .slice A d.length c] 27)) := (Below.refl _ _).alloc (Nat.le_refl _) _
  have p0 := BK.made w 27 #[.int .i64 t, .int .i64 k, .slice A d.length c]
  go_enter Try.func78, Try.ntmps78
  go_wp2_with fail
  refine (HT.out _ hW).mono ?_; rintro e w1 ⟨g9, c9, rfl, hrc, hg9, hb1⟩
  have HW1 := Lib.hid (hW.trans (hb1.mono hW.size))
  have hsz0 : (w.alloc (.cells #[.int .i64 t, .int .i64 k, .slice A d.length c] 27)).heap.size = w.heap.size + 1 := by simp
  have hlg : w.heap.size < g9 := by omega
  have HGL := Lib.hid hrc.lt
  have p1 := p0.step hb1
  have HCL : Hid (∀ W, Wr g9 (g9 + 1) w1 W → W.cell? ⟨w.heap.size, 0, none⟩ = some (.int .i64 t) ∧ W.cell? ⟨w.heap.size, 1, none⟩ = some (.int .i64 k) ∧ W.cell? ⟨w.heap.size, 2, none⟩ = some (.slice A d.length c)) := by
    show ∀ W, _
    intro W hb
    have p2 := p1.far hb (.inl hlg)
    have c0 := p2.cell 0
    have c1 := p2.cell 1
    have c2 := p2.cell 2
    simp at c0 c1 c2
    exact ⟨c0, c1, c2⟩
  have HRC0 : Hid (RC w1 g9 c9 (rdT X L 0).2) := hrc
  clear hrc hb1 p0 p1 hW HT hg9 hsz0
  go_wp2_with fail
  go_loopg [18, 5, 7] L.length (fun g s18 s5 s7 wx => ∃ r : Nat, r + g = L.length ∧ s18 = .int .i64 (r : Int) ∧ s7 = .int .i64 (rdT X L r).1 ∧ AccK 3 83 wx w1.heap.size s5 (r * d.length) (visF X L r 0) ∧ RC wx g9 c9 (rdT X L r).2 ∧ Wr g9 (g9 + 1) w1 wx)
  case atStart => exact ⟨0, by omega, rfl, rfl, (by rw [Nat.zero_mul]; exact AccK.nil _ _ _ _), HRC0.out, Wr.refl _ _ _⟩
  case round =>
    clear HRC0
    obtain ⟨r, hrg, rfl, rfl, hacc, hrc, hwr⟩ := hrel
    cases gk with
    | zero =>
      have hre : r = L.length := by omega
      have hz : ¬ ((L.length : Int) < (L.length : Int)) := by omega
      rw [hre, HVA.out] at hacc
      rw [hre]
      have HO := Lib.hid (hacc.ok.wide HW1.out.size (Nat.le_refl _))
      have HB := Lib.hid (HW1.out.trans (hwr.below (Nat.le_of_lt hlg) HW1.out.size))
      clear hacc hrc hwr hre hrg
      go_wp2_with fail
      go_ret
      exact ⟨_, rfl, HO.out, HB.out⟩
    | succ g =>
      have hr : r < L.length := by omega
      have hr' : (r : Int) < (L.length : Int) := by omega
      obtain ⟨c0, c1, c2⟩ := HCL.out wr hwr
      obtain ⟨b, off, rfl, hbB, hcell⟩ := HVC.out (by omega)
      have hb1 : Below w.heap.size w wr := HW1.out.trans (hwr.below (Nat.le_of_lt hlg) HW1.out.size)
      have hcx := (hb1.cell (p := ⟨b, off + r, none⟩) hbB).trans (hcell r hr)
      obtain ⟨ra, rc, hvr9, hrc9, hrcell⟩ := HVR.out r hr
      have hwl := HWL.out r hr
      obtain ⟨lr, hlr⟩ : ∃ lr, lr = L.getD r [] := ⟨_, rfl⟩
      have HLR : Hid (L.getD r [] = lr) := hlr.symm
      rw [← hlr] at hwl hvr9 hrc9 hrcell
      clear hlr
      rw [hvr9, hwl] at hcx
      rw [hwl] at hrc9 hrcell
      have HRW := Lib.hid hrcell
      have HACC := Lib.hid hacc
      have HRC1 := Lib.hid hrc
      have HWR1 := Lib.hid hwr
      clear hacc hrc hwr hb1 hcell hvr9 hrcell
      go_wp2_with fail
      go_loopg [25, 5, 7] d.length (fun g s25 s5 s7 wx => ∃ s : Nat, s + g = d.length ∧ s25 = .int .i64 (s : Int) ∧ s7 = .int .i64 (stT X lr (rdT X L r) s).1 ∧ AccK 3 83 wx w1.heap.size s5 (r * d.length + s) (visF X L r s) ∧ RC wx g9 c9 (stT X lr (rdT X L r) s).2 ∧ Wr g9 (g9 + 1) w1 wx)
      case atStart => exact ⟨0, by omega, rfl, rfl, HACC.out, HRC1.out, HWR1.out⟩
      case round =>
        clear HACC HRC1 HWR1 c0 c1 c2 hcx
        obtain ⟨s, hsg, rfl, rfl, hacc, hrc, hwr⟩ := hrel
        have HA := Lib.hid hacc
        have HRC := Lib.hid hrc
        have HWR := Lib.hid hwr
        clear hacc hrc hwr
        cases gk with
        | zero =>
          have hse : s = d.length := by omega
          have hz : ¬ ((d.length : Int) < (d.length : Int)) := by omega
          have hXd2 : X.d.length = d.length := by rw [hXd]
          have h9 := HA.out
          rw [hse, ← hXd2, HVN.out r, hXd2, ← Nat.succ_mul] at h9
          have HA9 := Lib.hid h9
          clear h9
          have HR9 : Hid (rdT X L (r + 1) = stT X lr (rdT X L r) d.length) := by show _ = _; rw [rdT_succ, hXd2, HLR.out]
          rw [hse] at HRC
          rw [hse]
          clear hse hsg HA
          go_wp2_with fail
          go_roundg g
          case measure => omega
          case rel => exact ⟨r + 1, by omega, by go_num, by rw [HR9.out], HA9.out, by rw [HR9.out]; exact HRC.out, HWR.out⟩
        | succ g =>
          have hs : s < d.length := by omega
          have hs' : (s : Int) < (d.length : Int) := by omega
          obtain ⟨c0, c1, c2⟩ := HCL.out wr HWR.out
          have hb1 : Below w.heap.size w wr := HW1.out.trans (HWR.out.below (Nat.le_of_lt hlg) HW1.out.size)
          obtain ⟨b1, off1, rfl, hbB1, hcell1⟩ := HC.out (by omega)
          have hcd := (hb1.cell (p := ⟨b1, off1 + s, none⟩) hbB1).trans (hcell1 s hs)
          obtain ⟨b2, off2, rfl, hbB2, hcell2⟩ := HRW.out (by omega)
          have hcw := (hb1.cell (p := ⟨b2, off2 + s, none⟩) hbB2).trans (hcell2 s hs)
          have hvi := HVI.out r s hr (by rw [hXd]; omega)
          rw [HLR.out] at hvi
          have hq9 := hvi.2.1 s
          have hdi := HDI.out s hs
          have hwi := HWI.out r s
          rw [HLR.out] at hwi
          have hsl9 := HSL.out r s
          rw [HLR.out] at hsl9
          have hlen2 : (stT X lr (rdT X L r) s).2.length = d.length := by rw [hsl9, HRL.out, hXd]
          have HLS : Hid (s < (stT X lr (rdT X L r) s).2.length) := by show _ < _; rw [hlen2]; exact hs
          have hcy := HRC.out.cell s HLS.out
          obtain ⟨T, hT⟩ : ∃ T, T = (stT X lr (rdT X L r) s).1 := ⟨_, rfl⟩
          obtain ⟨q, hq⟩ : ∃ q, q = (stT X lr (rdT X L r) s).2.getD s 0 := ⟨_, rfl⟩
          obtain ⟨fr, hfr⟩ : ∃ fr, fr = frT X lr (rdT X L r) s := ⟨_, rfl⟩
          have HQ : Hid ((stT X lr (rdT X L r) s).2.getD s 0 = q) := hq.symm
          have HST1 : Hid ((stT X lr (rdT X L r) (s + 1)).1 = T + (d.getD s 0 + fr + k)) := by
            show _ = _
            rw [stT_succ]
            show (stT X lr (rdT X L r) s).1 + X.d.getD s 0 + frT X lr (rdT X L r) s + X.k = _
            rw [hXd, hXk, ← hT, ← hfr]
            omega
          have HST2 : Hid ((stT X lr (rdT X L r) (s + 1)).2 = (stT X lr (rdT X L r) s).2.set s T) := by show _ = _; rw [stT_succ, hT]
          have HVW : Hid (visF X L r s ++ [T, (s : Int), fr] = visF X L r (s + 1)) := by show _ = _; rw [← HVS.out r s, hT, hfr, ← HLR.out]; rfl
          have hfe : fr = min (lr.getD s 0) (max 0 (t - (T - q))) := by rw [hfr, frT, ← hT, ← hq, hXt]
          rw [← hT, ← hfr] at hvi
          rw [← hq] at hcy hq9
          rw [← hT]
          obtain ⟨fd, hfd⟩ : ∃ fd, fd = d.getD s 0 := ⟨_, rfl⟩
          obtain ⟨wd, hwd⟩ : ∃ wd, wd = lr.getD s 0 := ⟨_, rfl⟩
          rw [← hfd] at hcd hdi HST1
          rw [← hwd] at hcw hwi hfe
          have hfr9 : 0 ≤ fr ∧ fr ≤ 200 := hvi.2.2
          have hT9 : 0 ≤ T ∧ T ≤ 110000 := hvi.1
          have hne9 : g9 ≠ w.heap.size := by omega
          have hrl : r * d.length ≤ 20 * 12 := Nat.mul_le_mul (by omega) (by omega)
          have HLN : Hid (r * d.length + s < 1000000000) := by show _ < _; omega
          have HSZ : Hid (w1.heap.size ≤ wr.heap.size) := HWR.out.size
          clear hsl9 hT hq hfr hfd hwd hvi hcell1 hcell2 hb1 hlen2
          by_cases hA : t ≤ T - q
          · by_cases hB : wd ≤ 0
            · have hfv : fr = wd := by rw [hfe]; omega
              rw [hfv] at HST1 HVW hfr9
              clear hfe hfv
              have HRCD : Hid (RC wr.drew g9 c9 (stT X lr (rdT X L r) s).2) := HRC.out
              have HWRD := Lib.hid (HWR.out.then9 ((Below.refl wr.heap.size wr).drew))
              go_wp2_with fail
              go_region
              go_wp2_with (at_builtin; refine wpList_pushK rfl (.tmp 46) (.tmp 51) 80 rfl 83 i0 Try.underlying80 hi _ 3 24 hz0 hz1 hz2 rfl (by omega) (by omega) wr.drew wr.drew w1.heap.size _ (r * d.length + s) (visF X L r s) [T, (s : Int), wd] _ rfl rfl rfl rfl HA.out rfl HLN.out HSZ.out (Below.refl _ _) ?_; intro v2 w2 ha2 hb2; have hrc2 := HRCD.out.low hb2 HGL.out; have y2 := hrc2.cell s HLS.out; have z2 := hrc2.free s; rw [HQ.out] at y2; have hwr2 : Wr g9 (g9 + 1) w1 w2 := HWRD.out.low9 hb2 rfl; obtain ⟨e0, e1, e2⟩ := HCL.out w2 hwr2; have HRC2 := Lib.hid hrc2; have HWR2 := Lib.hid hwr2; have HA2 := Lib.hid ha2; clear ha2 hb2 hrc2 hwr2)
              have hsr := HRC2.out.set s T
              rw [← HST2.out] at hsr
              have HSR := Lib.hid hsr
              have hwr3 : Wr g9 (g9 + 1) w2 (w2.setCell ⟨g9, s, none⟩ (.int .i64 T)) := (Wr.refl g9 (g9 + 1) w2).setCell (p := ⟨g9, s, none⟩) (Nat.le_refl _) (Nat.lt_succ_self _) _
              have HA3 := Lib.hid (HA2.out.far9 hwr3 HGL.out)
              have HWR3 := Lib.hid (HWR2.out.trans hwr3)
              clear hsr hwr3
              go_roundg g
              case measure => omega
              case rel => exact ⟨s + 1, by omega, by go_num, by rw [HST1.out] <;> simp, by rw [← HVW.out]; exact HA3.out, HSR.out, HWR3.out⟩
            · have hB2 : 0 < wd := by omega
              have hfv : fr = 0 := by rw [hfe]; omega
              rw [hfv] at HST1 HVW hfr9
              clear hfe hfv
              have HRCD : Hid (RC wr.drew g9 c9 (stT X lr (rdT X L r) s).2) := HRC.out
              have HWRD := Lib.hid (HWR.out.then9 ((Below.refl wr.heap.size wr).drew))
              go_wp2_with fail
              go_region
              go_wp2_with (at_builtin; refine wpList_pushK rfl (.tmp 46) (.tmp 51) 80 rfl 83 i0 Try.underlying80 hi _ 3 24 hz0 hz1 hz2 rfl (by omega) (by omega) wr.drew wr.drew w1.heap.size _ (r * d.length + s) (visF X L r s) [T, (s : Int), 0] _ rfl rfl rfl rfl HA.out rfl HLN.out HSZ.out (Below.refl _ _) ?_; intro v2 w2 ha2 hb2; have hrc2 := HRCD.out.low hb2 HGL.out; have y2 := hrc2.cell s HLS.out; have z2 := hrc2.free s; rw [HQ.out] at y2; have hwr2 : Wr g9 (g9 + 1) w1 w2 := HWRD.out.low9 hb2 rfl; obtain ⟨e0, e1, e2⟩ := HCL.out w2 hwr2; have HRC2 := Lib.hid hrc2; have HWR2 := Lib.hid hwr2; have HA2 := Lib.hid ha2; clear ha2 hb2 hrc2 hwr2)
              have hsr := HRC2.out.set s T
              rw [← HST2.out] at hsr
              have HSR := Lib.hid hsr
              have hwr3 : Wr g9 (g9 + 1) w2 (w2.setCell ⟨g9, s, none⟩ (.int .i64 T)) := (Wr.refl g9 (g9 + 1) w2).setCell (p := ⟨g9, s, none⟩) (Nat.le_refl _) (Nat.lt_succ_self _) _
              have HA3 := Lib.hid (HA2.out.far9 hwr3 HGL.out)
              have HWR3 := Lib.hid (HWR2.out.trans hwr3)
              clear hsr hwr3
              go_roundg g
              case measure => omega
              case rel => exact ⟨s + 1, by omega, by go_num, by rw [HST1.out] <;> simp, by rw [← HVW.out]; exact HA3.out, HSR.out, HWR3.out⟩
          · have hA2 : T - q < t := by omega
            by_cases hB : wd ≤ t - (T - q)
            · have hfv : fr = wd := by rw [hfe]; omega
              rw [hfv] at HST1 HVW hfr9
              clear hfe hfv
              have HRCD : Hid (RC wr.drew g9 c9 (stT X lr (rdT X L r) s).2) := HRC.out
              have HWRD := Lib.hid (HWR.out.then9 ((Below.refl wr.heap.size wr).drew))
              go_wp2_with fail
              go_region
              go_wp2_with (at_builtin; refine wpList_pushK rfl (.tmp 46) (.tmp 51) 80 rfl 83 i0 Try.underlying80 hi _ 3 24 hz0 hz1 hz2 rfl (by omega) (by omega) wr.drew wr.drew w1.heap.size _ (r * d.length + s) (visF X L r s) [T, (s : Int), wd] _ rfl rfl rfl rfl HA.out rfl HLN.out HSZ.out (Below.refl _ _) ?_; intro v2 w2 ha2 hb2; have hrc2 := HRCD.out.low hb2 HGL.out; have y2 := hrc2.cell s HLS.out; have z2 := hrc2.free s; rw [HQ.out] at y2; have hwr2 : Wr g9 (g9 + 1) w1 w2 := HWRD.out.low9 hb2 rfl; obtain ⟨e0, e1, e2⟩ := HCL.out w2 hwr2; have HRC2 := Lib.hid hrc2; have HWR2 := Lib.hid hwr2; have HA2 := Lib.hid ha2; clear ha2 hb2 hrc2 hwr2)
              have hsr := HRC2.out.set s T
              rw [← HST2.out] at hsr
              have HSR := Lib.hid hsr
              have hwr3 : Wr g9 (g9 + 1) w2 (w2.setCell ⟨g9, s, none⟩ (.int .i64 T)) := (Wr.refl g9 (g9 + 1) w2).setCell (p := ⟨g9, s, none⟩) (Nat.le_refl _) (Nat.lt_succ_self _) _
              have HA3 := Lib.hid (HA2.out.far9 hwr3 HGL.out)
              have HWR3 := Lib.hid (HWR2.out.trans hwr3)
              clear hsr hwr3
              go_roundg g
              case measure => omega
              case rel => exact ⟨s + 1, by omega, by go_num, by rw [HST1.out] <;> simp, by rw [← HVW.out]; exact HA3.out, HSR.out, HWR3.out⟩
            · have hB2 : t - (T - q) < wd := by omega
              have hfv : fr = (t - (T - q)) := by rw [hfe]; omega
              rw [hfv] at HST1 HVW hfr9
              clear hfe hfv
              have HRCD : Hid (RC wr.drew g9 c9 (stT X lr (rdT X L r) s).2) := HRC.out
              have HWRD := Lib.hid (HWR.out.then9 ((Below.refl wr.heap.size wr).drew))
              go_wp2_with fail
              go_region
              go_wp2_with (at_builtin; refine wpList_pushK rfl (.tmp 46) (.tmp 51) 80 rfl 83 i0 Try.underlying80 hi _ 3 24 hz0 hz1 hz2 rfl (by omega) (by omega) wr.drew wr.drew w1.heap.size _ (r * d.length + s) (visF X L r s) [T, (s : Int), (t - (T - q))] _ rfl rfl rfl rfl HA.out rfl HLN.out HSZ.out (Below.refl _ _) ?_; intro v2 w2 ha2 hb2; have hrc2 := HRCD.out.low hb2 HGL.out; have y2 := hrc2.cell s HLS.out; have z2 := hrc2.free s; rw [HQ.out] at y2; have hwr2 : Wr g9 (g9 + 1) w1 w2 := HWRD.out.low9 hb2 rfl; obtain ⟨e0, e1, e2⟩ := HCL.out w2 hwr2; have HRC2 := Lib.hid hrc2; have HWR2 := Lib.hid hwr2; have HA2 := Lib.hid ha2; clear ha2 hb2 hrc2 hwr2)
              have hsr := HRC2.out.set s T
              rw [← HST2.out] at hsr
              have HSR := Lib.hid hsr
              have hwr3 : Wr g9 (g9 + 1) w2 (w2.setCell ⟨g9, s, none⟩ (.int .i64 T)) := (Wr.refl g9 (g9 + 1) w2).setCell (p := ⟨g9, s, none⟩) (Nat.le_refl _) (Nat.lt_succ_self _) _
              have HA3 := Lib.hid (HA2.out.far9 hwr3 HGL.out)
              have HWR3 := Lib.hid (HWR2.out.trans hwr3)
              clear hsr hwr3
              go_roundg g
              case measure => omega
              case rel => exact ⟨s + 1, by omega, by go_num, by rw [HST1.out] <;> simp, by rw [← HVW.out]; exact HA3.out, HSR.out, HWR3.out⟩
end Go.Proofs.Ytgkpdlicgllcoaa
