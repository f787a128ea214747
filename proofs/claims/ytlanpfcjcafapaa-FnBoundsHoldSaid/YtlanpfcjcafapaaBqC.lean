/-
  Chapter 9: ServedBy, both sides, and what the model's boServe gives.
-/
import Derived.Test.YtlanpfcjcafapaaBqB
import Derived.Test.YtlanpfcjcafapaaPr
import Derived.Test.YtlanpfcjcafapaaRow5
import Derived.Deep.LoopGhost
namespace Go.Proofs.Ytlanpfcjcafapaa
open Go.RowKit
set_option maxRecDepth 100000
set_option linter.unusedVariables false

theorem srvSays_no {x : Sv} {l : List Int} (h : askV x l = false) : srvSays x l = ([], false) := by simp [srvSays, h]
theorem srvSays_yes {x : Sv} {l : List Int} (h : askV x l = true) : srvSays x l = svO x l (svRg x l) := by simp [srvSays, h]
set_option maxHeartbeats 2000000 in
theorem implServedBy_any (v : Value) (x : Sv) (l : List Int) (w : World) (h : RI w w.heap.size v l) (hn : l.length ≤ 1048576) :
    Calls Try.prog 8 #[SvV x, v] w (RetLB 3 w (srvSays x l).1 (srvSays x l).2) := by
  have H1 := Lib.hid fun w => implServer_any x w
  have H2 := Lib.hid fun W (hb : Below w.heap.size w W) => implTraffic_any v l W ((h.below hb).more hb.size) hn
  have H3 := Lib.hid fun (hx : svOk x = true) (hl : trOk l = true) sn tb W hi hc ht (hs : w.heap.size ≤ sn) (hb : Below w.heap.size w W) => leftAtDoor_any sn tb W v x l hi hc ht ((h.below hb).more hs) hx hl
  obtain ⟨A, c, rfl, _, _⟩ := h
  have hmf : ∀ (fn : Fn) (first cap : Array Value) (w : World), (Instr.makeFunc fn first cap).run Try.prog w = .ok (.func fn first cap) w := fun _ _ _ _ => rfl
  have hs1 : (w.alloc (.cells #[.int .i64 x.r, .int .i64 x.l] 25)).heap.size = w.heap.size + 1 := by simp
  have p0 := (BK.made w 25 #[.int .i64 x.r, .int .i64 x.l]).alloc (.cells #[.slice A l.length c] 26)
  have q0 := BK.made (w.alloc (.cells #[.int .i64 x.r, .int .i64 x.l] 25)) 26 #[.slice A l.length c]
  rw [hs1] at q0
  have hW : Below w.heap.size w ((w.alloc (.cells #[.int .i64 x.r, .int .i64 x.l] 25)).alloc (.cells #[.slice A l.length c] 26)) := ((Below.refl _ _).alloc (Nat.le_refl _) _).alloc (by rw [hs1]; omega) _
  clear hs1
  cases hx : svOk x
  · rw [srvSays_no (by simp [askV, hx])]
    rw [hx] at H1
    clear hx H3
    obtain ⟨r, d⟩ := x
    simp only [SvV] at *
    have c0 := p0.cell 0
    have c1 := p0.cell 1
    simp at c0 c1
    go_enter Try.func8, Try.ntmps8
    go_wp2_with fail
    refine (H1.out _).mono ?_; rintro e w1 ⟨rfl, hb1⟩
    go_wp2_with fail
    go_ret2
    exact ⟨_, rfl, .inl ⟨rfl, none, 0, rfl, by simp, fun _ => rfl⟩, hW.trans (hb1.mono hW.size)⟩
  rw [hx] at H1
  cases hl : trOk l
  · rw [srvSays_no (by simp [askV, hl])]
    rw [hl] at H2
    clear hx hl H3
    obtain ⟨r, d⟩ := x
    simp only [SvV] at *
    have c0 := p0.cell 0
    have c1 := p0.cell 1
    simp at c0 c1
    go_enter Try.func8, Try.ntmps8
    go_wp2_with fail
    refine (H1.out _).mono ?_; rintro e w1 ⟨rfl, hb1⟩
    have q1 := q0.step hb1
    have k0 := q1.cell 0
    simp at k0
    have HT := Lib.hid (hW.trans (hb1.mono hW.size))
    clear c0 c1
    go_wp2_with fail
    refine (H2.out _ HT.out).mono ?_; rintro e w2 ⟨rfl, rfl⟩
    go_wp2_with fail
    go_ret2
    exact ⟨_, rfl, .inl ⟨rfl, none, 0, rfl, by simp, fun _ => rfl⟩, HT.out⟩
  rw [hl] at H2
  rw [srvSays_yes (by simp [askV, hx, hl])]
  have H3 := Lib.hid (H3.out hx hl)
  have HYES : Hid (∀ n, svRg x l = some n → svO x l (svRg x l) = (svT x l n, true)) := fun n e => by rw [e]; rfl
  have HNO : Hid (svRg x l = none → svO x l (svRg x l) = ([], false)) := fun e => by rw [e]; rfl
  obtain ⟨POST, hP⟩ : ∃ P, P = RetLB 3 w (svO x l (svRg x l)).1 (svO x l (svRg x l)).2 := ⟨_, rfl⟩
  have HPO := Lib.hid hP
  rw [← hP]
  clear hx hl hP
  have hds : BK (w.alloc (.cells #[] 72)) w.heap.size 72 #[] := BK.made _ _ _
  clear hds
  obtain ⟨r, d⟩ := x
  simp only [SvV] at *
  have c0 := p0.cell 0
  have c1 := p0.cell 1
  simp at c0 c1
  go_enter Try.func8, Try.ntmps8
  go_wp2_with fail
  refine (H1.out _).mono ?_; rintro e w1 ⟨rfl, hb1⟩
  have p1 := p0.step hb1
  have q1 := q0.step hb1
  have k0 := q1.cell 0
  have k1 := p1.cell 0
  have k2 := p1.cell 1
  simp at k0 k1 k2
  have HT := Lib.hid (hW.trans (hb1.mono hW.size))
  have HQ1 := Lib.hid q1
  have hsz := q1.1
  have HSZ := Lib.hid hsz
  clear c0 c1 p0 q0 hW hb1 p1 q1 hsz
  go_wp2_with fail
  refine (H2.out _ HT.out).mono ?_; rintro e w2 ⟨rfl, rfl⟩
  have hs := BK.made w1 72 #[.int .i64 r, .int .i64 d, .slice none 0 0, .int .i64 0]
  have hA : Below w1.heap.size w1 (w1.alloc (.cells #[.int .i64 r, .int .i64 d, .slice none 0 0, .int .i64 0] 72)) := (Below.refl _ _).alloc (Nat.le_refl _) _
  have HA := Lib.hid (HT.out.trans (hA.mono HT.out.size))
  have hq2 := (HQ1.out.step hA).cell 0
  simp at hq2
  have HD := Lib.hid (H3.out w1.heap.size (w.heap.size + 1) _ hs hq2 HSZ.out HT.out.size HA.out)
  clear hs hA hq2
  go_wp2_with fail
  refine HD.out.mono ?_; intro e w3 h3
  obtain ⟨hw3, h4⟩ := h3
  have HB3 : Hid (Below w.heap.size w w3) := HA.out.trans (hw3.below HT.out.size HA.out.size)
  clear hw3
  rcases h4 with ⟨n, b, hr, rfl, hi⟩ | ⟨b, hr, hb, rfl⟩
  · obtain ⟨_, u, hbk, hacc⟩ := hi
    have m2 := hbk.cell 2
    simp at m2
    have hoi := hacc.oi
    have HOI := Lib.hid (hoi.wide HA.out.size (Nat.le_refl _))
    have HRR := Lib.hid (HYES.out n hr)
    clear hbk hacc hoi hr
    go_wp2_with fail
    rw [HPO.out, HRR.out]
    exact ⟨_, rfl, HOI.out, HB3.out⟩
  · have HRR := Lib.hid (HNO.out hr)
    clear hr
    go_wp2_with fail
    rw [HPO.out, HRR.out]
    exact ⟨_, rfl, .inl ⟨rfl, none, 0, rfl, by simp, fun _ => rfl⟩, HB3.out⟩
set_option maxHeartbeats 4000000 in
theorem boServe_any (v : Value) (x : Sv) (l : List Int) (w : World) (h : RI w w.heap.size v l) (hx : svOk x = true) (hl : trOk l = true) :
    Calls Try.prog 65 #[SvV x, v] w fun e w' => ∃ u1 u2, e = .returned (.tuple #[u1, u2, .bool (svO x l (svRg x l)).2]) ∧ OI 3 w' w.heap.size w'.heap.size u1 (svO x l (svRg x l)).1 ∧ OI 3 w' w.heap.size w'.heap.size u2 (svOB x l (svRg x l)) ∧ Below w.heap.size w w' := by
  obtain ⟨A, c, rfl, hlc, hc⟩ := h
  have HC := Lib.hid hc
  clear hc
  obtain ⟨i0, hi, hz0, hz1, hz2⟩ := info_parts int_info
  have hlen := trOk_len hl
  have hn' : (l.length : Int) ≤ 40 := by omega
  have HIN := Lib.hid fun t => svS_in hx hl t
  have HAT := Lib.hid fun t => trOk_at hl t
  have hdd := svOk_in hx
  obtain ⟨R, hR⟩ : ∃ R, R = svRg x l := ⟨_, rfl⟩
  rw [← hR]
  have HR : Hid (R = svE x l 0 100) := hR
  obtain ⟨r, hr9⟩ : ∃ r, r = x.r := ⟨_, rfl⟩
  obtain ⟨L, hd9⟩ : ∃ L, L = x.l := ⟨_, rfl⟩
  have HXR : Hid (x.r = r) := hr9.symm
  have HXL : Hid (x.l = L) := hd9.symm
  have hBV : SvV x = .agg #[.int .i64 r, .int .i64 L] := by rw [hr9, hd9]; rfl
  rw [hBV]
  rw [← hr9, ← hd9] at hdd
  clear hR hx hl hr9 hd9 hBV
  have p0 := BK.made w 25 #[.int .i64 r, .int .i64 L]
  have hW : Below w.heap.size w (w.alloc (.cells #[.int .i64 r, .int .i64 L] 25)) := (Below.refl _ _).alloc (Nat.le_refl _) _
  obtain ⟨w0, hw0⟩ : ∃ w0, w0 = w.alloc (.cells #[.int .i64 r, .int .i64 L] 25) := ⟨_, rfl⟩
  rw [← hw0] at p0 hW
  have HW0 := Lib.hid hw0
  have HP0 := Lib.hid p0
  have HWW := Lib.hid hW
  clear hw0 p0 hW
  go_enter Try.func65, Try.ntmps65
  go_wp2_with fail
  rw [← HW0.out]
  go_loopg [10, 9, 7, 8] 100 (fun g s10 s9 s7 s8 wx => ∃ t : Nat, t + g = 100 ∧ s10 = .int .i64 (t : Int) ∧ s9 = .int .i64 (svS x l t).2 ∧ R = svE x l t g ∧ Pr wx w0.heap.size s7 s8 (svT x l t) (svB x l t) ∧ Below w0.heap.size w0 wx)
  case atStart => exact ⟨0, by omega, rfl, rfl, HR.out, Pr.nil _ _, Below.refl _ _⟩
  case round =>
    obtain ⟨t, htg, rfl, rfl, hr, hpr, hw⟩ := hrel
    have HRR := Lib.hid hr
    have HP := Lib.hid hpr
    have HB := Lib.hid hw
    have pt := HP0.out.step hw
    have c0 := pt.cell 0
    have c1 := pt.cell 1
    simp at c0 c1
    have HSZ : Hid (w.heap.size ≤ w0.heap.size) := HWW.out.size
    have HBW : Hid (Below w.heap.size w wr) := HWW.out.trans (hw.mono HSZ.out)
    clear hr hpr hw pt
    have hin := HIN.out t
    have hat := HAT.out t
    have ht100 : (t : Int) ≤ 100 := by omega
    have htb : (1000 : Int) * (t : Int) ≤ 100000 := by omega
    obtain ⟨b, hb⟩ : ∃ b, b = (svS x l t).2 := ⟨_, rfl⟩
    have HBQ := Lib.hid hb
    rw [← hb] at hin
    rw [← hb]
    have hb2 : 0 ≤ b ∧ b ≤ 100000 := by omega
    have HGO : Hid (svGo x l t = (decide (t < l.length) || decide (0 < b))) := by show _ = _; rw [HBQ.out]; rfl
    clear hb hin htb
    by_cases hgo : t < l.length ∨ 0 < b
    · have HGT : Hid (svGo x l t = true) := by show _ = _; rw [HGO.out]; simpa using hgo
      cases gk with
      | zero =>
        have hte : t = 100 := by omega
        have HRN : Hid (R = none) := by show _ = _; rw [HRR.out, svE, if_pos HGT.out]
        subst hte
        by_cases hlt : (100 : Nat) < l.length
        · omega
        · have hlt' : ¬ ((100 : Int) < (l.length : Int)) := by omega
          have hb0 : 0 < b := by omega
          clear hgo
          go_wp2_with fail
          refine bodyPost_ret (v := .tuple #[.slice none 0 0, .slice none 0 0, .bool false]) (by simp [results, Try.results65, go_sem]) rfl ?_
          rw [HRN.out]
          exact ⟨_, _, rfl, .inl ⟨rfl, none, 0, rfl, by simp, fun _ => rfl⟩, .inl ⟨rfl, none, 0, rfl, by simp, fun _ => rfl⟩, HBW.out⟩
      | succ g =>
        have hne : ¬ ((100 : Int) ≤ (t : Int)) := by omega
        have HRN : Hid (R = svE x l (t + 1) g) := by show _ = _; rw [HRR.out, svE, if_pos HGT.out]
        have HSU1 := Lib.hid (svT_succ x l t)
        have HSU2 := Lib.hid (svB_succ x l t)
        have HLN1 : Hid ((svT x l t).length < 1000000000) := by show _ < _; rw [svT_length]; omega
        have HLN2 : Hid ((svB x l t).length < 1000000000) := by show _ < _; rw [svB_length]; omega
        by_cases hlt : t < l.length
        · have hlt' : (t : Int) < (l.length : Int) := by omega
          obtain ⟨a, ha⟩ : ∃ a, a = l.getD t 0 := ⟨_, rfl⟩
          rw [← ha] at hat
          obtain ⟨pb, off, rfl, hbB, hcell⟩ := HC.out (by omega)
          have hcx := (HBW.out.cell (p := ⟨pb, off + t, none⟩) hbB).trans (hcell t hlt)
          rw [← ha] at hcx
          have HAA := Lib.hid ha
          clear hgo hcell ha
          by_cases hla : L ≤ (t : Int)
          · have hlb : L ≤ (t : Int) := hla
            obtain ⟨m, hm⟩ : ∃ m, m = min (b + a) r := ⟨_, rfl⟩
            have HGR : Hid (svG x l t = m) := by show _ = _; rw [hm, svG, if_pos (by rw [HXL.out]; exact hla), ← HBQ.out, HXR.out]; rw [HAA.out]
            have HS2 : Hid ((svS x l (t + 1)).2 = b + a - m) := by show _ = _; rw [svS_succ, HGR.out, ← HBQ.out]; rw [HAA.out]
            have HLE := Lib.hid fun W => shLeast_any (b + a) r W
            rw [← hm] at HLE
            have hmb : 0 ≤ m ∧ m ≤ b + a := by omega
            clear hm hla
            go_wp2_with (first
              | (go_at_call 81; (with_reducible refine (HLE.out _).mono ?_); rintro e w' ⟨rfl, rfl⟩)
              | (at_builtin; refine wpList_pushAt8 rfl (.tmp 45) (.tmp 47) 26 rfl 3 i0 Try.underlying26 hi hz0 hz1 hz2 wr w0.heap.size _ (svT x l t).length (svT x l t) m rfl rfl HP.out.fst rfl HLN1.out HB.out.size ?_; intro v2 w2 hr2 hg2 hu2; have HP2 := Lib.hid (HP.out.put1 hr2 hg2 hu2); have HB2 := Lib.hid (HB.out.trans (grown_below hg2 HB.out.size fun k hk => (World.ownsRow.lt HP.out.fst k hk).1)); clear hr2 hg2 hu2)
              | (at_builtin; refine wpList_pushAt8 rfl (.tmp 49) (.tmp 51) 26 rfl 3 i0 Try.underlying26 hi hz0 hz1 hz2 w2 w0.heap.size _ (svB x l t).length (svB x l t) (b + a - m) rfl rfl HP2.out.snd rfl HLN2.out HB2.out.size ?_; intro v3 w3 hr3 hg3 hu3; have HP3 := Lib.hid (HP2.out.put2 hr3 hg3 hu3); have HB3 := Lib.hid (HB2.out.trans (grown_below hg3 HB2.out.size fun k hk => (World.ownsRow.lt HP2.out.snd k hk).1)); clear hr3 hg3 hu3))
            go_roundg g
            case measure => omega
            case rel => exact ⟨t + 1, by omega, by go_num, by rw [HS2.out], HRN.out, (by rw [HSU1.out, HSU2.out, HGR.out, HS2.out]; exact HP3.out), HB3.out⟩
          · have hlb : ¬ (L ≤ (t : Int)) := hla
            have HGR : Hid (svG x l t = 0) := by show _ = _; rw [svG, if_neg (by rw [HXL.out]; exact hla)]
            have HS2 : Hid ((svS x l (t + 1)).2 = b + a) := by show _ = _; rw [svS_succ, HGR.out, ← HBQ.out]; rw [HAA.out, Int.sub_zero]
            clear hla
            go_wp2_with (first
              | (at_builtin; refine wpList_pushAt8 rfl (.tmp 45) (.tmp 47) 26 rfl 3 i0 Try.underlying26 hi hz0 hz1 hz2 wr w0.heap.size _ (svT x l t).length (svT x l t) 0 rfl rfl HP.out.fst rfl HLN1.out HB.out.size ?_; intro v2 w2 hr2 hg2 hu2; have HP2 := Lib.hid (HP.out.put1 hr2 hg2 hu2); have HB2 := Lib.hid (HB.out.trans (grown_below hg2 HB.out.size fun k hk => (World.ownsRow.lt HP.out.fst k hk).1)); clear hr2 hg2 hu2)
              | (at_builtin; refine wpList_pushAt8 rfl (.tmp 49) (.tmp 51) 26 rfl 3 i0 Try.underlying26 hi hz0 hz1 hz2 w2 w0.heap.size _ (svB x l t).length (svB x l t) (b + a) rfl rfl HP2.out.snd rfl HLN2.out HB2.out.size ?_; intro v3 w3 hr3 hg3 hu3; have HP3 := Lib.hid (HP2.out.put2 hr3 hg3 hu3); have HB3 := Lib.hid (HB2.out.trans (grown_below hg3 HB2.out.size fun k hk => (World.ownsRow.lt HP2.out.snd k hk).1)); clear hr3 hg3 hu3))
            go_roundg g
            case measure => omega
            case rel => exact ⟨t + 1, by omega, by go_num, by rw [HS2.out], HRN.out, (by rw [HSU1.out, HSU2.out, HGR.out, HS2.out]; exact HP3.out), HB3.out⟩
        · have hlt' : ¬ ((t : Int) < (l.length : Int)) := by omega
          have hb0 : 0 < b := by omega
          have ha9 : l.getD t 0 = 0 := by simp [List.getD, Nat.not_lt.1 hlt]
          have HAA := Lib.hid ha9
          clear hgo hat ha9
          by_cases hla : L ≤ (t : Int)
          · have hlb : L ≤ (t : Int) := hla
            obtain ⟨m, hm⟩ : ∃ m, m = min (b) r := ⟨_, rfl⟩
            have HGR : Hid (svG x l t = m) := by show _ = _; rw [hm, svG, if_pos (by rw [HXL.out]; exact hla), ← HBQ.out, HXR.out]; rw [HAA.out, Int.add_zero]
            have HS2 : Hid ((svS x l (t + 1)).2 = b - m) := by show _ = _; rw [svS_succ, HGR.out, ← HBQ.out]; rw [HAA.out, Int.add_zero]
            have HLE := Lib.hid fun W => shLeast_any (b) r W
            rw [← hm] at HLE
            have hmb : 0 ≤ m ∧ m ≤ b := by omega
            clear hm hla
            go_wp2_with (first
              | (go_at_call 81; (with_reducible refine (HLE.out _).mono ?_); rintro e w' ⟨rfl, rfl⟩)
              | (at_builtin; refine wpList_pushAt8 rfl (.tmp 45) (.tmp 47) 26 rfl 3 i0 Try.underlying26 hi hz0 hz1 hz2 wr w0.heap.size _ (svT x l t).length (svT x l t) m rfl rfl HP.out.fst rfl HLN1.out HB.out.size ?_; intro v2 w2 hr2 hg2 hu2; have HP2 := Lib.hid (HP.out.put1 hr2 hg2 hu2); have HB2 := Lib.hid (HB.out.trans (grown_below hg2 HB.out.size fun k hk => (World.ownsRow.lt HP.out.fst k hk).1)); clear hr2 hg2 hu2)
              | (at_builtin; refine wpList_pushAt8 rfl (.tmp 49) (.tmp 51) 26 rfl 3 i0 Try.underlying26 hi hz0 hz1 hz2 w2 w0.heap.size _ (svB x l t).length (svB x l t) (b - m) rfl rfl HP2.out.snd rfl HLN2.out HB2.out.size ?_; intro v3 w3 hr3 hg3 hu3; have HP3 := Lib.hid (HP2.out.put2 hr3 hg3 hu3); have HB3 := Lib.hid (HB2.out.trans (grown_below hg3 HB2.out.size fun k hk => (World.ownsRow.lt HP2.out.snd k hk).1)); clear hr3 hg3 hu3))
            go_roundg g
            case measure => omega
            case rel => exact ⟨t + 1, by omega, by go_num, by rw [HS2.out], HRN.out, (by rw [HSU1.out, HSU2.out, HGR.out, HS2.out]; exact HP3.out), HB3.out⟩
          · have hlb : ¬ (L ≤ (t : Int)) := hla
            have HGR : Hid (svG x l t = 0) := by show _ = _; rw [svG, if_neg (by rw [HXL.out]; exact hla)]
            have HS2 : Hid ((svS x l (t + 1)).2 = b) := by show _ = _; rw [svS_succ, HGR.out, ← HBQ.out]; rw [HAA.out, Int.add_zero, Int.sub_zero]
            clear hla
            go_wp2_with (first
              | (at_builtin; refine wpList_pushAt8 rfl (.tmp 45) (.tmp 47) 26 rfl 3 i0 Try.underlying26 hi hz0 hz1 hz2 wr w0.heap.size _ (svT x l t).length (svT x l t) 0 rfl rfl HP.out.fst rfl HLN1.out HB.out.size ?_; intro v2 w2 hr2 hg2 hu2; have HP2 := Lib.hid (HP.out.put1 hr2 hg2 hu2); have HB2 := Lib.hid (HB.out.trans (grown_below hg2 HB.out.size fun k hk => (World.ownsRow.lt HP.out.fst k hk).1)); clear hr2 hg2 hu2)
              | (at_builtin; refine wpList_pushAt8 rfl (.tmp 49) (.tmp 51) 26 rfl 3 i0 Try.underlying26 hi hz0 hz1 hz2 w2 w0.heap.size _ (svB x l t).length (svB x l t) (b) rfl rfl HP2.out.snd rfl HLN2.out HB2.out.size ?_; intro v3 w3 hr3 hg3 hu3; have HP3 := Lib.hid (HP2.out.put2 hr3 hg3 hu3); have HB3 := Lib.hid (HB2.out.trans (grown_below hg3 HB2.out.size fun k hk => (World.ownsRow.lt HP2.out.snd k hk).1)); clear hr3 hg3 hu3))
            go_roundg g
            case measure => omega
            case rel => exact ⟨t + 1, by omega, by go_num, by rw [HS2.out], HRN.out, (by rw [HSU1.out, HSU2.out, HGR.out, HS2.out]; exact HP3.out), HB3.out⟩
    · have HGT : Hid (svGo x l t = false) := by show _ = _; rw [HGO.out]; simp; omega
      have HRN : Hid (R = some t) := by
        show _ = _
        cases gk with
        | zero => rw [HRR.out, svE, if_neg (by rw [HGT.out]; simp)]
        | succ g => rw [HRR.out, svE, if_neg (by rw [HGT.out]; simp)]
      have hlt' : ¬ ((t : Int) < (l.length : Int)) := by omega
      have hb0 : ¬ (0 < b) := by omega
      clear hgo
      go_wp2_with fail
      refine bodyPost_ret (v := .tuple #[_, _, .bool true]) (by simp [results, Try.results65, go_sem]; exact ⟨rfl, rfl⟩) rfl ?_
      rw [HRN.out]
      exact ⟨_, _, rfl, HP.out.own1.wide HSZ.out (Nat.le_refl _), HP.out.own2.wide HSZ.out (Nat.le_refl _), HBW.out⟩
end Go.Proofs.Ytlanpfcjcafapaa
