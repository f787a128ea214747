/-
  FnShapesKeep: the walk.
-/
import Derived.Test.YtlanpfcjcafapaaMathShp
import Derived.Test.YtlanpfcjcafapaaKeptS
import Derived.Test.YtlanpfcjcafapaaCurT
import Derived.Test.YtlanpfcjcafapaaCurK
import Derived.Test.YtlanpfcjcafapaaShN
import Derived.Test.YtlanpfcjcafapaaShO
import Derived.Test.YtlanpfcjcafapaaShP
import Derived.Test.YtlanpfcjcafapaaShQ
import Derived.Test.YtlanpfcjcafapaaShC
import Derived.Test.YtlanpfcjcafapaaCat
import Derived.Deep.RegionWith
import Derived.Deep.DeepCutAuto
import Derived.Deep.CutRange
namespace Go.Proofs.Ytlanpfcjcafapaa
open Go.RowKit
set_option maxRecDepth 100000
set_option linter.unusedVariables false

theorem out_row5 {w : World} {E : TypeId} {lo g c : Nat} {out : List Int} {k : Nat} {x : Int} {n : Nat} (h : w.ownsRow lo E 1 (.slice (some ⟨g, 0, none⟩) n c) n (ics out)) : (w.setCell ⟨g, k, none⟩ (.int .i64 x)).ownsRow lo E 1 (.slice (some ⟨g, 0, none⟩) n c) n (ics (out.set k x)) := by
  have h1 := (World.ownsRow.stored h k (.int .i64 x)).1
  have e : (ics out).set k (.int .i64 x) = ics (out.set k x) := by simp [ics, List.map_set]
  rw [e] at h1
  exact h1
theorem OI.put5 {E : TypeId} {w : World} {lo hi : Nat} {v : Value} {l : List Int} (h : OI E w lo hi v l) (k : Nat) (hk : k < l.length) :
    ∃ b c, v = .slice (some ⟨b, 0, none⟩) l.length c ∧ lo ≤ b ∧ b < hi ∧ b < w.heap.size ∧ w.cell? ⟨b, k, none⟩ = some (.int .i64 (l.getD k 0)) ∧ w.frozen? ⟨b, k, none⟩ = false ∧
      ∀ x, OI E (w.setCell ⟨b, k, none⟩ (.int .i64 x)) lo hi v (l.set k x) := by
  rcases h with ⟨h1, _⟩ | ⟨b, c, hv, hlo, hhi, hr⟩
  · rw [h1] at hk; simp at hk
  · obtain ⟨_, hbs, _⟩ := row_parts hr
    refine ⟨b, c, hv, hlo, hhi, hbs, ?_, World.ownsRow.frozenAt hr k, fun x => .inr ⟨b, c, by rw [List.length_set]; exact hv, hlo, hhi, ?_⟩⟩
    · rw [World.ownsRow.cellAt hr k (by omega), ics_get l k hk]
    · rw [List.length_set]
      exact out_row5 hr

set_option maxHeartbeats 8000000 in
theorem walkSP (c m : Value) (cn mn : Nat) (w : World) (hc : RB w w.heap.size c cn) (hm : RB w w.heap.size m mn) :
    Calls Try.prog 5 #[c, m] w (RetV w (.bool true)) := by
  rcases Nat.lt_or_ge 1048576 (cn + mn) with hbig | hbig
  · have hbg := big_all c m cn mn _ w hc hm
    rw [show (decide ((1048576 : Int) < cn) || decide ((1048576 : Int) - cn < mn)) = true from by simp; omega] at hbg
    go_enter Try.func5, Try.ntmps5
    go_wp2_with fail
    refine hbg.mono ?_; rintro e w1 ⟨rfl, hb⟩
    go_wp2_with fail
    go_ret
    exact ⟨rfl, hb⟩
  have hbg := Lib.hid (big_any c m cn mn _ w hc hm hbig)
  have hcn : cn ≤ 1048576 := by omega
  have hmn : mn ≤ 1048576 := by omega
  have t0 : Below w.heap.size w w := Below.refl _ _
  go_enter Try.func5, Try.ntmps5
  go_wp2_with fail
  refine (hbg.out).mono ?_; rintro e w1 ⟨rfl, hb1⟩
  have s1_ := hb1.size
  have t1 := t0.trans (hb1.mono t0.size)
  clear hb1 s1_ t0
  go_wp2_with fail
  refine (drawShapeOf_any c cn _ ((hc.below t1).more t1.size) hcn).mono ?_; rintro e w2 ⟨x0, u_t, l, rfl, hl, o_t, hb2⟩
  obtain ⟨br, bd⟩ := x0
  simp only [BuV]
  have s2_ := hb2.size
  have t2 := t1.trans (hb2.mono t1.size)
  clear hb2 s2_ t1
  have y1_ := Nat.le_refl w2.heap.size
  have hb3 : Below w2.heap.size w2 (w2.alloc (.cells #[.int .i64 br, .int .i64 bd] 36)) := (Below.refl _ _).alloc (Nat.le_refl _) _
  have x_b := BK.made w2 36 #[.int .i64 br, .int .i64 bd]
  have s3_ := hb3.size
  have t3 := t2.trans (hb3.mono t2.size)
  have f2 := o_t.step hb3
  have y2_ := Nat.le_trans y1_ s3_
  clear o_t y1_
  clear hb3 s3_ t2
  have hn : l.length ≤ 1048576 := by omega
  obtain ⟨S, O, hS⟩ : ∃ S O, (S, O) = shpSays ⟨br, bd⟩ l := ⟨_, _, rfl⟩
  obtain ⟨M, hM⟩ : ∃ M, (M, O) = backSays ⟨br, bd⟩ l := ⟨(backSays ⟨br, bd⟩ l).1, by rw [show O = (shpSays ⟨br, bd⟩ l).2 from by rw [← hS], ← (shp_snd ⟨br, bd⟩ l).1]⟩
  obtain ⟨D, hD⟩ : ∃ M, (M, O) = delSays ⟨br, bd⟩ l := ⟨(delSays ⟨br, bd⟩ l).1, by rw [show O = (shpSays ⟨br, bd⟩ l).2 from by rw [← hS], ← (shp_snd ⟨br, bd⟩ l).2]⟩
  have hSl : S.length ≤ 1048576 := by have := shpSays_len ⟨br, bd⟩ l; rw [← hS] at this; exact this
  have hF : O = true → ShF ⟨br, bd⟩ l S M ∧ decide (D = 0) = decide (M = 0) := fun h => by
    have h5 := shF_of (x := ⟨br, bd⟩) (l := l) (by rw [← hS]; exact h)
    rw [← hS, ← hM, ← hD] at h5
    exact h5
  have HSimpl : Hid (∀ u w, RI w w.heap.size u l → Calls Try.prog 50 #[.agg #[.int .i64 br, .int .i64 bd], u] w (RetLB 3 w S O)) := by
    show ∀ u w, RI w w.heap.size u l → Calls Try.prog 50 #[.agg #[.int .i64 br, .int .i64 bd], u] w (RetLB 3 w S O)
    intro u w q
    have h5 := implShapeOf_any u ⟨br, bd⟩ l w q hn
    rw [← hS] at h5
    exact h5
  have HBimpl : Hid (∀ u w, RI w w.heap.size u l → Calls Try.prog 52 #[.agg #[.int .i64 br, .int .i64 bd], u] w (RetV w (.tuple #[.int .i64 M, .bool O]))) := by
    show ∀ u w, RI w w.heap.size u l → Calls Try.prog 52 #[.agg #[.int .i64 br, .int .i64 bd], u] w (RetV w (.tuple #[.int .i64 M, .bool O]))
    intro u w q
    have h5 := implBacklogOfShape_any u ⟨br, bd⟩ l w q hn
    rw [← hM] at h5
    exact h5
  have HDimpl : Hid (∀ u w, RI w w.heap.size u l → Calls Try.prog 54 #[.agg #[.int .i64 br, .int .i64 bd], u] w (RetV w (.tuple #[.int .i64 D, .bool O]))) := by
    show ∀ u w, RI w w.heap.size u l → Calls Try.prog 54 #[.agg #[.int .i64 br, .int .i64 bd], u] w (RetV w (.tuple #[.int .i64 D, .bool O]))
    intro u w q
    have h5 := implDelayOfShape_any u ⟨br, bd⟩ l w q hn
    rw [← hD] at h5
    exact h5
  have HSspec : Hid (∀ u w, RI w w.heap.size u l → Calls Try.prog 51 #[.agg #[.int .i64 br, .int .i64 bd], u] w (RetLB 3 w S O)) := by
    show ∀ u w, RI w w.heap.size u l → Calls Try.prog 51 #[.agg #[.int .i64 br, .int .i64 bd], u] w (RetLB 3 w S O)
    intro u w q
    have h5 := specShapeOf_any u ⟨br, bd⟩ l w q hn
    rw [← hS] at h5
    exact h5
  have HBspec : Hid (∀ u w, RI w w.heap.size u l → Calls Try.prog 53 #[.agg #[.int .i64 br, .int .i64 bd], u] w (RetV w (.tuple #[.int .i64 M, .bool O]))) := by
    show ∀ u w, RI w w.heap.size u l → Calls Try.prog 53 #[.agg #[.int .i64 br, .int .i64 bd], u] w (RetV w (.tuple #[.int .i64 M, .bool O]))
    intro u w q
    have h5 := specBacklogOfShape_any u ⟨br, bd⟩ l w q hn
    rw [← hM] at h5
    exact h5
  have HDspec : Hid (∀ u w, RI w w.heap.size u l → Calls Try.prog 55 #[.agg #[.int .i64 br, .int .i64 bd], u] w (RetV w (.tuple #[.int .i64 D, .bool O]))) := by
    show ∀ u w, RI w w.heap.size u l → Calls Try.prog 55 #[.agg #[.int .i64 br, .int .i64 bd], u] w (RetV w (.tuple #[.int .i64 D, .bool O]))
    intro u w q
    have h5 := specDelayOfShape_any u ⟨br, bd⟩ l w q hn
    rw [← hD] at h5
    exact h5
  have HF := Lib.hid hF
  clear hS hM hD hF
  have j3 := x_b.cell 0
  have j4 := x_b.cell 1
  simp at j3 j4
  go_wp2_with fail
  refine (HSimpl.out _ _ (f2.ri.more y2_)).mono ?_; rintro e w4 ⟨s_u, rfl, o_s, hb4⟩
  have s4_ := hb4.size
  have t4 := t3.trans (hb4.mono t3.size)
  clear j3 j4
  have f5 := f2.step hb4
  have y5_ := Nat.le_trans y2_ s4_
  clear f2 y2_
  have f6 := x_b.step hb4
  clear x_b
  clear hb4 s4_ t3
  have y7_ := Nat.le_refl w4.heap.size
  have j8 := f6.cell 0
  have j9 := f6.cell 1
  simp at j8 j9
  go_wp2_with fail
  refine (HSspec.out _ _ (f5.ri.more y5_)).mono ?_; rintro e w5 ⟨r_u, rfl, o_r, hb5⟩
  have s5_ := hb5.size
  have t5 := t4.trans (hb5.mono t4.size)
  clear j8 j9
  have f10 := f5.step hb5
  have y10_ := Nat.le_trans y5_ s5_
  clear f5 y5_
  have f11 := f6.step hb5
  clear f6
  have f12 := o_s.step hb5
  have y12_ := Nat.le_trans y7_ s5_
  clear o_s y7_
  clear hb5 s5_ t4
  have y13_ := Nat.le_refl w5.heap.size
  have j14 := f11.cell 0
  have j15 := f11.cell 1
  simp at j14 j15
  go_wp2_with fail
  refine (HBimpl.out _ _ (f10.ri.more y10_)).mono ?_; rintro e w6 ⟨rfl, hb6⟩
  have s6_ := hb6.size
  have t6 := t5.trans (hb6.mono t5.size)
  clear j14 j15
  have f16 := f10.step hb6
  have y16_ := Nat.le_trans y10_ s6_
  clear f10 y10_
  have f17 := f11.step hb6
  clear f11
  have f18 := f12.step hb6
  have y18_ := Nat.le_trans y12_ s6_
  clear f12 y12_
  have f19 := o_r.step hb6
  have y19_ := Nat.le_trans y13_ s6_
  clear o_r y13_
  clear hb6 s6_ t5
  have j20 := f17.cell 0
  have j21 := f17.cell 1
  simp at j20 j21
  go_wp2_with fail
  refine (HBspec.out _ _ (f16.ri.more y16_)).mono ?_; rintro e w7 ⟨rfl, hb7⟩
  have s7_ := hb7.size
  have t7 := t6.trans (hb7.mono t6.size)
  clear j20 j21
  have f22 := f16.step hb7
  have y22_ := Nat.le_trans y16_ s7_
  clear f16 y16_
  have f23 := f17.step hb7
  clear f17
  have f24 := f18.step hb7
  have y24_ := Nat.le_trans y18_ s7_
  clear f18 y18_
  have f25 := f19.step hb7
  have y25_ := Nat.le_trans y19_ s7_
  clear f19 y19_
  clear hb7 s7_ t6
  have j26 := f23.cell 0
  have j27 := f23.cell 1
  simp at j26 j27
  go_wp2_with fail
  refine (HDimpl.out _ _ (f22.ri.more y22_)).mono ?_; rintro e w8 ⟨rfl, hb8⟩
  have s8_ := hb8.size
  have t8 := t7.trans (hb8.mono t7.size)
  clear j26 j27
  have f28 := f22.step hb8
  have y28_ := Nat.le_trans y22_ s8_
  clear f22 y22_
  have f29 := f23.step hb8
  clear f23
  have f30 := f24.step hb8
  have y30_ := Nat.le_trans y24_ s8_
  clear f24 y24_
  have f31 := f25.step hb8
  have y31_ := Nat.le_trans y25_ s8_
  clear f25 y25_
  clear hb8 s8_ t7
  have j32 := f29.cell 0
  have j33 := f29.cell 1
  simp at j32 j33
  go_wp2_with fail
  refine (HDspec.out _ _ (f28.ri.more y28_)).mono ?_; rintro e w9 ⟨rfl, hb9⟩
  have s9_ := hb9.size
  have t9 := t8.trans (hb9.mono t8.size)
  clear j32 j33
  have f34 := f28.step hb9
  have y34_ := Nat.le_trans y28_ s9_
  clear f28 y28_
  have f35 := f29.step hb9
  clear f29
  have f36 := f30.step hb9
  have y36_ := Nat.le_trans y30_ s9_
  clear f30 y30_
  have f37 := f31.step hb9
  have y37_ := Nat.le_trans y31_ s9_
  clear f31 y31_
  clear hb9 s9_ t8
  clear HSimpl HSspec HBimpl HBspec HDimpl HDspec
  go_upto_region 10 with fail
  go_cut [125] from 125 to 125 (fun s_125 wx => s_125 = .bool false ∧ Below w9.heap.size w9 wx)
  case first =>
    as_aux_lemma =>
    have QS : RI w9 w9.heap.size s_u S := (f36.ri.more y36_)
    have QR : RI w9 w9.heap.size r_u S := (f37.ri.more y37_)
    go_wp2_with (go_at_call 14; refine (kSame_any _ _ S _ _ QS QR hSl).mono ?_; rintro e wq ⟨rfl, hq1⟩)
    go_meet
    exact ⟨by first | rfl | trivial | simp, hq1⟩
  case rest =>
    obtain ⟨rfl, hb10⟩ := hcut
    have s10_ := hb10.size
    have t10 := t9.trans (hb10.mono t9.size)
    have f38 := f34.step hb10
    have y38_ := Nat.le_trans y34_ s10_
    clear f34 y34_
    have f39 := f35.step hb10
    clear f35
    have f40 := f36.step hb10
    have y40_ := Nat.le_trans y36_ s10_
    clear f36 y36_
    have f41 := f37.step hb10
    have y41_ := Nat.le_trans y37_ s10_
    clear f37 y37_
    clear hb10 s10_ t9
    clear f41
    obtain ⟨At, ct, rfl, hct, _⟩ := id (f38.ri.more y38_)
    obtain ⟨As, cs, rfl, hcs, _⟩ := id (f40.ri.more y40_)
    go_upto_if 126 with fail
    go_cut [] from 126 to 126 (fun wx => Below wc.heap.size wc wx)
    case first =>
      have z10 : Below wc.heap.size wc wc := Below.refl _ _
      cases O
      · go_wp2_with fail
        go_meet
        exact z10
      obtain ⟨hf, hDM⟩ := HF.out rfl
      have hSl2 : S.length ≤ 100 := hf.len
      have hll : l.length ≤ 40 := trOk_len hf.tr
      obtain ⟨Z, hZ⟩ : ∃ Z, Z = sumL l := ⟨_, rfl⟩
      have HKS : Hid (∀ u w, RI w w.heap.size u S → Calls Try.prog 17 #[u] w (fun e w' => e = .returned (.int .i64 Z) ∧ w = w')) := by
        intro u w q
        have h5 := kSum_any u S w q (by omega) (fun y hy => by have := hf.mem y hy; omega)
        rw [hf.sum, ← hZ] at h5
        exact h5
      have HKT : Hid (∀ u w, RI w w.heap.size u l → Calls Try.prog 17 #[u] w (fun e w' => e = .returned (.int .i64 Z) ∧ w = w')) := by
        intro u w q
        have h5 := kSum_any u l w q (by omega) (fun y hy => by have := trOk_mem hf.tr y hy; omega)
        rw [← hZ] at h5
        exact h5
      obtain ⟨KM, hKM⟩ : ∃ b, b = decide (M = 0) := ⟨_, rfl⟩
      have HKB : Hid (∀ u w, RI w w.heap.size u l → Calls Try.prog 19 #[.agg #[.int .i64 br, .int .i64 bd], u] w (RetV w (.tuple #[.bool KM, .bool true]))) := by
        intro u w q
        have h5 := implKeepsBucket_any u ⟨br, bd⟩ l w q hn
        rw [show kpSays ⟨br, bd⟩ l = (KM, true) from by simp only [kpSays, askOk, hf.bu, hf.tr, Bool.and_self, if_true, hf.kept, hKM]] at h5
        exact h5
      have HKM := Lib.hid hKM
      clear hKM
      obtain ⟨TS, hTS⟩ : ∃ b, b = trOk S := ⟨_, rfl⟩
      have HTS : Hid (∀ u w, RI w w.heap.size u S → Calls Try.prog 23 #[u] w (RetV w (.bool TS))) := by
        intro u w q
        have h5 := implIsTraffic_any u S w q hSl
        rw [← hTS] at h5
        exact h5
      have hlong : (l.length : Int) ≤ (S.length : Int) := by have := hf.long; omega
      have H := Lib.hid hf
      have HDM := Lib.hid hDM
      have HT := Lib.hid hTS
      clear hf hDM hZ hTS
      go_upto_region 13 with fail
      go_cut [138] from 138 to 138 (fun s_138 wx => s_138 = .bool false ∧ Below wc.heap.size wc wx)
      case first =>
        as_aux_lemma =>
        have QS : RI wc wc.heap.size (.slice As S.length cs) S := (f40.ri.more y40_)
        have QT : RI wc wc.heap.size (.slice At l.length ct) l := (f38.ri.more y38_)
        have n1 : decide ((S.length : Int) < (l.length : Int)) = false := by simp; omega
        go_wp2_with (first | (go_at_call 17; (with_reducible refine (HKS.out _ _ QS).mono ?_); rintro e wq ⟨rfl, rfl⟩) | (go_at_call 17; (with_reducible refine (HKT.out _ _ QT).mono ?_); rintro e wq ⟨rfl, rfl⟩))
        go_meet
        exact ⟨by first | rfl | trivial | (simp; omega), Below.refl _ _⟩
      case rest =>
        obtain ⟨rfl, hb11⟩ := hcut
        have s11_ := hb11.size
        have t11 := t10.trans (hb11.mono t10.size)
        have f42 := f38.step hb11
        have y42_ := Nat.le_trans y38_ s11_
        clear f38 y38_
        have f43 := f39.step hb11
        clear f39
        have f44 := f40.step hb11
        have y44_ := Nat.le_trans y40_ s11_
        clear f40 y40_
        have z11 := z10.trans (hb11.mono z10.size)
        clear hb11 s11_ t10 z10
        clear HKS HKT
        have QS : RI wc wc.heap.size (.slice As S.length cs) S := (f44.ri.more y44_)
        have QT : RI wc wc.heap.size (.slice At l.length ct) l := (f42.ri.more y42_)
        have HQS := Lib.hid QS
        have HQT := Lib.hid QT
        clear QS QT
        go_wp2_with fail
        go_loopw [141, 19, 20, 21] (fun i p q r wr => ∃ j : Nat, j ≤ S.length ∧ i = .int .i64 j ∧ p = .int .i64 (sumL (l.take j)) ∧ q = .int .i64 (sumL (S.take j)) ∧ r = .int .i64 (snM ⟨br, bd⟩ l j) ∧ wc = wr) (fun i _ _ _ _ => S.length - (intOf i).toNat)
        case atStart => exact ⟨0, Nat.zero_le _, rfl, by simp [sumL], by simp [sumL], by simp [snM], rfl⟩
        case round =>
          obtain ⟨j, hj, rfl, rfl, rfl, rfl, rfl⟩ := hrel
          by_cases hlt : j < S.length
          · have hlt' : (j : Int) < (S.length : Int) := by omega
            obtain ⟨A2, c2, hv2, _, hcell⟩ := HQS.out
            injection hv2 with e1 e2 e3
            subst e1
            subst e3
            obtain ⟨b1, o1, rfl, _, p1⟩ := hcell (by omega)
            have x1 := p1 j hlt
            obtain ⟨f1, f2, f3, f4, f5⟩ := H.out.come j hlt
            obtain ⟨f6, f7, f8⟩ := H.out.gone j hlt
            obtain ⟨f9, f10, f11, f12, f13⟩ := H.out.wait j hlt
            have f14 := H.out.cell j hlt
            have f15 := H.out.most
            clear p1 hcell
            by_cases hx : j < l.length
            · obtain ⟨A3, c3, hv3, _, hcell3⟩ := HQT.out
              injection hv3 with e4 e5 e6
              subst e4
              subst e6
              obtain ⟨b2, o2, rfl, _, p2⟩ := hcell3 (by omega)
              have x2 := p2 j hx
              clear p2 hcell3
              have hx' : (j : Int) < (l.length : Int) := by omega
              obtain ⟨g, hg⟩ : ∃ g, g = S.getD j 0 := ⟨_, rfl⟩
              obtain ⟨a, ha⟩ : ∃ a, a = l.getD j 0 := ⟨_, rfl⟩
              obtain ⟨p, hp⟩ : ∃ p, p = sumL (l.take j) := ⟨_, rfl⟩
              obtain ⟨s, hs⟩ : ∃ s, s = sumL (S.take j) := ⟨_, rfl⟩
              obtain ⟨p', hp'⟩ : ∃ p, p = sumL (l.take (j + 1)) := ⟨_, rfl⟩
              obtain ⟨s', hs'⟩ : ∃ s, s = sumL (S.take (j + 1)) := ⟨_, rfl⟩
              obtain ⟨e, he⟩ : ∃ e, e = snM ⟨br, bd⟩ l j := ⟨_, rfl⟩
              obtain ⟨e', he'⟩ : ∃ e, e = snM ⟨br, bd⟩ l (j + 1) := ⟨_, rfl⟩
              rw [← hg] at x1 f6 f14
              rw [← ha] at x2 f1 f4 f5
              rw [← hp'] at f1 f9 f10 f11
              rw [← hp] at f1 f2 f3 ⊢
              rw [← hs'] at f6 f9 f10 f11
              rw [← hs] at f6 f7 f8 ⊢
              rw [← he'] at f9
              rw [← he] at f9 f12 f13 ⊢
              rw [f1, f6] at f9 f10 f11
              have HC : Hid (sumL (l.take (j + 1)) = p + a) := by show _ = _; rw [← hp']; exact f1
              have HG : Hid (sumL (S.take (j + 1)) = s + g) := by show _ = _; rw [← hs']; exact f6
              by_cases hm : e < p + a - (s + g)
              · have HE : Hid (snM ⟨br, bd⟩ l (j + 1) = p + a - (s + g)) := by show _ = _; rw [← he', f9]; omega
                clear hg ha hp hs hp' hs' he he' f1 f6 f9
                clear HDM HKB HKM HTS HF H hlong
                go_wp2_with fail
                go_roundw
                case rel => exact ⟨j + 1, by omega, by go_num, by rw [HC.out], by rw [HG.out], by rw [HE.out], by trivial⟩
                case measure => simp [intOf]; omega
              · have HE : Hid (snM ⟨br, bd⟩ l (j + 1) = e) := by show _ = _; rw [← he', f9]; omega
                clear hg ha hp hs hp' hs' he he' f1 f6 f9
                clear HDM HKB HKM HTS HF H hlong
                go_wp2_with fail
                go_roundw
                case rel => exact ⟨j + 1, by omega, by go_num, by rw [HC.out], by rw [HG.out], by rw [HE.out], by trivial⟩
                case measure => simp [intOf]; omega
            · have hx' : ¬ ((j : Int) < (l.length : Int)) := by omega
              have x2 : l.getD j 0 = 0 := by simp [List.getD, hx]
              obtain ⟨g, hg⟩ : ∃ g, g = S.getD j 0 := ⟨_, rfl⟩
              obtain ⟨a, ha⟩ : ∃ a, a = l.getD j 0 := ⟨_, rfl⟩
              obtain ⟨p, hp⟩ : ∃ p, p = sumL (l.take j) := ⟨_, rfl⟩
              obtain ⟨s, hs⟩ : ∃ s, s = sumL (S.take j) := ⟨_, rfl⟩
              obtain ⟨p', hp'⟩ : ∃ p, p = sumL (l.take (j + 1)) := ⟨_, rfl⟩
              obtain ⟨s', hs'⟩ : ∃ s, s = sumL (S.take (j + 1)) := ⟨_, rfl⟩
              obtain ⟨e, he⟩ : ∃ e, e = snM ⟨br, bd⟩ l j := ⟨_, rfl⟩
              obtain ⟨e', he'⟩ : ∃ e, e = snM ⟨br, bd⟩ l (j + 1) := ⟨_, rfl⟩
              rw [← hg] at x1 f6 f14
              rw [← ha] at x2 f1 f4 f5
              rw [← hp'] at f1 f9 f10 f11
              rw [← hp] at f1 f2 f3 ⊢
              rw [← hs'] at f6 f9 f10 f11
              rw [← hs] at f6 f7 f8 ⊢
              rw [← he'] at f9
              rw [← he] at f9 f12 f13 ⊢
              subst x2
              rw [Int.add_zero] at f1
              rw [f1, f6] at f9 f10 f11
              have HC : Hid (sumL (l.take (j + 1)) = p) := by show _ = _; rw [← hp']; exact f1
              have HG : Hid (sumL (S.take (j + 1)) = s + g) := by show _ = _; rw [← hs']; exact f6
              by_cases hm : e < p - (s + g)
              · have HE : Hid (snM ⟨br, bd⟩ l (j + 1) = p - (s + g)) := by show _ = _; rw [← he', f9]; omega
                clear hg ha hp hs hp' hs' he he' f1 f6 f9
                clear HDM HKB HKM HTS HF H hlong
                go_wp2_with fail
                go_roundw
                case rel => exact ⟨j + 1, by omega, by go_num, by rw [HC.out], by rw [HG.out], by rw [HE.out], by trivial⟩
                case measure => simp [intOf]; omega
              · have HE : Hid (snM ⟨br, bd⟩ l (j + 1) = e) := by show _ = _; rw [← he', f9]; omega
                clear hg ha hp hs hp' hs' he he' f1 f6 f9
                clear HDM HKB HKM HTS HF H hlong
                go_wp2_with fail
                go_roundw
                case rel => exact ⟨j + 1, by omega, by go_num, by rw [HC.out], by rw [HG.out], by rw [HE.out], by trivial⟩
                case measure => simp [intOf]; omega
          · obtain rfl : j = S.length := by omega
            rw [H.out.top]
            have j45 := f43.cell 0
            have j46 := f43.cell 1
            simp at j45 j46
            go_wp2_with fail
            refine (HKB.out _ _ (f42.ri.more y42_)).mono ?_; rintro e w12 ⟨rfl, hb12⟩
            have s12_ := hb12.size
            have t12 := t11.trans (hb12.mono t11.size)
            clear j45 j46
            have f47 := f42.step hb12
            have y47_ := Nat.le_trans y42_ s12_
            clear f42 y42_
            have f48 := f43.step hb12
            clear f43
            have f49 := f44.step hb12
            have y49_ := Nat.le_trans y44_ s12_
            clear f44 y44_
            have z12 := z11.trans (hb12.mono z11.size)
            clear hb12 s12_ t11 z11
            go_upto_region 28 with fail
            go_cut [202] from 202 to 202 (fun s_202 wx => s_202 = .bool false ∧ Below w12.heap.size w12 wx)
            case first =>
              have hdm := HDM.out
              have hkm := HKM.out
              clear HKM HDM H
              cases KM
              rotate_left
              · obtain rfl : M = 0 := by simpa using hkm
                obtain rfl : D = 0 := by simpa using hdm
                clear hdm hkm
                as_aux_lemma =>
                go_wp2_with fail
                go_meet
                exact ⟨by first | rfl | trivial | simp, Below.refl _ _⟩
              · have h0 : ¬ M = 0 := by simpa using hkm
                have hd : ¬ D = 0 := by simpa [h0] using hdm
                clear hdm hkm
                as_aux_lemma =>
                go_wp2_with fail
                go_meet
                exact ⟨by simp [h0]; rw [show (D == 0) = false from by simpa using hd, show (M == 0) = false from by simpa using h0], Below.refl _ _⟩
            case rest =>
              obtain ⟨rfl, hb13⟩ := hcut
              have s13_ := hb13.size
              have t13 := t12.trans (hb13.mono t12.size)
              have f50 := f47.step hb13
              have y50_ := Nat.le_trans y47_ s13_
              clear f47 y47_
              have f51 := f48.step hb13
              clear f48
              have f52 := f49.step hb13
              have y52_ := Nat.le_trans y49_ s13_
              clear f49 y49_
              have z13 := z12.trans (hb13.mono z12.size)
              clear hb13 s13_ t12 z12
              clear HKB HQS HQT
              have j53 := f51.cell 0
              have j54 := f51.cell 1
              simp at j53 j54
              go_wp2_with fail
              refine (HTS.out _ _ (f52.ri.more y52_)).mono ?_; rintro e w14 ⟨rfl, hb14⟩
              have s14_ := hb14.size
              have t14 := t13.trans (hb14.mono t13.size)
              clear j53 j54
              have f55 := f50.step hb14
              have y55_ := Nat.le_trans y50_ s14_
              clear f50 y50_
              have f56 := f51.step hb14
              clear f51
              have f57 := f52.step hb14
              have y57_ := Nat.le_trans y52_ s14_
              clear f52 y52_
              have z14 := z13.trans (hb14.mono z13.size)
              clear hb14 s14_ t13 z13
              go_upto_if 204 with fail
              go_cut [] from 204 to 204 (fun wx => Below w14.heap.size w14 wx)
              case first =>
                have q14 : Below w14.heap.size w14 w14 := Below.refl _ _
                cases TS
                · go_wp2_with fail
                  go_meet
                  exact q14
                have hk := H.out.keeps HT.out.symm
                have HK2 : Hid (∀ u w, RI w w.heap.size u S → Calls Try.prog 19 #[.agg #[.int .i64 br, .int .i64 bd], u] w (RetV w (.tuple #[.bool true, .bool true]))) := by
                  intro u w q
                  have h5 := implKeepsBucket_any u ⟨br, bd⟩ S w q hSl
                  rw [hk.1] at h5
                  exact h5
                have HS2 : Hid (∀ u w, RI w w.heap.size u S → Calls Try.prog 50 #[.agg #[.int .i64 br, .int .i64 bd], u] w (RetLB 3 w S true)) := by
                  intro u w q
                  have h5 := implShapeOf_any u ⟨br, bd⟩ S w q hSl
                  rw [hk.2] at h5
                  exact h5
                clear hk
                have j58 := f56.cell 0
                have j59 := f56.cell 1
                simp at j58 j59
                go_wp2_with fail
                refine (HK2.out _ _ (f57.ri.more y57_)).mono ?_; rintro e w15 ⟨rfl, hb15⟩
                have s15_ := hb15.size
                have t15 := t14.trans (hb15.mono t14.size)
                clear j58 j59
                have f60 := f55.step hb15
                have y60_ := Nat.le_trans y55_ s15_
                clear f55 y55_
                have f61 := f56.step hb15
                clear f56
                have f62 := f57.step hb15
                have y62_ := Nat.le_trans y57_ s15_
                clear f57 y57_
                have q15 := q14.trans (hb15.mono q14.size)
                clear hb15 s15_ t14 q14
                have j63 := f61.cell 0
                have j64 := f61.cell 1
                simp at j63 j64
                go_wp2_with fail
                refine (HS2.out _ _ (f62.ri.more y62_)).mono ?_; rintro e w16 ⟨g_u, rfl, o_g, hb16⟩
                have s16_ := hb16.size
                have t16 := t15.trans (hb16.mono t15.size)
                clear j63 j64
                have f65 := f60.step hb16
                have y65_ := Nat.le_trans y60_ s16_
                clear f60 y60_
                have f66 := f61.step hb16
                clear f61
                have f67 := f62.step hb16
                have y67_ := Nat.le_trans y62_ s16_
                clear f62 y62_
                have q16 := q15.trans (hb16.mono q15.size)
                clear hb16 s16_ t15 q15
                have y68_ := Nat.le_refl w16.heap.size
                have QS : RI w16 w16.heap.size (.slice As S.length cs) S := (f67.ri.more y67_)
                have QG : RI w16 w16.heap.size g_u S := (o_g.ri.more y68_)
                go_wp2_with (go_at_call 14; refine (kSame_any _ _ S _ _ QG QS hSl).mono ?_; rintro e wq ⟨rfl, hq1⟩)
                go_meet
                exact q16.trans (hq1.mono q16.size)
              case rest =>
                have hb15 := hcut
                clear hcut
                have s15_ := hb15.size
                have t15 := t14.trans (hb15.mono t14.size)
                have f69 := f55.step hb15
                have y69_ := Nat.le_trans y55_ s15_
                clear f55 y55_
                have f70 := f56.step hb15
                clear f56
                have f71 := f57.step hb15
                have y71_ := Nat.le_trans y57_ s15_
                clear f57 y57_
                have z15 := z14.trans (hb15.mono z14.size)
                clear hb15 s15_ t14 z14
                go_upto_region 35 with fail
                go_cut [239] from 239 to 239 (fun s_239 wx => s_239 = .bool (decide (S.length ≤ 12) && TS) ∧ Below wc.heap.size wc wx)
                case first =>
                  have QS : RI wc wc.heap.size (.slice As S.length cs) S := (f71.ri.more y71_)
                  by_cases h12 : S.length ≤ 12
                  · have h12' : (S.length : Int) ≤ 12 := by omega
                    as_aux_lemma =>
                    go_wp2_with (go_at_call 23; refine (HTS.out _ _ QS).mono ?_; rintro e wq ⟨rfl, hq1⟩)
                    go_meet
                    exact ⟨by simp [h12], hq1⟩
                  · have h12' : ¬ ((S.length : Int) ≤ 12) := by omega
                    as_aux_lemma =>
                    go_wp2_with fail
                    go_meet
                    exact ⟨by simp [h12], Below.refl _ _⟩
                case rest =>
                  obtain ⟨rfl, hb16⟩ := hcut
                  have s16_ := hb16.size
                  have t16 := t15.trans (hb16.mono t15.size)
                  have f72 := f69.step hb16
                  have y72_ := Nat.le_trans y69_ s16_
                  clear f69 y69_
                  have f73 := f70.step hb16
                  clear f70
                  have f74 := f71.step hb16
                  have y74_ := Nat.le_trans y71_ s16_
                  clear f71 y71_
                  have z16 := z15.trans (hb16.mono z15.size)
                  clear hb16 s16_ t15 z15
                  obtain ⟨Y, hY⟩ : ∃ q, (decide (S.length ≤ 12) && TS) = q := ⟨_, rfl⟩
                  rw [hY]
                  cases Y
                  · go_wp2_with fail
                    go_meet
                    exact z16
                  have hYT : TS = true := by simp only [Bool.and_eq_true] at hY; exact hY.2
                  have HTT : Hid (trOk S = true) := by show _ = _; rw [← HT.out]; exact hYT
                  have hZ := Lib.hid z16
                  clear hY hYT HTS
                  have QS : RI wc wc.heap.size (.slice As S.length cs) S := (f74.ri.more y74_)
                  have QT : RI wc wc.heap.size (.slice At l.length ct) l := (f72.ri.more y72_)
                  have HQS := Lib.hid QS
                  have HQT := Lib.hid QT
                  clear QS QT
                  go_wp2_with fail
                  go_loopw [242, 19, 20] (fun i p q wr => ∃ j : Nat, j ≤ S.length ∧ i = .int .i64 j ∧ p = .int .i64 (sumL (l.take j)) ∧ q = .int .i64 (sumL (S.take j)) ∧ Below wc.heap.size wc wr) (fun i _ _ _ => S.length - (intOf i).toNat)
                  case atStart => exact ⟨0, Nat.zero_le _, rfl, by simp [sumL], by simp [sumL], Below.refl _ _⟩
                  case round =>
                    obtain ⟨j, hj, rfl, rfl, rfl, hB⟩ := hrel
                    have HB := Lib.hid hB
                    have HQSr := Lib.hid ((HQS.out.step hB (Nat.le_refl _)).more hB.size)
                    have HQTr := Lib.hid ((HQT.out.step hB (Nat.le_refl _)).more hB.size)
                    clear hB
                    by_cases hlt : j < S.length
                    · have hlt' : (j : Int) < (S.length : Int) := by omega
                      obtain ⟨A2, c2, hv2, _, hcell⟩ := HQSr.out
                      injection hv2 with e1 e2 e3
                      subst e1
                      subst e3
                      obtain ⟨b1, o1, rfl, _, p1⟩ := hcell (by omega)
                      have x1 := p1 j hlt
                      obtain ⟨f1, f2, f3, f4, f5⟩ := H.out.come j hlt
                      obtain ⟨f6, f7, f8⟩ := H.out.gone j hlt
                      obtain ⟨f9, f10, f11, f12, f13⟩ := H.out.wait j hlt
                      have f14 := H.out.cell j hlt
                      have f15 := H.out.most
                      clear p1 hcell
                      clear f9 f11 f12 f13
                      have hmo := H.out.more j hlt HTT.out
                      by_cases hx : j < l.length
                      · obtain ⟨A3, c3, hv3, _, hcell3⟩ := HQTr.out
                        injection hv3 with e4 e5 e6
                        subst e4
                        subst e6
                        obtain ⟨b2, o2, rfl, _, p2⟩ := hcell3 (by omega)
                        have x2 := p2 j hx
                        clear p2 hcell3
                        have hx' : (j : Int) < (l.length : Int) := by omega
                        obtain ⟨g, hg⟩ : ∃ g, g = S.getD j 0 := ⟨_, rfl⟩
                        obtain ⟨a, ha⟩ : ∃ a, a = l.getD j 0 := ⟨_, rfl⟩
                        obtain ⟨p, hp⟩ : ∃ p, p = sumL (l.take j) := ⟨_, rfl⟩
                        obtain ⟨s, hs⟩ : ∃ s, s = sumL (S.take j) := ⟨_, rfl⟩
                        obtain ⟨p', hp'⟩ : ∃ p, p = sumL (l.take (j + 1)) := ⟨_, rfl⟩
                        obtain ⟨s', hs'⟩ : ∃ s, s = sumL (S.take (j + 1)) := ⟨_, rfl⟩
                        rw [← hg] at x1 f6 f14 hmo
                        rw [← ha] at x2 f1 f4 f5
                        rw [← hp'] at f1 f10 hmo
                        rw [← hp] at f1 f2 f3 ⊢
                        rw [← hs'] at f6 f10 hmo
                        rw [← hs] at f6 f7 f8 ⊢
                        rw [f1, f6] at f10 hmo
                        have HC : Hid (sumL (l.take (j + 1)) = p + a) := by show _ = _; rw [← hp']; exact f1
                        have HG : Hid (sumL (S.take (j + 1)) = s + g) := by show _ = _; rw [← hs']; exact f6
                        have HK3 : Hid (s + g < p + a → g < 1000 → ∀ u w, RI w w.heap.size u ((S.take (j + 1)).set j (g + 1)) → Calls Try.prog 19 #[.agg #[.int .i64 br, .int .i64 bd], u] w (RetV w (.tuple #[.bool false, .bool true]))) := by
                          intro q1 q2 u w q
                          have h5 := implKeepsBucket_any u ⟨br, bd⟩ _ w q (by simp; omega)
                          rw [hmo q1 q2] at h5
                          exact h5
                        have HGJ : Hid (([] ++ S.take (j + 1)).getD j 0 = g) := by
                          show _ = _
                          rw [hg]
                          simp [List.getD, show j < j + 1 by omega]
                        have HLN : Hid (([] ++ S.take (j + 1)).length = j + 1) := by show _ = _; simp; omega
                        clear hg ha hp hs hp' hs' f1 f6 hmo
                        by_cases hw : s + g < p + a
                        · by_cases hgm : g < 1000
                          · as_aux_lemma =>
                            have HK4 := Lib.hid (HK3.out hw hgm)
                            have hjc : (j : Int) + 1 ≤ (cs : Int) := by omega
                            have QF := HQSr.out.front (j + 1) (by omega)
                            have HQF := Lib.hid QF
                            have HNIL := Lib.hid (show (Value.slice (some ⟨b1, o1, none⟩) (j + 1) cs = .slice none 0 0 ∨ ∃ ad n c, Value.slice (some ⟨b1, o1, none⟩) (j + 1) cs = .slice (some ad) n c) from .inr ⟨_, _, _, rfl⟩)
                            have HBK := Lib.hid (f73.step HB.out)
                            have HLT : Hid (([] : List Int).length + (S.take (j + 1)).length < 1000000000) := by show _ < _; rw [List.length_take, List.length_nil]; omega
                            clear QF
                            obtain ⟨i0, hi, hz0, hz1, hz2⟩ := info_parts int_info
                            go_wp2_with (at_builtin; refine wpList_cat rfl (.const (.slice none 0 0)) (.tmp 270) 26 rfl 3 i0 Try.underlying26 hi hz0 hz1 hz2 wr wr.heap.size wr.heap.size _ _ [] (S.take (j + 1)) rfl (Acc.nil _ _ _) rfl HQF.out HNIL.out HLT.out (Below.refl _ _) (Nat.le_refl _) ?_; intro v9 w9 ha9 hb9; obtain ⟨b9, c9, hv9, q0, q1, q2, y1, y2, hput⟩ := (Acc.oi ha9).put5 j (by have q3 := HLN.out; omega); rw [HLN.out] at hv9; rw [HGJ.out] at y1; subst hv9; have hwr : Wr b9 (b9 + 1) w9 (w9.setCell ⟨b9, j, none⟩ (.int .i64 (g + 1))) := (Wr.refl b9 (b9 + 1) w9).setCell (p := ⟨b9, j, none⟩) (Nat.le_refl _) (by simp) _; have HPUT := Lib.hid (((hput (g + 1)).ri).more hwr.size); have kb9 := (HBK.out.step hb9).far hwr (.inl (Nat.lt_of_lt_of_le HBK.out.1 q0)); have k0 := kb9.cell 0; have k1 := kb9.cell 1; simp at k0 k1; have HZ9 := Lib.hid (HB.out.trans ((hb9.mono HB.out.size).trans (hwr.below (Nat.le_trans HB.out.size q0) (Nat.le_trans HB.out.size hb9.size)))); have hjl : (j : Int) < (j : Int) + 1 := (by omega); clear hput kb9 ha9)
                            refine (HK4.out _ _ HPUT.out).mono ?_; rintro e w11 ⟨rfl, hq⟩
                            have HQ := Lib.hid (HZ9.out.trans (hq.mono HZ9.out.size))
                            clear hq
                            go_wp2_with fail
                            go_roundw
                            case rel => exact ⟨j + 1, by omega, by go_num, by rw [HC.out], by rw [HG.out], HQ.out⟩
                            case measure => simp [intOf]; omega
                          · as_aux_lemma =>
                            go_wp2_with fail
                            go_roundw
                            case rel => exact ⟨j + 1, by omega, by go_num, by rw [HC.out], by rw [HG.out], HB.out⟩
                            case measure => simp [intOf]; omega
                        · as_aux_lemma =>
                          go_wp2_with fail
                          go_roundw
                          case rel => exact ⟨j + 1, by omega, by go_num, by rw [HC.out], by rw [HG.out], HB.out⟩
                          case measure => simp [intOf]; omega
                      · have hx' : ¬ ((j : Int) < (l.length : Int)) := by omega
                        have x2 : l.getD j 0 = 0 := by simp [List.getD, hx]
                        obtain ⟨g, hg⟩ : ∃ g, g = S.getD j 0 := ⟨_, rfl⟩
                        obtain ⟨a, ha⟩ : ∃ a, a = l.getD j 0 := ⟨_, rfl⟩
                        obtain ⟨p, hp⟩ : ∃ p, p = sumL (l.take j) := ⟨_, rfl⟩
                        obtain ⟨s, hs⟩ : ∃ s, s = sumL (S.take j) := ⟨_, rfl⟩
                        obtain ⟨p', hp'⟩ : ∃ p, p = sumL (l.take (j + 1)) := ⟨_, rfl⟩
                        obtain ⟨s', hs'⟩ : ∃ s, s = sumL (S.take (j + 1)) := ⟨_, rfl⟩
                        rw [← hg] at x1 f6 f14 hmo
                        rw [← ha] at x2 f1 f4 f5
                        rw [← hp'] at f1 f10 hmo
                        rw [← hp] at f1 f2 f3 ⊢
                        rw [← hs'] at f6 f10 hmo
                        rw [← hs] at f6 f7 f8 ⊢
                        subst x2
                        rw [Int.add_zero] at f1
                        rw [f1, f6] at f10 hmo
                        have HC : Hid (sumL (l.take (j + 1)) = p) := by show _ = _; rw [← hp']; exact f1
                        have HG : Hid (sumL (S.take (j + 1)) = s + g) := by show _ = _; rw [← hs']; exact f6
                        have HK3 : Hid (s + g < p → g < 1000 → ∀ u w, RI w w.heap.size u ((S.take (j + 1)).set j (g + 1)) → Calls Try.prog 19 #[.agg #[.int .i64 br, .int .i64 bd], u] w (RetV w (.tuple #[.bool false, .bool true]))) := by
                          intro q1 q2 u w q
                          have h5 := implKeepsBucket_any u ⟨br, bd⟩ _ w q (by simp; omega)
                          rw [hmo q1 q2] at h5
                          exact h5
                        have HGJ : Hid (([] ++ S.take (j + 1)).getD j 0 = g) := by
                          show _ = _
                          rw [hg]
                          simp [List.getD, show j < j + 1 by omega]
                        have HLN : Hid (([] ++ S.take (j + 1)).length = j + 1) := by show _ = _; simp; omega
                        clear hg ha hp hs hp' hs' f1 f6 hmo
                        by_cases hw : s + g < p
                        · by_cases hgm : g < 1000
                          · as_aux_lemma =>
                            have HK4 := Lib.hid (HK3.out hw hgm)
                            have hjc : (j : Int) + 1 ≤ (cs : Int) := by omega
                            have QF := HQSr.out.front (j + 1) (by omega)
                            have HQF := Lib.hid QF
                            have HNIL := Lib.hid (show (Value.slice (some ⟨b1, o1, none⟩) (j + 1) cs = .slice none 0 0 ∨ ∃ ad n c, Value.slice (some ⟨b1, o1, none⟩) (j + 1) cs = .slice (some ad) n c) from .inr ⟨_, _, _, rfl⟩)
                            have HBK := Lib.hid (f73.step HB.out)
                            have HLT : Hid (([] : List Int).length + (S.take (j + 1)).length < 1000000000) := by show _ < _; rw [List.length_take, List.length_nil]; omega
                            clear QF
                            obtain ⟨i0, hi, hz0, hz1, hz2⟩ := info_parts int_info
                            go_wp2_with (at_builtin; refine wpList_cat rfl (.const (.slice none 0 0)) (.tmp 270) 26 rfl 3 i0 Try.underlying26 hi hz0 hz1 hz2 wr wr.heap.size wr.heap.size _ _ [] (S.take (j + 1)) rfl (Acc.nil _ _ _) rfl HQF.out HNIL.out HLT.out (Below.refl _ _) (Nat.le_refl _) ?_; intro v9 w9 ha9 hb9; obtain ⟨b9, c9, hv9, q0, q1, q2, y1, y2, hput⟩ := (Acc.oi ha9).put5 j (by have q3 := HLN.out; omega); rw [HLN.out] at hv9; rw [HGJ.out] at y1; subst hv9; have hwr : Wr b9 (b9 + 1) w9 (w9.setCell ⟨b9, j, none⟩ (.int .i64 (g + 1))) := (Wr.refl b9 (b9 + 1) w9).setCell (p := ⟨b9, j, none⟩) (Nat.le_refl _) (by simp) _; have HPUT := Lib.hid (((hput (g + 1)).ri).more hwr.size); have kb9 := (HBK.out.step hb9).far hwr (.inl (Nat.lt_of_lt_of_le HBK.out.1 q0)); have k0 := kb9.cell 0; have k1 := kb9.cell 1; simp at k0 k1; have HZ9 := Lib.hid (HB.out.trans ((hb9.mono HB.out.size).trans (hwr.below (Nat.le_trans HB.out.size q0) (Nat.le_trans HB.out.size hb9.size)))); have hjl : (j : Int) < (j : Int) + 1 := (by omega); clear hput kb9 ha9)
                            refine (HK4.out _ _ HPUT.out).mono ?_; rintro e w11 ⟨rfl, hq⟩
                            have HQ := Lib.hid (HZ9.out.trans (hq.mono HZ9.out.size))
                            clear hq
                            go_wp2_with fail
                            go_roundw
                            case rel => exact ⟨j + 1, by omega, by go_num, by rw [HC.out], by rw [HG.out], HQ.out⟩
                            case measure => simp [intOf]; omega
                          · as_aux_lemma =>
                            go_wp2_with fail
                            go_roundw
                            case rel => exact ⟨j + 1, by omega, by go_num, by rw [HC.out], by rw [HG.out], HB.out⟩
                            case measure => simp [intOf]; omega
                        · as_aux_lemma =>
                          go_wp2_with fail
                          go_roundw
                          case rel => exact ⟨j + 1, by omega, by go_num, by rw [HC.out], by rw [HG.out], HB.out⟩
                          case measure => simp [intOf]; omega
                    · obtain rfl : j = S.length := by omega
                      go_wp2_with fail
                      go_meet
                      exact hZ.out.trans (HB.out.mono hZ.out.size)
    case rest =>
      have hb11 := hcut
      clear hcut
      have s11_ := hb11.size
      have t11 := t10.trans (hb11.mono t10.size)
      have f75 := f38.step hb11
      have y75_ := Nat.le_trans y38_ s11_
      clear f38 y38_
      have f76 := f39.step hb11
      clear f39
      have f77 := f40.step hb11
      have y77_ := Nat.le_trans y40_ s11_
      clear f40 y40_
      clear hb11 s11_ t10
      clear f76
      clear f75
      clear f77
      clear HF
      go_wp2_with fail
      refine (drawLeakOf_any m mn _ ((hm.below t11).more t11.size) hmn).mono ?_; rintro e w12 ⟨N, u_k, lk, rfl, hN, hlk, o_k, hb12⟩
      have s12_ := hb12.size
      have t12 := t11.trans (hb12.mono t11.size)
      clear hb12 s12_ t11
      have y78_ := Nat.le_refl w12.heap.size
      have hnk : lk.length ≤ 1048576 := by omega
      have hNw : (Lit.int .i64 N).wf = true := WalkArith.wf_i64 (by omega)
      obtain ⟨V, O2, hV⟩ : ∃ S O, (S, O) = leakSays N lk := ⟨_, _, rfl⟩
      have hVl : V.length ≤ 1048576 := by have := leakSays_len N lk; rw [← hV] at this; exact this
      have HVimpl : Hid (∀ u w, RI w w.heap.size u lk → Calls Try.prog 57 #[.int .i64 N, u] w (RetLB 3 w V O2)) := by
        show ∀ u w, RI w w.heap.size u lk → Calls Try.prog 57 #[.int .i64 N, u] w (RetLB 3 w V O2)
        intro u w q
        have h5 := implLeakOf_any u N lk w q hnk hNw
        rw [← hV] at h5
        exact h5
      have HVspec : Hid (∀ u w, RI w w.heap.size u lk → Calls Try.prog 58 #[.int .i64 N, u] w (RetLB 3 w V O2)) := by
        show ∀ u w, RI w w.heap.size u lk → Calls Try.prog 58 #[.int .i64 N, u] w (RetLB 3 w V O2)
        intro u w q
        have h5 := specLeakOf_any u N lk w q hnk hNw
        rw [← hV] at h5
        exact h5
      have XV := Lib.hid hV
      clear hV hNw
      go_wp2_with fail
      refine (HVimpl.out _ _ (o_k.ri.more y78_)).mono ?_; rintro e w13 ⟨v_u, rfl, o_v, hb13⟩
      have s13_ := hb13.size
      have t13 := t12.trans (hb13.mono t12.size)
      have f79 := o_k.step hb13
      have y79_ := Nat.le_trans y78_ s13_
      clear o_k y78_
      clear hb13 s13_ t12
      have y80_ := Nat.le_refl w13.heap.size
      go_wp2_with fail
      refine (HVspec.out _ _ (f79.ri.more y79_)).mono ?_; rintro e w14 ⟨vr_u, rfl, o_vr, hb14⟩
      have s14_ := hb14.size
      have t14 := t13.trans (hb14.mono t13.size)
      have f81 := f79.step hb14
      have y81_ := Nat.le_trans y79_ s14_
      clear f79 y79_
      have f82 := o_v.step hb14
      have y82_ := Nat.le_trans y80_ s14_
      clear o_v y80_
      clear hb14 s14_ t13
      have y83_ := Nat.le_refl w14.heap.size
      go_upto_region 53 with fail
      go_cut [315] from 315 to 315 (fun s_315 wx => s_315 = .bool false ∧ Below w14.heap.size w14 wx)
      case first =>
        as_aux_lemma =>
        have QV : RI w14 w14.heap.size v_u V := (f82.ri.more y82_)
        have QW : RI w14 w14.heap.size vr_u V := (o_vr.ri.more y83_)
        go_wp2_with (go_at_call 14; refine (kSame_any _ _ V _ _ QV QW hVl).mono ?_; rintro e wq ⟨rfl, hq1⟩)
        go_meet
        exact ⟨by first | rfl | trivial | simp, hq1⟩
      case rest =>
        obtain ⟨rfl, hb15⟩ := hcut
        have s15_ := hb15.size
        have t15 := t14.trans (hb15.mono t14.size)
        have f84 := f81.step hb15
        have y84_ := Nat.le_trans y81_ s15_
        clear f81 y81_
        have f85 := f82.step hb15
        have y85_ := Nat.le_trans y82_ s15_
        clear f82 y82_
        have f86 := o_vr.step hb15
        have y86_ := Nat.le_trans y83_ s15_
        clear o_vr y83_
        clear hb15 s15_ t14
        clear f86
        cases O2
        · go_wp2_with fail
          go_ret
          exact ⟨rfl, t15⟩
        have hk := leak_true (r := N) (l := lk) (by rw [← XV.out])
        rw [← XV.out] at hk
        obtain ⟨k0, k1, k2, k3, k4, k5⟩ := hk
        simp only at k2 k3 k4 k5
        obtain ⟨Z2, hZ2⟩ : ∃ Z, Z = sumL lk := ⟨_, rfl⟩
        rw [← hZ2] at k2
        have hkl : lk.length ≤ 40 := trOk_len k1
        have HKV : Hid (∀ u w, RI w w.heap.size u V → Calls Try.prog 17 #[u] w (fun e w' => e = .returned (.int .i64 Z2) ∧ w = w')) := by
          intro u w q
          have h5 := kSum_any u V w q (by omega) (fun y hy => by have := k4 y hy; omega)
          rw [k2] at h5
          exact h5
        have HKK : Hid (∀ u w, RI w w.heap.size u lk → Calls Try.prog 17 #[u] w (fun e w' => e = .returned (.int .i64 Z2) ∧ w = w')) := by
          intro u w q
          have h5 := kSum_any u lk w q (by omega) (fun y hy => by have := trOk_mem k1 y hy; omega)
          rw [← hZ2] at h5
          exact h5
        obtain ⟨X, hX⟩ : ∃ X, X = mstN V V.length := ⟨_, rfl⟩
        have hXN : X ≤ N := by
          rw [hX]
          refine mstN_to (by omega) (fun k => ?_) _
          rcases Nat.lt_or_ge k V.length with h | h
          · exact (k4 _ (by simp [List.getD, h])).2
          · have : V.getD k 0 = 0 := by simp [List.getD, h]
            omega
        have HKM : Hid (∀ u w, RI w w.heap.size u V → Calls Try.prog 18 #[u] w (fun e w' => e = .returned (.int .i64 X) ∧ w = w')) := by
          intro u w q
          have h5 := kMost_any u V w q (by omega)
          rw [← hX] at h5
          exact h5
        have HSH : Hid (∀ u w, RI w w.heap.size u lk → Calls Try.prog 50 #[.agg #[.int .i64 N, .int .i64 N], u] w (RetLB 3 w V true)) := by
          intro u w q
          have h5 := implShapeOf_any u ⟨N, N⟩ lk w q hnk
          rw [k5] at h5
          exact h5
        clear k0 k1 k2 k3 k4 k5 hZ2 hX XV HVimpl HVspec
        go_upto_region 56 with fail
        go_cut [327] from 327 to 327 (fun s_327 wx => s_327 = .bool false ∧ Below wc.heap.size wc wx)
        case first =>
          as_aux_lemma =>
          have QV : RI wc wc.heap.size v_u V := (f85.ri.more y85_)
          have QK : RI wc wc.heap.size u_k lk := (f84.ri.more y84_)
          go_wp2_with (first | (go_at_call 17; (with_reducible refine (HKV.out _ _ QV).mono ?_); rintro e wq ⟨rfl, rfl⟩) | (go_at_call 17; (with_reducible refine (HKK.out _ _ QK).mono ?_); rintro e wq ⟨rfl, rfl⟩) | (go_at_call 18; (with_reducible refine (HKM.out _ _ QV).mono ?_); rintro e wq ⟨rfl, rfl⟩))
          go_meet
          exact ⟨by first | rfl | trivial | (simp; omega), Below.refl _ _⟩
        case rest =>
          obtain ⟨rfl, hb16⟩ := hcut
          have s16_ := hb16.size
          have t16 := t15.trans (hb16.mono t15.size)
          have f87 := f84.step hb16
          have y87_ := Nat.le_trans y84_ s16_
          clear f84 y84_
          have f88 := f85.step hb16
          have y88_ := Nat.le_trans y85_ s16_
          clear f85 y85_
          clear hb16 s16_ t15
          clear HKV HKK HKM
          go_wp2_with fail
          refine (HSH.out _ _ (f87.ri.more y87_)).mono ?_; rintro e w17 ⟨y_u, rfl, o_y, hb17⟩
          have s17_ := hb17.size
          have t17 := t16.trans (hb17.mono t16.size)
          have f89 := f87.step hb17
          have y89_ := Nat.le_trans y87_ s17_
          clear f87 y87_
          have f90 := f88.step hb17
          have y90_ := Nat.le_trans y88_ s17_
          clear f88 y88_
          clear hb17 s17_ t16
          have y91_ := Nat.le_refl w17.heap.size
          have QV : RI w17 w17.heap.size v_u V := (f90.ri.more y90_)
          have QY : RI w17 w17.heap.size y_u V := (o_y.ri.more y91_)
          go_wp2_with (go_at_call 14; refine (kSame_any _ _ V _ _ QY QV hVl).mono ?_; rintro e wq ⟨rfl, hq1⟩)
          go_ret
          exact ⟨rfl, t17.trans (hq1.mono t17.size)⟩
end Go.Proofs.Ytlanpfcjcafapaa
