/-
  FnBoundsHold: the walk.
-/
import Derived.Test.YtlanpfcjcafapaaHoldS
import Derived.Test.YtlanpfcjcafapaaCurT
import Derived.Test.YtlanpfcjcafapaaShC
import Derived.Test.YtlanpfcjcafapaaBoA
import Derived.Test.YtlanpfcjcafapaaBoB
import Derived.Test.YtlanpfcjcafapaaBoC
import Derived.Test.YtlanpfcjcafapaaBoD
import Derived.Test.YtlanpfcjcafapaaBqC
import Derived.Test.YtlanpfcjcafapaaBqD
import Derived.Deep.RegionWith
import Derived.Deep.DeepCutAuto
import Derived.Deep.CutRange
namespace Go.Proofs.Ytlanpfcjcafapaa
open Go.RowKit
set_option maxRecDepth 100000
set_option linter.unusedVariables false

set_option maxHeartbeats 8000000 in
theorem walkBH (c m : Value) (cn mn : Nat) (w : World) (hc : RB w w.heap.size c cn) (hm : RB w w.heap.size m mn) :
    Calls Try.prog 3 #[c, m] w (RetV w (.bool true)) := by
  rcases Nat.lt_or_ge 1048576 (cn + mn) with hbig | hbig
  · have hbg := big_all c m cn mn _ w hc hm
    rw [show (decide ((1048576 : Int) < cn) || decide ((1048576 : Int) - cn < mn)) = true from by simp; omega] at hbg
    go_enter Try.func3, Try.ntmps3
    go_wp2_with fail
    refine hbg.mono ?_; rintro e w1 ⟨rfl, hb⟩
    go_wp2_with fail
    go_ret
    exact ⟨rfl, hb⟩
  have hbg := Lib.hid (big_any c m cn mn _ w hc hm hbig)
  have hcn : cn ≤ 1048576 := by omega
  have hmn : mn ≤ 1048576 := by omega
  have t0 : Below w.heap.size w w := Below.refl _ _
  go_enter Try.func3, Try.ntmps3
  go_wp2_with fail
  refine (hbg.out).mono ?_; rintro e w1 ⟨rfl, hb1⟩
  have s1_ := hb1.size
  have t1 := t0.trans (hb1.mono t0.size)
  clear hb1 s1_ t0
  go_wp2_with fail
  refine (drawServedBy_any c cn _ ((hc.below t1).more t1.size) hcn).mono ?_; rintro e w2 ⟨x0, u_t, l, rfl, hl, o_t, hb2⟩
  have s2_ := hb2.size
  have t2 := t1.trans (hb2.mono t1.size)
  clear hb2 s2_ t1
  obtain ⟨vr, vl⟩ := x0
  simp only [SvV]
  have y1_ := Nat.le_refl w2.heap.size
  have hb3 : Below w2.heap.size w2 (w2.alloc (.cells #[.int .i64 vr, .int .i64 vl] 25)) := (Below.refl _ _).alloc (Nat.le_refl _) _
  have x_v := BK.made w2 25 #[.int .i64 vr, .int .i64 vl]
  have s3_ := hb3.size
  have t3 := t2.trans (hb3.mono t2.size)
  have f2 := o_t.step hb3
  have y2_ := Nat.le_trans y1_ s3_
  clear o_t y1_
  clear hb3 s3_ t2
  have hn : l.length ≤ 1048576 := by omega
  obtain ⟨S, O, hS⟩ : ∃ S O, (S, O) = srvSays ⟨vr, vl⟩ l := ⟨_, _, rfl⟩
  obtain ⟨M1, hM1⟩ : ∃ M, bksSays ⟨vr, vl⟩ l = (M, O) := ⟨(bksSays ⟨vr, vl⟩ l).1, by rw [show O = (srvSays ⟨vr, vl⟩ l).2 from by rw [← hS], ← bks_snd]⟩
  obtain ⟨D1, hD1⟩ : ∃ M, dlsSays ⟨vr, vl⟩ l = (M, O) := ⟨(dlsSays ⟨vr, vl⟩ l).1, by rw [show O = (srvSays ⟨vr, vl⟩ l).2 from by rw [← hS], ← dls_snd]⟩
  have HSi : Hid (∀ u w, RI w w.heap.size u l → Calls Try.prog 8 #[.agg #[.int .i64 vr, .int .i64 vl], u] w (RetLB 3 w S O)) := by
    show ∀ u w, RI w w.heap.size u l → Calls Try.prog 8 #[.agg #[.int .i64 vr, .int .i64 vl], u] w (RetLB 3 w S O)
    intro u w q
    have h5 := implServedBy_any u ⟨vr, vl⟩ l w q hn
    rw [← hS] at h5
    exact h5
  have HSs : Hid (∀ u w, RI w w.heap.size u l → Calls Try.prog 9 #[.agg #[.int .i64 vr, .int .i64 vl], u] w (RetLB 3 w S O)) := by
    show ∀ u w, RI w w.heap.size u l → Calls Try.prog 9 #[.agg #[.int .i64 vr, .int .i64 vl], u] w (RetLB 3 w S O)
    intro u w q
    have h5 := specServedBy_any u ⟨vr, vl⟩ l w q hn
    rw [← hS] at h5
    exact h5
  have HBi : Hid (∀ u w, RI w w.heap.size u l → Calls Try.prog 10 #[.agg #[.int .i64 vr, .int .i64 vl], u] w (RetV w (.tuple #[.int .i64 M1, .bool O]))) := by
    show ∀ u w, RI w w.heap.size u l → Calls Try.prog 10 #[.agg #[.int .i64 vr, .int .i64 vl], u] w (RetV w (.tuple #[.int .i64 M1, .bool O]))
    intro u w q
    have h5 := implBacklogServed_any u ⟨vr, vl⟩ l w q hn
    rw [hM1] at h5
    exact h5
  have HBs : Hid (∀ u w, RI w w.heap.size u l → Calls Try.prog 11 #[.agg #[.int .i64 vr, .int .i64 vl], u] w (RetV w (.tuple #[.int .i64 M1, .bool O]))) := by
    show ∀ u w, RI w w.heap.size u l → Calls Try.prog 11 #[.agg #[.int .i64 vr, .int .i64 vl], u] w (RetV w (.tuple #[.int .i64 M1, .bool O]))
    intro u w q
    have h5 := specBacklogServed_any u ⟨vr, vl⟩ l w q hn
    rw [hM1] at h5
    exact h5
  have HDi : Hid (∀ u w, RI w w.heap.size u l → Calls Try.prog 12 #[.agg #[.int .i64 vr, .int .i64 vl], u] w (RetV w (.tuple #[.int .i64 D1, .bool O]))) := by
    show ∀ u w, RI w w.heap.size u l → Calls Try.prog 12 #[.agg #[.int .i64 vr, .int .i64 vl], u] w (RetV w (.tuple #[.int .i64 D1, .bool O]))
    intro u w q
    have h5 := implDelayServed_any u ⟨vr, vl⟩ l w q hn
    rw [hD1] at h5
    exact h5
  have HDs : Hid (∀ u w, RI w w.heap.size u l → Calls Try.prog 13 #[.agg #[.int .i64 vr, .int .i64 vl], u] w (RetV w (.tuple #[.int .i64 D1, .bool O]))) := by
    show ∀ u w, RI w w.heap.size u l → Calls Try.prog 13 #[.agg #[.int .i64 vr, .int .i64 vl], u] w (RetV w (.tuple #[.int .i64 D1, .bool O]))
    intro u w q
    have h5 := specDelayServed_any u ⟨vr, vl⟩ l w q hn
    rw [hD1] at h5
    exact h5
  have HX1 := Lib.hid hS
  have HX2 := Lib.hid hM1
  have HX3 := Lib.hid hD1
  have hSl : S.length ≤ 100 := by have := srv_short ⟨vr, vl⟩ l; rw [← hS] at this; exact this
  have hSl' : S.length ≤ 1048576 := by omega
  clear hS hM1 hD1
  have j3 := x_v.cell 0
  have j4 := x_v.cell 1
  simp at j3 j4
  go_wp2_with fail
  refine (HSi.out _ _ (f2.ri.more y2_)).mono ?_; rintro e w4 ⟨s_u, rfl, o_s, hb4⟩
  have s4_ := hb4.size
  have t4 := t3.trans (hb4.mono t3.size)
  clear j3 j4
  have f5 := f2.step hb4
  have y5_ := Nat.le_trans y2_ s4_
  clear f2 y2_
  have f6 := x_v.step hb4
  clear x_v
  clear hb4 s4_ t3
  have y7_ := Nat.le_refl w4.heap.size
  have j8 := f6.cell 0
  have j9 := f6.cell 1
  simp at j8 j9
  go_wp2_with fail
  refine (HSs.out _ _ (f5.ri.more y5_)).mono ?_; rintro e w5 ⟨r_u, rfl, o_r, hb5⟩
  have s5_ := hb5.size
  have t5 := t4.trans (hb5.mono t4.size)
  clear j8 j9
  have f10 := f5.step hb5
  have y10_ := Nat.le_trans y5_ s5_
  clear f5 y5_
  have f11 := f6.step hb5
  clear f6
  have f12 := o_s.step hb5
  have y12_ := Nat.le_trans y7_ s5_
  clear o_s y7_
  clear hb5 s5_ t4
  have y13_ := Nat.le_refl w5.heap.size
  have j14 := f11.cell 0
  have j15 := f11.cell 1
  simp at j14 j15
  go_wp2_with fail
  refine (HBi.out _ _ (f10.ri.more y10_)).mono ?_; rintro e w6 ⟨rfl, hb6⟩
  have s6_ := hb6.size
  have t6 := t5.trans (hb6.mono t5.size)
  clear j14 j15
  have f16 := f10.step hb6
  have y16_ := Nat.le_trans y10_ s6_
  clear f10 y10_
  have f17 := f11.step hb6
  clear f11
  have f18 := f12.step hb6
  have y18_ := Nat.le_trans y12_ s6_
  clear f12 y12_
  have f19 := o_r.step hb6
  have y19_ := Nat.le_trans y13_ s6_
  clear o_r y13_
  clear hb6 s6_ t5
  have j20 := f17.cell 0
  have j21 := f17.cell 1
  simp at j20 j21
  go_wp2_with fail
  refine (HBs.out _ _ (f16.ri.more y16_)).mono ?_; rintro e w7 ⟨rfl, hb7⟩
  have s7_ := hb7.size
  have t7 := t6.trans (hb7.mono t6.size)
  clear j20 j21
  have f22 := f16.step hb7
  have y22_ := Nat.le_trans y16_ s7_
  clear f16 y16_
  have f23 := f17.step hb7
  clear f17
  have f24 := f18.step hb7
  have y24_ := Nat.le_trans y18_ s7_
  clear f18 y18_
  have f25 := f19.step hb7
  have y25_ := Nat.le_trans y19_ s7_
  clear f19 y19_
  clear hb7 s7_ t6
  have j26 := f23.cell 0
  have j27 := f23.cell 1
  simp at j26 j27
  go_wp2_with fail
  refine (HDi.out _ _ (f22.ri.more y22_)).mono ?_; rintro e w8 ⟨rfl, hb8⟩
  have s8_ := hb8.size
  have t8 := t7.trans (hb8.mono t7.size)
  clear j26 j27
  have f28 := f22.step hb8
  have y28_ := Nat.le_trans y22_ s8_
  clear f22 y22_
  have f29 := f23.step hb8
  clear f23
  have f30 := f24.step hb8
  have y30_ := Nat.le_trans y24_ s8_
  clear f24 y24_
  have f31 := f25.step hb8
  have y31_ := Nat.le_trans y25_ s8_
  clear f25 y25_
  clear hb8 s8_ t7
  have j32 := f29.cell 0
  have j33 := f29.cell 1
  simp at j32 j33
  go_wp2_with fail
  refine (HDs.out _ _ (f28.ri.more y28_)).mono ?_; rintro e w9 ⟨rfl, hb9⟩
  have s9_ := hb9.size
  have t9 := t8.trans (hb9.mono t8.size)
  clear j32 j33
  have f34 := f28.step hb9
  have y34_ := Nat.le_trans y28_ s9_
  clear f28 y28_
  have f35 := f29.step hb9
  clear f29
  have f36 := f30.step hb9
  have y36_ := Nat.le_trans y30_ s9_
  clear f30 y30_
  have f37 := f31.step hb9
  have y37_ := Nat.le_trans y31_ s9_
  clear f31 y31_
  clear hb9 s9_ t8
  have j38 := f35.cell 0
  have j39 := f35.cell 1
  simp at j38 j39
  go_upto_region 10 with fail
  clear j38 j39
  have j40 := f35.cell 0
  have j41 := f35.cell 1
  simp at j40 j41
  go_cut [149] from 149 to 149 (fun s_149 wx => s_149 = .bool false ∧ Below w9.heap.size w9 wx)
  case first =>
    cases O
    · as_aux_lemma =>
      go_wp2_with (go_at_call 14; refine (kSame_any _ _ S _ _ (f36.ri.more y36_) (f37.ri.more y37_) hSl').mono ?_; rintro e wq ⟨rfl, hq1⟩)
      go_meet
      exact ⟨rfl, hq1⟩
    · as_aux_lemma =>
      have hI := implIsServer_any ⟨vr, vl⟩
      rw [(srv_some (show (srvSays ⟨vr, vl⟩ l).2 = true from by rw [← HX1.out])).1] at hI
      simp only [SvV] at hI
      have HI := Lib.hid hI
      clear hI
      go_wp2_with (first | (go_at_call 14; refine (kSame_any _ _ S _ _ (f36.ri.more y36_) (f37.ri.more y37_) hSl').mono ?_; rintro e wq ⟨rfl, hq1⟩; have sq1 := hq1.size; have bq := f35.step hq1; have dq0 := bq.cell 0; have dq1 := bq.cell 1; simp at dq0 dq1) | (go_at_call 15; refine (HI.out _).mono ?_; rintro e wz ⟨rfl, hq2⟩))
      go_meet
      exact ⟨rfl, hq1.trans (hq2.mono sq1)⟩
  case rest =>
    obtain ⟨rfl, hb10⟩ := hcut
    have s10_ := hb10.size
    have t10 := t9.trans (hb10.mono t9.size)
    clear j40 j41
    have f42 := f34.step hb10
    have y42_ := Nat.le_trans y34_ s10_
    clear f34 y34_
    have f43 := f35.step hb10
    clear f35
    have f44 := f36.step hb10
    have y44_ := Nat.le_trans y36_ s10_
    clear f36 y36_
    have f45 := f37.step hb10
    have y45_ := Nat.le_trans y37_ s10_
    clear f37 y37_
    clear hb10 s10_ t9
    have j46 := f43.cell 0
    have j47 := f43.cell 1
    simp at j46 j47
    go_wp2_with fail
    refine (drawBacklogBound_any m mn _ ((hm.below t10).more t10.size) hmn).mono ?_; rintro e w11 ⟨x0, x1, rfl, hb11⟩
    obtain ⟨yr, yl⟩ := x0
    obtain ⟨br, bd⟩ := x1
    simp only [SvV, BuV]
    have s11_ := hb11.size
    have t11 := t10.trans (hb11.mono t10.size)
    clear j46 j47
    have f48 := f42.step hb11
    have y48_ := Nat.le_trans y42_ s11_
    clear f42 y42_
    have f49 := f43.step hb11
    clear f43
    have f50 := f44.step hb11
    have y50_ := Nat.le_trans y44_ s11_
    clear f44 y44_
    have f51 := f45.step hb11
    have y51_ := Nat.le_trans y45_ s11_
    clear f45 y45_
    clear hb11 s11_ t10
    have hb12 : Below w11.heap.size w11 (w11.alloc (.cells #[.int .i64 yr, .int .i64 yl] 25)) := (Below.refl _ _).alloc (Nat.le_refl _) _
    have x_y := BK.made w11 25 #[.int .i64 yr, .int .i64 yl]
    have s12_ := hb12.size
    have t12 := t11.trans (hb12.mono t11.size)
    have f52 := f48.step hb12
    have y52_ := Nat.le_trans y48_ s12_
    clear f48 y48_
    have f53 := f49.step hb12
    clear f49
    have f54 := f50.step hb12
    have y54_ := Nat.le_trans y50_ s12_
    clear f50 y50_
    have f55 := f51.step hb12
    have y55_ := Nat.le_trans y51_ s12_
    clear f51 y51_
    clear hb12 s12_ t11
    have hb13 : Below (w11.alloc (.cells #[.int .i64 yr, .int .i64 yl] 25)).heap.size (w11.alloc (.cells #[.int .i64 yr, .int .i64 yl] 25)) ((w11.alloc (.cells #[.int .i64 yr, .int .i64 yl] 25)).alloc (.cells #[.int .i64 br, .int .i64 bd] 36)) := (Below.refl _ _).alloc (Nat.le_refl _) _
    have x_b := BK.made (w11.alloc (.cells #[.int .i64 yr, .int .i64 yl] 25)) 36 #[.int .i64 br, .int .i64 bd]
    have s13_ := hb13.size
    have t13 := t12.trans (hb13.mono t12.size)
    have f56 := f52.step hb13
    have y56_ := Nat.le_trans y52_ s13_
    clear f52 y52_
    have f57 := f53.step hb13
    clear f53
    have f58 := f54.step hb13
    have y58_ := Nat.le_trans y54_ s13_
    clear f54 y54_
    have f59 := f55.step hb13
    have y59_ := Nat.le_trans y55_ s13_
    clear f55 y55_
    have f60 := x_y.step hb13
    clear x_y
    clear hb13 s13_ t12
    have j61 := f57.cell 0
    have j62 := f57.cell 1
    have j63 := f60.cell 0
    have j64 := f60.cell 1
    have j65 := x_b.cell 0
    have j66 := x_b.cell 1
    simp at j61 j62 j63 j64 j65 j66
    go_upto_if 155 with fail
    clear j61 j62 j63 j64 j65 j66
    go_cut [] from 155 to 155 (fun wx => Below ((w11.alloc (.cells #[.int .i64 yr, .int .i64 yl] 25)).alloc (.cells #[.int .i64 br, .int .i64 bd] 36)).heap.size ((w11.alloc (.cells #[.int .i64 yr, .int .i64 yl] 25)).alloc (.cells #[.int .i64 br, .int .i64 bd] 36)) wx)
    case first =>
      have z13 : Below ((w11.alloc (.cells #[.int .i64 yr, .int .i64 yl] 25)).alloc (.cells #[.int .i64 br, .int .i64 bd] 36)).heap.size ((w11.alloc (.cells #[.int .i64 yr, .int .i64 yl] 25)).alloc (.cells #[.int .i64 br, .int .i64 bd] 36)) ((w11.alloc (.cells #[.int .i64 yr, .int .i64 yl] 25)).alloc (.cells #[.int .i64 br, .int .i64 bd] 36)) := Below.refl _ _
      have j67 := f57.cell 0
      have j68 := f57.cell 1
      have j69 := f60.cell 0
      have j70 := f60.cell 1
      have j71 := x_b.cell 0
      have j72 := x_b.cell 1
      simp at j67 j68 j69 j70 j71 j72
      cases O
      · go_wp2_with fail
        go_meet
        exact z13
      have hO : (srvSays ⟨vr, vl⟩ l).2 = true := by rw [← HX1.out]
      have eS : (srvSays ⟨vr, vl⟩ l).1 = S := by rw [← HX1.out]
      obtain ⟨Z, hZ⟩ : ∃ Z, Z = sumL l := ⟨_, rfl⟩
      have HKS : Hid (∀ u w, RI w w.heap.size u S → Calls Try.prog 17 #[u] w (fun e w' => e = .returned (.int .i64 Z) ∧ w' = w)) := by
        intro u w q
        have h5 := kSum_any u S w q (by omega) (by have := srv_mem hO; rw [eS] at this; exact this)
        have h6 := srv_sum hO
        rw [eS] at h6
        rw [h6, ← hZ] at h5
        exact h5.mono fun _ _ h => ⟨h.1, h.2.symm⟩
      have HKT : Hid (∀ u w, RI w w.heap.size u l → Calls Try.prog 17 #[u] w (fun e w' => e = .returned (.int .i64 Z) ∧ w' = w)) := by
        intro u w q
        have h5 := kSum_any u l w q (by omega) (srv_in hO)
        rw [← hZ] at h5
        exact h5.mono fun _ _ h => ⟨h.1, h.2.symm⟩
      clear hZ
      obtain ⟨X, hX⟩ : ∃ X, X = mstN S S.length := ⟨_, rfl⟩
      have hXv : X ≤ vr := by have := srv_most hO; rw [eS] at this; rw [hX]; exact this
      have HKM : Hid (∀ u w, RI w w.heap.size u S → Calls Try.prog 18 #[u] w (fun e w' => e = .returned (.int .i64 X) ∧ w' = w)) := by
        intro u w q
        have h5 := kMost_any u S w q (by omega)
        rw [← hX] at h5
        exact h5.mono fun _ _ h => ⟨h.1, h.2.symm⟩
      clear hX
      obtain ⟨KB, K5, hK⟩ : ∃ a b, (a, b) = kpSays ⟨br, bd⟩ l := ⟨_, _, rfl⟩
      have HKB : Hid (∀ u w, RI w w.heap.size u l → Calls Try.prog 19 #[.agg #[.int .i64 br, .int .i64 bd], u] w (RetV w (.tuple #[.bool KB, .bool K5]))) := by
        intro u w q
        have h5 := implKeepsBucket_any u ⟨br, bd⟩ l w q hn
        rw [← hK] at h5
        exact h5
      have HK := Lib.hid hK
      clear hK
      obtain ⟨M6, F6, hM6⟩ : ∃ a b, (a, b) = bkbSays ⟨vr, vl⟩ ⟨br, bd⟩ := ⟨_, _, rfl⟩
      obtain ⟨L7, hL7⟩ : ∃ a, (a, F6) = dlbSays ⟨vr, vl⟩ ⟨br, bd⟩ := ⟨(dlbSays ⟨vr, vl⟩ ⟨br, bd⟩).1, by rw [show F6 = (dlbSays ⟨vr, vl⟩ ⟨br, bd⟩).2 from by rw [dlb_snd, ← bkb_snd, ← hM6]]⟩
      have HB6 : Hid (∀ w, Calls Try.prog 20 #[.agg #[.int .i64 vr, .int .i64 vl], .agg #[.int .i64 br, .int .i64 bd]] w (RetV w (.tuple #[.int .i64 M6, .bool F6]))) := by
        intro w
        have h5 := implBacklogBound_any ⟨vr, vl⟩ ⟨br, bd⟩ w
        rw [← hM6] at h5
        exact h5
      have HD7 : Hid (∀ w, Calls Try.prog 21 #[.agg #[.int .i64 vr, .int .i64 vl], .agg #[.int .i64 br, .int .i64 bd]] w (RetV w (.tuple #[.int .i64 L7, .bool F6]))) := by
        intro w
        have h5 := implDelayBound_any ⟨vr, vl⟩ ⟨br, bd⟩ w
        rw [← hL7] at h5
        exact h5
      obtain ⟨⟨hr, hd⟩, F8, hF8⟩ : ∃ a b, (a, b) = bbhSays ⟨vr, vl⟩ ⟨br, bd⟩ := ⟨_, _, rfl⟩
      have HB8 : Hid (∀ w, Calls Try.prog 22 #[.agg #[.int .i64 vr, .int .i64 vl], .agg #[.int .i64 br, .int .i64 bd]] w (RetV w (.tuple #[.agg #[.int .i64 hr, .int .i64 hd], .bool F8]))) := by
        intro w
        have h5 := implBucketBehind_any ⟨vr, vl⟩ ⟨br, bd⟩ w
        rw [← hF8] at h5
        exact h5
      obtain ⟨TS, hTS⟩ : ∃ b, b = trOk S := ⟨_, rfl⟩
      have HTS : Hid (∀ u w, RI w w.heap.size u S → Calls Try.prog 23 #[u] w (RetV w (.bool TS))) := by
        intro u w q
        have h5 := implIsTraffic_any u S w q hSl'
        rw [← hTS] at h5
        exact h5
      have hKK : KB = true → K5 = true := fun h => by
        have h5 := kp_true (b := ⟨br, bd⟩) (l := l) (by rw [← HK.out]; exact h)
        rw [← HK.out] at h5
        exact h5.1
      have hMD : KB = true → F6 = true → M1 ≤ M6 ∧ D1 ≤ L7 := fun h1 h2 => by
        have q1 : (kpSays ⟨br, bd⟩ l).1 = true := by rw [← HK.out]; exact h1
        have q2 : fitOk ⟨vr, vl⟩ ⟨br, bd⟩ = true := by rw [← bkb_snd, ← hM6]; exact h2
        have h5 := srv_back hO q1 q2
        have h6 := srv_delay hO q1 q2
        rw [HX2.out, ← hM6] at h5
        rw [HX3.out, ← hL7] at h6
        exact ⟨h5, h6⟩
      have HBE : KB = true → F8 = true → TS = true → Hid (∀ u w, RI w w.heap.size u S → Calls Try.prog 19 #[.agg #[.int .i64 hr, .int .i64 hd], u] w (RetV w (.tuple #[.bool true, .bool true]))) := fun h1 h2 h3 => by
        intro u w q
        have h5 := implKeepsBucket_any u ⟨hr, hd⟩ S w q hSl'
        have h6 := srv_behind hO (b := ⟨br, bd⟩) (by rw [← HK.out]; exact h1) (by rw [← hF8]; exact h2) (by rw [eS, ← hTS]; exact h3)
        rw [← hF8, eS] at h6
        rw [h6] at h5
        exact h5
      have HMD := Lib.hid hMD
      have HBE := Lib.hid HBE
      clear hMD hM6 hL7 hF8 hTS hO eS
      go_upto_region 14 with fail
      clear j67 j68 j69 j70 j71 j72
      have j73 := f57.cell 0
      have j74 := f57.cell 1
      have j75 := f60.cell 0
      have j76 := f60.cell 1
      have j77 := x_b.cell 0
      have j78 := x_b.cell 1
      simp at j73 j74 j75 j76 j77 j78
      go_cut [167] from 167 to 167 (fun s_167 wx => s_167 = .bool false ∧ Below ((w11.alloc (.cells #[.int .i64 yr, .int .i64 yl] 25)).alloc (.cells #[.int .i64 br, .int .i64 bd] 36)).heap.size ((w11.alloc (.cells #[.int .i64 yr, .int .i64 yl] 25)).alloc (.cells #[.int .i64 br, .int .i64 bd] 36)) wx)
      case first =>
        as_aux_lemma =>
        have QS : RI ((w11.alloc (.cells #[.int .i64 yr, .int .i64 yl] 25)).alloc (.cells #[.int .i64 br, .int .i64 bd] 36)) ((w11.alloc (.cells #[.int .i64 yr, .int .i64 yl] 25)).alloc (.cells #[.int .i64 br, .int .i64 bd] 36)).heap.size s_u S := (f58.ri.more y58_)
        have QT : RI ((w11.alloc (.cells #[.int .i64 yr, .int .i64 yl] 25)).alloc (.cells #[.int .i64 br, .int .i64 bd] 36)) ((w11.alloc (.cells #[.int .i64 yr, .int .i64 yl] 25)).alloc (.cells #[.int .i64 br, .int .i64 bd] 36)).heap.size u_t l := (f56.ri.more y56_)
        have e0 := f57.cell 0; have e1 := f57.cell 1; simp at e0 e1
        go_quiet ((first | (go_at_call 17; exact Calls.quiet_of_same (HKS.out _ _ (RI.drewN QS _))) | (go_at_call 17; exact Calls.quiet_of_same (HKT.out _ _ (RI.drewN QT _))) | (go_at_call 18; exact Calls.quiet_of_same (HKM.out _ _ (RI.drewN QS _)))))
        go_wp2
        go_meet
        exact ⟨by first | rfl | trivial | (simp; omega), below_drewN (Below.refl _ _) _⟩
      case rest =>
        obtain ⟨rfl, hb14⟩ := hcut
        have s14_ := hb14.size
        have t14 := t13.trans (hb14.mono t13.size)
        clear j73 j74 j75 j76 j77 j78
        have f79 := f56.step hb14
        have y79_ := Nat.le_trans y56_ s14_
        clear f56 y56_
        have f80 := f57.step hb14
        clear f57
        have f81 := f58.step hb14
        have y81_ := Nat.le_trans y58_ s14_
        clear f58 y58_
        have f82 := f59.step hb14
        have y82_ := Nat.le_trans y59_ s14_
        clear f59 y59_
        have f83 := f60.step hb14
        clear f60
        have f84 := x_b.step hb14
        clear x_b
        have z14 := z13.trans (hb14.mono z13.size)
        clear hb14 s14_ t13 z13
        have j85 := f80.cell 0
        have j86 := f80.cell 1
        have j87 := f83.cell 0
        have j88 := f83.cell 1
        have j89 := f84.cell 0
        have j90 := f84.cell 1
        simp at j85 j86 j87 j88 j89 j90
        go_wp2_with fail
        refine (HKB.out _ _ (f79.ri.more y79_)).mono ?_; rintro e w15 ⟨rfl, hb15⟩
        have s15_ := hb15.size
        have t15 := t14.trans (hb15.mono t14.size)
        clear j85 j86 j87 j88 j89 j90
        have f91 := f79.step hb15
        have y91_ := Nat.le_trans y79_ s15_
        clear f79 y79_
        have f92 := f80.step hb15
        clear f80
        have f93 := f81.step hb15
        have y93_ := Nat.le_trans y81_ s15_
        clear f81 y81_
        have f94 := f82.step hb15
        have y94_ := Nat.le_trans y82_ s15_
        clear f82 y82_
        have f95 := f83.step hb15
        clear f83
        have f96 := f84.step hb15
        clear f84
        have z15 := z14.trans (hb15.mono z14.size)
        clear hb15 s15_ t14 z14
        have j97 := f92.cell 0
        have j98 := f92.cell 1
        have j99 := f95.cell 0
        have j100 := f95.cell 1
        have j101 := f96.cell 0
        have j102 := f96.cell 1
        simp at j97 j98 j99 j100 j101 j102
        go_wp2_with fail
        refine (HB6.out _).mono ?_; rintro e w16 ⟨rfl, hb16⟩
        have s16_ := hb16.size
        have t16 := t15.trans (hb16.mono t15.size)
        clear j97 j98 j99 j100 j101 j102
        have f103 := f91.step hb16
        have y103_ := Nat.le_trans y91_ s16_
        clear f91 y91_
        have f104 := f92.step hb16
        clear f92
        have f105 := f93.step hb16
        have y105_ := Nat.le_trans y93_ s16_
        clear f93 y93_
        have f106 := f94.step hb16
        have y106_ := Nat.le_trans y94_ s16_
        clear f94 y94_
        have f107 := f95.step hb16
        clear f95
        have f108 := f96.step hb16
        clear f96
        have z16 := z15.trans (hb16.mono z15.size)
        clear hb16 s16_ t15 z15
        have j109 := f104.cell 0
        have j110 := f104.cell 1
        have j111 := f107.cell 0
        have j112 := f107.cell 1
        have j113 := f108.cell 0
        have j114 := f108.cell 1
        simp at j109 j110 j111 j112 j113 j114
        go_wp2_with fail
        refine (HD7.out _).mono ?_; rintro e w17 ⟨rfl, hb17⟩
        have s17_ := hb17.size
        have t17 := t16.trans (hb17.mono t16.size)
        clear j109 j110 j111 j112 j113 j114
        have f115 := f103.step hb17
        have y115_ := Nat.le_trans y103_ s17_
        clear f103 y103_
        have f116 := f104.step hb17
        clear f104
        have f117 := f105.step hb17
        have y117_ := Nat.le_trans y105_ s17_
        clear f105 y105_
        have f118 := f106.step hb17
        have y118_ := Nat.le_trans y106_ s17_
        clear f106 y106_
        have f119 := f107.step hb17
        clear f107
        have f120 := f108.step hb17
        clear f108
        have z17 := z16.trans (hb17.mono z16.size)
        clear hb17 s17_ t16 z16
        have j121 := f116.cell 0
        have j122 := f116.cell 1
        have j123 := f119.cell 0
        have j124 := f119.cell 1
        have j125 := f120.cell 0
        have j126 := f120.cell 1
        simp at j121 j122 j123 j124 j125 j126
        go_upto_region 19 with fail
        go_cut [206] from 206 to 206 (fun s_206 wx => s_206 = .bool false ∧ Below w17.heap.size w17 wx)
        case first =>
          cases K5
          · as_aux_lemma =>
            go_wp2_with fail
            go_meet
            exact ⟨rfl, Below.refl _ _⟩
          cases KB
          · as_aux_lemma =>
            go_wp2_with fail
            go_meet
            exact ⟨rfl, Below.refl _ _⟩
          cases F6
          · as_aux_lemma =>
            go_wp2_with fail
            go_meet
            exact ⟨rfl, Below.refl _ _⟩
          · as_aux_lemma =>
            have hmd := HMD.out rfl rfl
            obtain ⟨hmd1, hmd2⟩ := hmd
            go_wp2_with fail
            go_meet
            exact ⟨by first | rfl | trivial | (simp; omega), Below.refl _ _⟩
        case rest =>
          obtain ⟨rfl, hb18⟩ := hcut
          have s18_ := hb18.size
          have t18 := t17.trans (hb18.mono t17.size)
          clear j121 j122 j123 j124 j125 j126
          have f127 := f115.step hb18
          have y127_ := Nat.le_trans y115_ s18_
          clear f115 y115_
          have f128 := f116.step hb18
          clear f116
          have f129 := f117.step hb18
          have y129_ := Nat.le_trans y117_ s18_
          clear f117 y117_
          have f130 := f118.step hb18
          have y130_ := Nat.le_trans y118_ s18_
          clear f118 y118_
          have f131 := f119.step hb18
          clear f119
          have f132 := f120.step hb18
          clear f120
          have z18 := z17.trans (hb18.mono z17.size)
          clear hb18 s18_ t17 z17
          have j133 := f128.cell 0
          have j134 := f128.cell 1
          have j135 := f131.cell 0
          have j136 := f131.cell 1
          have j137 := f132.cell 0
          have j138 := f132.cell 1
          simp at j133 j134 j135 j136 j137 j138
          go_wp2_with fail
          refine (HB8.out _).mono ?_; rintro e w19 ⟨rfl, hb19⟩
          have s19_ := hb19.size
          have t19 := t18.trans (hb19.mono t18.size)
          clear j133 j134 j135 j136 j137 j138
          have f139 := f127.step hb19
          have y139_ := Nat.le_trans y127_ s19_
          clear f127 y127_
          have f140 := f128.step hb19
          clear f128
          have f141 := f129.step hb19
          have y141_ := Nat.le_trans y129_ s19_
          clear f129 y129_
          have f142 := f130.step hb19
          have y142_ := Nat.le_trans y130_ s19_
          clear f130 y130_
          have f143 := f131.step hb19
          clear f131
          have f144 := f132.step hb19
          clear f132
          have z19 := z18.trans (hb19.mono z18.size)
          clear hb19 s19_ t18 z18
          have hb20 : Below w19.heap.size w19 (w19.alloc (.cells #[.int .i64 hr, .int .i64 hd] 36)) := (Below.refl _ _).alloc (Nat.le_refl _) _
          have x_h := BK.made w19 36 #[.int .i64 hr, .int .i64 hd]
          have s20_ := hb20.size
          have t20 := t19.trans (hb20.mono t19.size)
          have f145 := f139.step hb20
          have y145_ := Nat.le_trans y139_ s20_
          clear f139 y139_
          have f146 := f140.step hb20
          clear f140
          have f147 := f141.step hb20
          have y147_ := Nat.le_trans y141_ s20_
          clear f141 y141_
          have f148 := f142.step hb20
          have y148_ := Nat.le_trans y142_ s20_
          clear f142 y142_
          have f149 := f143.step hb20
          clear f143
          have f150 := f144.step hb20
          clear f144
          have z20 := z19.trans (hb20.mono z19.size)
          clear hb20 s20_ t19 z19
          have j151 := f146.cell 0
          have j152 := f146.cell 1
          have j153 := f149.cell 0
          have j154 := f149.cell 1
          have j155 := f150.cell 0
          have j156 := f150.cell 1
          have j157 := x_h.cell 0
          have j158 := x_h.cell 1
          simp at j151 j152 j153 j154 j155 j156 j157 j158
          go_upto_region 22 with fail
          go_cut [223] from 223 to 223 (fun s_223 wx => s_223 = .bool (KB && (K5 && (F8 && TS))) ∧ Below (w19.alloc (.cells #[.int .i64 hr, .int .i64 hd] 36)).heap.size (w19.alloc (.cells #[.int .i64 hr, .int .i64 hd] 36)) wx)
          case first =>
            have QS : RI (w19.alloc (.cells #[.int .i64 hr, .int .i64 hd] 36)) (w19.alloc (.cells #[.int .i64 hr, .int .i64 hd] 36)).heap.size s_u S := (f147.ri.more y147_)
            cases K5
            · as_aux_lemma =>
              go_wp2_with fail
              go_meet
              exact ⟨by cases KB <;> rfl, Below.refl _ _⟩
            cases KB
            · as_aux_lemma =>
              go_wp2_with fail
              go_meet
              exact ⟨rfl, Below.refl _ _⟩
            cases F8
            · as_aux_lemma =>
              go_wp2_with fail
              go_meet
              exact ⟨rfl, Below.refl _ _⟩
            · as_aux_lemma =>
              go_wp2_with (go_at_call 23; refine (HTS.out _ _ QS).mono ?_; rintro e wq ⟨rfl, hq1⟩)
              go_meet
              exact ⟨by simp, hq1⟩
          case rest =>
            obtain ⟨rfl, hb21⟩ := hcut
            have s21_ := hb21.size
            have t21 := t20.trans (hb21.mono t20.size)
            clear j151 j152 j153 j154 j155 j156 j157 j158
            have f159 := f145.step hb21
            have y159_ := Nat.le_trans y145_ s21_
            clear f145 y145_
            have f160 := f146.step hb21
            clear f146
            have f161 := f147.step hb21
            have y161_ := Nat.le_trans y147_ s21_
            clear f147 y147_
            have f162 := f148.step hb21
            have y162_ := Nat.le_trans y148_ s21_
            clear f148 y148_
            have f163 := f149.step hb21
            clear f149
            have f164 := f150.step hb21
            clear f150
            have f165 := x_h.step hb21
            clear x_h
            have z21 := z20.trans (hb21.mono z20.size)
            clear hb21 s21_ t20 z20
            obtain ⟨q, hq⟩ : ∃ q, (KB && (K5 && (F8 && TS))) = q := ⟨_, rfl⟩
            rw [hq]
            cases q
            · go_wp2_with fail
              go_meet
              exact z21
            have hq' : KB = true ∧ K5 = true ∧ F8 = true ∧ TS = true := by simpa using hq
            obtain ⟨rfl, rfl, rfl, rfl⟩ := hq'
            clear hq
            have HBF := HBE.out rfl rfl rfl
            have j166 := f160.cell 0
            have j167 := f160.cell 1
            have j168 := f163.cell 0
            have j169 := f163.cell 1
            have j170 := f164.cell 0
            have j171 := f164.cell 1
            have j172 := f165.cell 0
            have j173 := f165.cell 1
            simp at j166 j167 j168 j169 j170 j171 j172 j173
            go_wp2_with fail
            refine (HBF.out _ _ (f161.ri.more y161_)).mono ?_; rintro e w22 ⟨rfl, hb22⟩
            have s22_ := hb22.size
            have t22 := t21.trans (hb22.mono t21.size)
            clear j166 j167 j168 j169 j170 j171 j172 j173
            have f174 := f159.step hb22
            have y174_ := Nat.le_trans y159_ s22_
            clear f159 y159_
            have f175 := f160.step hb22
            clear f160
            have f176 := f161.step hb22
            have y176_ := Nat.le_trans y161_ s22_
            clear f161 y161_
            have f177 := f162.step hb22
            have y177_ := Nat.le_trans y162_ s22_
            clear f162 y162_
            have f178 := f163.step hb22
            clear f163
            have f179 := f164.step hb22
            clear f164
            have f180 := f165.step hb22
            clear f165
            have z22 := z21.trans (hb22.mono z21.size)
            clear hb22 s22_ t21 z21
            have j181 := f175.cell 0
            have j182 := f175.cell 1
            have j183 := f178.cell 0
            have j184 := f178.cell 1
            have j185 := f179.cell 0
            have j186 := f179.cell 1
            have j187 := f180.cell 0
            have j188 := f180.cell 1
            simp at j181 j182 j183 j184 j185 j186 j187 j188
            go_wp2_with fail
            go_meet
            exact z22
    case rest =>
      have hb14 := hcut
      clear hcut
      have s14_ := hb14.size
      have t14 := t13.trans (hb14.mono t13.size)
      have f189 := f56.step hb14
      have y189_ := Nat.le_trans y56_ s14_
      clear f56 y56_
      have f190 := f57.step hb14
      clear f57
      have f191 := f58.step hb14
      have y191_ := Nat.le_trans y58_ s14_
      clear f58 y58_
      have f192 := f59.step hb14
      have y192_ := Nat.le_trans y59_ s14_
      clear f59 y59_
      have f193 := f60.step hb14
      clear f60
      have f194 := x_b.step hb14
      clear x_b
      clear hb14 s14_ t13
      clear HSi HSs HBi HBs HDi HDs HX1 HX2 HX3
      obtain ⟨M5, G5, hM5⟩ : ∃ a b, (a, b) = bkbSays ⟨yr, yl⟩ ⟨br, bd⟩ := ⟨_, _, rfl⟩
      obtain ⟨L5, hL5⟩ : ∃ a, (a, G5) = dlbSays ⟨yr, yl⟩ ⟨br, bd⟩ := ⟨(dlbSays ⟨yr, yl⟩ ⟨br, bd⟩).1, by rw [show G5 = (dlbSays ⟨yr, yl⟩ ⟨br, bd⟩).2 from by rw [dlb_snd, ← bkb_snd, ← hM5]]⟩
      obtain ⟨⟨cr, cd⟩, G9, hG9⟩ : ∃ a b, (a, b) = bbhSays ⟨yr, yl⟩ ⟨br, bd⟩ := ⟨_, _, rfl⟩
      have hGG : G9 = true → G5 = true ∧ cd = M5 ∧ cr = br := fun h => by
        obtain ⟨q1, q2, q3⟩ := bbh_true (v := ⟨yr, yl⟩) (b := ⟨br, bd⟩) (by rw [← hG9]; exact h)
        rw [← hG9] at q2
        injection q2 with q2 q4
        injection q2 with q5 q6
        have q7 : bkbSays ⟨yr, yl⟩ ⟨br, bd⟩ = (bd + br * yl, true) := by simp only [bkbSays, q1, if_true]
        rw [← hM5] at q7
        injection q7 with q8 q9
        exact ⟨q9, by rw [q6, q8], q5⟩
      have HQ1impl : Hid (∀ w, Calls Try.prog 20 #[.agg #[.int .i64 yr, .int .i64 yl], .agg #[.int .i64 br, .int .i64 bd]] w (RetV w (.tuple #[.int .i64 M5, .bool G5]))) := by
        intro w
        have h5 := implBacklogBound_any ⟨yr, yl⟩ ⟨br, bd⟩ w
        rw [← hM5] at h5
        exact h5
      have HQ2impl : Hid (∀ w, Calls Try.prog 21 #[.agg #[.int .i64 yr, .int .i64 yl], .agg #[.int .i64 br, .int .i64 bd]] w (RetV w (.tuple #[.int .i64 L5, .bool G5]))) := by
        intro w
        have h5 := implDelayBound_any ⟨yr, yl⟩ ⟨br, bd⟩ w
        rw [← hL5] at h5
        exact h5
      have HQ3impl : Hid (∀ w, Calls Try.prog 22 #[.agg #[.int .i64 yr, .int .i64 yl], .agg #[.int .i64 br, .int .i64 bd]] w (RetV w (.tuple #[.agg #[.int .i64 cr, .int .i64 cd], .bool G9]))) := by
        intro w
        have h5 := implBucketBehind_any ⟨yr, yl⟩ ⟨br, bd⟩ w
        rw [← hG9] at h5
        exact h5
      have HQ1spec : Hid (∀ w, Calls Try.prog 24 #[.agg #[.int .i64 yr, .int .i64 yl], .agg #[.int .i64 br, .int .i64 bd]] w (RetV w (.tuple #[.int .i64 M5, .bool G5]))) := by
        intro w
        have h5 := specBacklogBound_any ⟨yr, yl⟩ ⟨br, bd⟩ w
        rw [← hM5] at h5
        exact h5
      have HQ2spec : Hid (∀ w, Calls Try.prog 25 #[.agg #[.int .i64 yr, .int .i64 yl], .agg #[.int .i64 br, .int .i64 bd]] w (RetV w (.tuple #[.int .i64 L5, .bool G5]))) := by
        intro w
        have h5 := specDelayBound_any ⟨yr, yl⟩ ⟨br, bd⟩ w
        rw [← hL5] at h5
        exact h5
      have HQ3spec : Hid (∀ w, Calls Try.prog 26 #[.agg #[.int .i64 yr, .int .i64 yl], .agg #[.int .i64 br, .int .i64 bd]] w (RetV w (.tuple #[.agg #[.int .i64 cr, .int .i64 cd], .bool G9]))) := by
        intro w
        have h5 := specBucketBehind_any ⟨yr, yl⟩ ⟨br, bd⟩ w
        rw [← hG9] at h5
        exact h5
      have HGG := Lib.hid hGG
      clear hGG hM5 hL5 hG9
      have j195 := f190.cell 0
      have j196 := f190.cell 1
      have j197 := f193.cell 0
      have j198 := f193.cell 1
      have j199 := f194.cell 0
      have j200 := f194.cell 1
      simp at j195 j196 j197 j198 j199 j200
      go_wp2_with fail
      refine (HQ1impl.out _).mono ?_; rintro e w15 ⟨rfl, hb15⟩
      have s15_ := hb15.size
      have t15 := t14.trans (hb15.mono t14.size)
      clear j195 j196 j197 j198 j199 j200
      have f201 := f189.step hb15
      have y201_ := Nat.le_trans y189_ s15_
      clear f189 y189_
      have f202 := f190.step hb15
      clear f190
      have f203 := f191.step hb15
      have y203_ := Nat.le_trans y191_ s15_
      clear f191 y191_
      have f204 := f192.step hb15
      have y204_ := Nat.le_trans y192_ s15_
      clear f192 y192_
      have f205 := f193.step hb15
      clear f193
      have f206 := f194.step hb15
      clear f194
      clear hb15 s15_ t14
      have j207 := f202.cell 0
      have j208 := f202.cell 1
      have j209 := f205.cell 0
      have j210 := f205.cell 1
      have j211 := f206.cell 0
      have j212 := f206.cell 1
      simp at j207 j208 j209 j210 j211 j212
      go_wp2_with fail
      refine (HQ1spec.out _).mono ?_; rintro e w16 ⟨rfl, hb16⟩
      have s16_ := hb16.size
      have t16 := t15.trans (hb16.mono t15.size)
      clear j207 j208 j209 j210 j211 j212
      have f213 := f201.step hb16
      have y213_ := Nat.le_trans y201_ s16_
      clear f201 y201_
      have f214 := f202.step hb16
      clear f202
      have f215 := f203.step hb16
      have y215_ := Nat.le_trans y203_ s16_
      clear f203 y203_
      have f216 := f204.step hb16
      have y216_ := Nat.le_trans y204_ s16_
      clear f204 y204_
      have f217 := f205.step hb16
      clear f205
      have f218 := f206.step hb16
      clear f206
      clear hb16 s16_ t15
      have j219 := f214.cell 0
      have j220 := f214.cell 1
      have j221 := f217.cell 0
      have j222 := f217.cell 1
      have j223 := f218.cell 0
      have j224 := f218.cell 1
      simp at j219 j220 j221 j222 j223 j224
      go_wp2_with fail
      refine (HQ2impl.out _).mono ?_; rintro e w17 ⟨rfl, hb17⟩
      have s17_ := hb17.size
      have t17 := t16.trans (hb17.mono t16.size)
      clear j219 j220 j221 j222 j223 j224
      have f225 := f213.step hb17
      have y225_ := Nat.le_trans y213_ s17_
      clear f213 y213_
      have f226 := f214.step hb17
      clear f214
      have f227 := f215.step hb17
      have y227_ := Nat.le_trans y215_ s17_
      clear f215 y215_
      have f228 := f216.step hb17
      have y228_ := Nat.le_trans y216_ s17_
      clear f216 y216_
      have f229 := f217.step hb17
      clear f217
      have f230 := f218.step hb17
      clear f218
      clear hb17 s17_ t16
      have j231 := f226.cell 0
      have j232 := f226.cell 1
      have j233 := f229.cell 0
      have j234 := f229.cell 1
      have j235 := f230.cell 0
      have j236 := f230.cell 1
      simp at j231 j232 j233 j234 j235 j236
      go_wp2_with fail
      refine (HQ2spec.out _).mono ?_; rintro e w18 ⟨rfl, hb18⟩
      have s18_ := hb18.size
      have t18 := t17.trans (hb18.mono t17.size)
      clear j231 j232 j233 j234 j235 j236
      have f237 := f225.step hb18
      have y237_ := Nat.le_trans y225_ s18_
      clear f225 y225_
      have f238 := f226.step hb18
      clear f226
      have f239 := f227.step hb18
      have y239_ := Nat.le_trans y227_ s18_
      clear f227 y227_
      have f240 := f228.step hb18
      have y240_ := Nat.le_trans y228_ s18_
      clear f228 y228_
      have f241 := f229.step hb18
      clear f229
      have f242 := f230.step hb18
      clear f230
      clear hb18 s18_ t17
      have j243 := f238.cell 0
      have j244 := f238.cell 1
      have j245 := f241.cell 0
      have j246 := f241.cell 1
      have j247 := f242.cell 0
      have j248 := f242.cell 1
      simp at j243 j244 j245 j246 j247 j248
      go_wp2_with fail
      refine (HQ3impl.out _).mono ?_; rintro e w19 ⟨rfl, hb19⟩
      have s19_ := hb19.size
      have t19 := t18.trans (hb19.mono t18.size)
      clear j243 j244 j245 j246 j247 j248
      have f249 := f237.step hb19
      have y249_ := Nat.le_trans y237_ s19_
      clear f237 y237_
      have f250 := f238.step hb19
      clear f238
      have f251 := f239.step hb19
      have y251_ := Nat.le_trans y239_ s19_
      clear f239 y239_
      have f252 := f240.step hb19
      have y252_ := Nat.le_trans y240_ s19_
      clear f240 y240_
      have f253 := f241.step hb19
      clear f241
      have f254 := f242.step hb19
      clear f242
      clear hb19 s19_ t18
      have hb20 : Below w19.heap.size w19 (w19.alloc (.cells #[.int .i64 cr, .int .i64 cd] 36)) := (Below.refl _ _).alloc (Nat.le_refl _) _
      have x_cimpl := BK.made w19 36 #[.int .i64 cr, .int .i64 cd]
      have s20_ := hb20.size
      have t20 := t19.trans (hb20.mono t19.size)
      have f255 := f249.step hb20
      have y255_ := Nat.le_trans y249_ s20_
      clear f249 y249_
      have f256 := f250.step hb20
      clear f250
      have f257 := f251.step hb20
      have y257_ := Nat.le_trans y251_ s20_
      clear f251 y251_
      have f258 := f252.step hb20
      have y258_ := Nat.le_trans y252_ s20_
      clear f252 y252_
      have f259 := f253.step hb20
      clear f253
      have f260 := f254.step hb20
      clear f254
      clear hb20 s20_ t19
      have j261 := f256.cell 0
      have j262 := f256.cell 1
      have j263 := f259.cell 0
      have j264 := f259.cell 1
      have j265 := f260.cell 0
      have j266 := f260.cell 1
      have j267 := x_cimpl.cell 0
      have j268 := x_cimpl.cell 1
      simp at j261 j262 j263 j264 j265 j266 j267 j268
      go_wp2_with fail
      refine (HQ3spec.out _).mono ?_; rintro e w21 ⟨rfl, hb21⟩
      have s21_ := hb21.size
      have t21 := t20.trans (hb21.mono t20.size)
      clear j261 j262 j263 j264 j265 j266 j267 j268
      have f269 := f255.step hb21
      have y269_ := Nat.le_trans y255_ s21_
      clear f255 y255_
      have f270 := f256.step hb21
      clear f256
      have f271 := f257.step hb21
      have y271_ := Nat.le_trans y257_ s21_
      clear f257 y257_
      have f272 := f258.step hb21
      have y272_ := Nat.le_trans y258_ s21_
      clear f258 y258_
      have f273 := f259.step hb21
      clear f259
      have f274 := f260.step hb21
      clear f260
      have f275 := x_cimpl.step hb21
      clear x_cimpl
      clear hb21 s21_ t20
      have hb22 : Below w21.heap.size w21 (w21.alloc (.cells #[.int .i64 cr, .int .i64 cd] 36)) := (Below.refl _ _).alloc (Nat.le_refl _) _
      have x_cspec := BK.made w21 36 #[.int .i64 cr, .int .i64 cd]
      have s22_ := hb22.size
      have t22 := t21.trans (hb22.mono t21.size)
      have f276 := f269.step hb22
      have y276_ := Nat.le_trans y269_ s22_
      clear f269 y269_
      have f277 := f270.step hb22
      clear f270
      have f278 := f271.step hb22
      have y278_ := Nat.le_trans y271_ s22_
      clear f271 y271_
      have f279 := f272.step hb22
      have y279_ := Nat.le_trans y272_ s22_
      clear f272 y272_
      have f280 := f273.step hb22
      clear f273
      have f281 := f274.step hb22
      clear f274
      have f282 := f275.step hb22
      clear f275
      clear hb22 s22_ t21
      have j283 := f277.cell 0
      have j284 := f277.cell 1
      have j285 := f280.cell 0
      have j286 := f280.cell 1
      have j287 := f281.cell 0
      have j288 := f281.cell 1
      have j289 := f282.cell 0
      have j290 := f282.cell 1
      have j291 := x_cspec.cell 0
      have j292 := x_cspec.cell 1
      simp at j283 j284 j285 j286 j287 j288 j289 j290 j291 j292
      go_upto_region 32 with fail
      go_cut [324] from 324 to 324 (fun s_324 wx => s_324 = .bool false ∧ Below (w21.alloc (.cells #[.int .i64 cr, .int .i64 cd] 36)).heap.size (w21.alloc (.cells #[.int .i64 cr, .int .i64 cd] 36)) wx)
      case first =>
        cases G9
        · as_aux_lemma =>
          go_wp2_with fail
          go_meet
          exact ⟨rfl, Below.refl _ _⟩
        · as_aux_lemma =>
          obtain ⟨rfl, rfl, rfl⟩ := HGG.out rfl
          go_wp2_with fail
          go_meet
          exact ⟨rfl, Below.refl _ _⟩
      case rest =>
        obtain ⟨rfl, hb23⟩ := hcut
        have s23_ := hb23.size
        have t23 := t22.trans (hb23.mono t22.size)
        clear j283 j284 j285 j286 j287 j288 j289 j290 j291 j292
        have f293 := f276.step hb23
        have y293_ := Nat.le_trans y276_ s23_
        clear f276 y276_
        have f294 := f277.step hb23
        clear f277
        have f295 := f278.step hb23
        have y295_ := Nat.le_trans y278_ s23_
        clear f278 y278_
        have f296 := f279.step hb23
        have y296_ := Nat.le_trans y279_ s23_
        clear f279 y279_
        have f297 := f280.step hb23
        clear f280
        have f298 := f281.step hb23
        clear f281
        have f299 := f282.step hb23
        clear f282
        have f300 := x_cspec.step hb23
        clear x_cspec
        clear hb23 s23_ t22
        clear f299
        clear f300
        clear f297
        clear f298
        clear f294
        clear f293
        clear f295
        clear f296
        clear HQ1impl HQ1spec HQ2impl HQ2spec HQ3impl HQ3spec HGG
        go_wp2_with fail
        refine (drawInRow_any m mn _ ((hm.below t23).more t23.size) hmn).mono ?_; rintro e w24 ⟨x0, x1, rfl, hb24⟩
        obtain ⟨pr, pl⟩ := x0
        obtain ⟨qr, ql⟩ := x1
        simp only [SvV]
        have s24_ := hb24.size
        have t24 := t23.trans (hb24.mono t23.size)
        clear hb24 s24_ t23
        have hb25 : Below w24.heap.size w24 (w24.alloc (.cells #[.int .i64 pr, .int .i64 pl] 25)) := (Below.refl _ _).alloc (Nat.le_refl _) _
        have x_p := BK.made w24 25 #[.int .i64 pr, .int .i64 pl]
        have s25_ := hb25.size
        have t25 := t24.trans (hb25.mono t24.size)
        clear hb25 s25_ t24
        have hb26 : Below (w24.alloc (.cells #[.int .i64 pr, .int .i64 pl] 25)).heap.size (w24.alloc (.cells #[.int .i64 pr, .int .i64 pl] 25)) ((w24.alloc (.cells #[.int .i64 pr, .int .i64 pl] 25)).alloc (.cells #[.int .i64 qr, .int .i64 ql] 25)) := (Below.refl _ _).alloc (Nat.le_refl _) _
        have x_q := BK.made (w24.alloc (.cells #[.int .i64 pr, .int .i64 pl] 25)) 25 #[.int .i64 qr, .int .i64 ql]
        have s26_ := hb26.size
        have t26 := t25.trans (hb26.mono t25.size)
        have f301 := x_p.step hb26
        clear x_p
        clear hb26 s26_ t25
        obtain ⟨⟨rr, rl⟩, R1, hR1⟩ : ∃ a b, (a, b) = rowSays ⟨pr, pl⟩ ⟨qr, ql⟩ := ⟨_, _, rfl⟩
        have hR2 := hR1
        rw [row_turned] at hR2
        have HR1 : Hid (∀ w, Calls Try.prog 28 #[.agg #[.int .i64 pr, .int .i64 pl], .agg #[.int .i64 qr, .int .i64 ql]] w (RetV w (.tuple #[.agg #[.int .i64 rr, .int .i64 rl], .bool R1]))) := by
          intro w
          have h5 := implInRow_any ⟨pr, pl⟩ ⟨qr, ql⟩ w
          rw [← hR1] at h5
          exact h5
        have HR2 : Hid (∀ w, Calls Try.prog 29 #[.agg #[.int .i64 pr, .int .i64 pl], .agg #[.int .i64 qr, .int .i64 ql]] w (RetV w (.tuple #[.agg #[.int .i64 rr, .int .i64 rl], .bool R1]))) := by
          intro w
          have h5 := specInRow_any ⟨pr, pl⟩ ⟨qr, ql⟩ w
          rw [← hR1] at h5
          exact h5
        have HR3 : Hid (∀ w, Calls Try.prog 28 #[.agg #[.int .i64 qr, .int .i64 ql], .agg #[.int .i64 pr, .int .i64 pl]] w (RetV w (.tuple #[.agg #[.int .i64 rr, .int .i64 rl], .bool R1]))) := by
          intro w
          have h5 := implInRow_any ⟨qr, ql⟩ ⟨pr, pl⟩ w
          rw [← hR2] at h5
          exact h5
        clear hR1 hR2
        have j302 := f301.cell 0
        have j303 := f301.cell 1
        have j304 := x_q.cell 0
        have j305 := x_q.cell 1
        simp at j302 j303 j304 j305
        go_wp2_with fail
        refine (HR1.out _).mono ?_; rintro e w27 ⟨rfl, hb27⟩
        have s27_ := hb27.size
        have t27 := t26.trans (hb27.mono t26.size)
        clear j302 j303 j304 j305
        have f306 := f301.step hb27
        clear f301
        have f307 := x_q.step hb27
        clear x_q
        clear hb27 s27_ t26
        have hb28 : Below w27.heap.size w27 (w27.alloc (.cells #[.int .i64 rr, .int .i64 rl] 25)) := (Below.refl _ _).alloc (Nat.le_refl _) _
        have x_r1 := BK.made w27 25 #[.int .i64 rr, .int .i64 rl]
        have s28_ := hb28.size
        have t28 := t27.trans (hb28.mono t27.size)
        have f308 := f306.step hb28
        clear f306
        have f309 := f307.step hb28
        clear f307
        clear hb28 s28_ t27
        have j310 := f308.cell 0
        have j311 := f308.cell 1
        have j312 := f309.cell 0
        have j313 := f309.cell 1
        have j314 := x_r1.cell 0
        have j315 := x_r1.cell 1
        simp at j310 j311 j312 j313 j314 j315
        go_wp2_with fail
        refine (HR2.out _).mono ?_; rintro e w29 ⟨rfl, hb29⟩
        have s29_ := hb29.size
        have t29 := t28.trans (hb29.mono t28.size)
        clear j310 j311 j312 j313 j314 j315
        have f316 := f308.step hb29
        clear f308
        have f317 := f309.step hb29
        clear f309
        have f318 := x_r1.step hb29
        clear x_r1
        clear hb29 s29_ t28
        have hb30 : Below w29.heap.size w29 (w29.alloc (.cells #[.int .i64 rr, .int .i64 rl] 25)) := (Below.refl _ _).alloc (Nat.le_refl _) _
        have x_r2 := BK.made w29 25 #[.int .i64 rr, .int .i64 rl]
        have s30_ := hb30.size
        have t30 := t29.trans (hb30.mono t29.size)
        have f319 := f316.step hb30
        clear f316
        have f320 := f317.step hb30
        clear f317
        have f321 := f318.step hb30
        clear f318
        clear hb30 s30_ t29
        have j322 := f319.cell 0
        have j323 := f319.cell 1
        have j324 := f320.cell 0
        have j325 := f320.cell 1
        have j326 := f321.cell 0
        have j327 := f321.cell 1
        have j328 := x_r2.cell 0
        have j329 := x_r2.cell 1
        simp at j322 j323 j324 j325 j326 j327 j328 j329
        go_wp2_with fail
        refine (HR3.out _).mono ?_; rintro e w31 ⟨rfl, hb31⟩
        have s31_ := hb31.size
        have t31 := t30.trans (hb31.mono t30.size)
        clear j322 j323 j324 j325 j326 j327 j328 j329
        have f330 := f319.step hb31
        clear f319
        have f331 := f320.step hb31
        clear f320
        have f332 := f321.step hb31
        clear f321
        have f333 := x_r2.step hb31
        clear x_r2
        clear hb31 s31_ t30
        have hb32 : Below w31.heap.size w31 (w31.alloc (.cells #[.int .i64 rr, .int .i64 rl] 25)) := (Below.refl _ _).alloc (Nat.le_refl _) _
        have x_r3 := BK.made w31 25 #[.int .i64 rr, .int .i64 rl]
        have s32_ := hb32.size
        have t32 := t31.trans (hb32.mono t31.size)
        have f334 := f330.step hb32
        clear f330
        have f335 := f331.step hb32
        clear f331
        have f336 := f332.step hb32
        clear f332
        have f337 := f333.step hb32
        clear f333
        clear hb32 s32_ t31
        clear f334
        clear f335
        have j338 := f336.cell 0
        have j339 := f336.cell 1
        have j340 := f337.cell 0
        have j341 := f337.cell 1
        have j342 := x_r3.cell 0
        have j343 := x_r3.cell 1
        simp at j338 j339 j340 j341 j342 j343
        go_wp2_with fail
        refine (drawWorstTraffic_any m mn _ ((hm.below t32).more t32.size) hmn).mono ?_; rintro e w33 ⟨x0, N, rfl, hN, hb33⟩
        obtain ⟨er, ed⟩ := x0
        simp only [BuV]
        have s33_ := hb33.size
        have t33 := t32.trans (hb33.mono t32.size)
        clear j338 j339 j340 j341 j342 j343
        have f344 := f336.step hb33
        clear f336
        have f345 := f337.step hb33
        clear f337
        have f346 := x_r3.step hb33
        clear x_r3
        clear hb33 s33_ t32
        have hb34 : Below w33.heap.size w33 (w33.alloc (.cells #[.int .i64 er, .int .i64 ed] 36)) := (Below.refl _ _).alloc (Nat.le_refl _) _
        have x_e := BK.made w33 36 #[.int .i64 er, .int .i64 ed]
        have s34_ := hb34.size
        have t34 := t33.trans (hb34.mono t33.size)
        have f347 := f344.step hb34
        clear f344
        have f348 := f345.step hb34
        clear f345
        have f349 := f346.step hb34
        clear f346
        clear hb34 s34_ t33
        have hNw : (Lit.int .i64 N).wf = true := WalkArith.wf_i64 (by omega)
        obtain ⟨WT, W1, hW1⟩ : ∃ a b, (a, b) = worstSays ⟨er, ed⟩ N := ⟨_, _, rfl⟩
        have hWl : WT.length ≤ 1048576 := by have := worstSays_len ⟨er, ed⟩ N; rw [← hW1] at this; exact this
        have hWK : W1 = true → kpSays ⟨er, ed⟩ WT = (true, true) ∧ (WT.length : Int) = N := fun h => by
          have h5 := wst_keeps (c := ⟨er, ed⟩) (n := N) (by rw [← hW1]; exact h)
          rw [← hW1] at h5
          exact h5
        have HWimpl : Hid (∀ w, Calls Try.prog 31 #[.agg #[.int .i64 er, .int .i64 ed], .int .i64 N] w (RetLB 3 w WT W1)) := by
          intro w
          have h5 := implWorstTraffic_any ⟨er, ed⟩ N w hNw
          rw [← hW1] at h5
          exact h5
        have HWspec : Hid (∀ w, Calls Try.prog 32 #[.agg #[.int .i64 er, .int .i64 ed], .int .i64 N] w (RetLB 3 w WT W1)) := by
          intro w
          have h5 := specWorstTraffic_any ⟨er, ed⟩ N w hNw
          rw [← hW1] at h5
          exact h5
        have HWK := Lib.hid hWK
        clear hWK hW1 hNw
        have j350 := f347.cell 0
        have j351 := f347.cell 1
        have j352 := f348.cell 0
        have j353 := f348.cell 1
        have j354 := f349.cell 0
        have j355 := f349.cell 1
        have j356 := x_e.cell 0
        have j357 := x_e.cell 1
        simp at j350 j351 j352 j353 j354 j355 j356 j357
        go_wp2_with fail
        refine (HWimpl.out _).mono ?_; rintro e w35 ⟨a_u, rfl, o_a, hb35⟩
        have s35_ := hb35.size
        have t35 := t34.trans (hb35.mono t34.size)
        clear j350 j351 j352 j353 j354 j355 j356 j357
        have f358 := f347.step hb35
        clear f347
        have f359 := f348.step hb35
        clear f348
        have f360 := f349.step hb35
        clear f349
        have f361 := x_e.step hb35
        clear x_e
        clear hb35 s35_ t34
        have y362_ := Nat.le_refl w35.heap.size
        have j363 := f358.cell 0
        have j364 := f358.cell 1
        have j365 := f359.cell 0
        have j366 := f359.cell 1
        have j367 := f360.cell 0
        have j368 := f360.cell 1
        have j369 := f361.cell 0
        have j370 := f361.cell 1
        simp at j363 j364 j365 j366 j367 j368 j369 j370
        go_wp2_with fail
        refine (HWspec.out _).mono ?_; rintro e w36 ⟨b_u, rfl, o_b, hb36⟩
        have s36_ := hb36.size
        have t36 := t35.trans (hb36.mono t35.size)
        clear j363 j364 j365 j366 j367 j368 j369 j370
        have f371 := f358.step hb36
        clear f358
        have f372 := f359.step hb36
        clear f359
        have f373 := f360.step hb36
        clear f360
        have f374 := f361.step hb36
        clear f361
        have f375 := o_a.step hb36
        have y375_ := Nat.le_trans y362_ s36_
        clear o_a y362_
        clear hb36 s36_ t35
        have y376_ := Nat.le_refl w36.heap.size
        go_upto_region 41 with fail
        have j377 := f371.cell 0
        have j378 := f371.cell 1
        have j379 := f372.cell 0
        have j380 := f372.cell 1
        have j381 := f373.cell 0
        have j382 := f373.cell 1
        have j383 := f374.cell 0
        have j384 := f374.cell 1
        simp at j377 j378 j379 j380 j381 j382 j383 j384
        go_cut [393] from 393 to 393 (fun s_393 wx => s_393 = .bool false ∧ Below w36.heap.size w36 wx)
        case first =>
          as_aux_lemma =>
          have QA : RI w36 w36.heap.size a_u WT := (f375.ri.more y375_)
          have QB : RI w36 w36.heap.size b_u WT := (o_b.ri.more y376_)
          go_wp2_with (go_at_call 14; refine (kSame_any _ _ WT _ _ QA QB hWl).mono ?_; rintro e wq ⟨rfl, hq1⟩)
          go_meet
          exact ⟨rfl, hq1⟩
        case rest =>
          obtain ⟨rfl, hb37⟩ := hcut
          have s37_ := hb37.size
          have t37 := t36.trans (hb37.mono t36.size)
          clear j377 j378 j379 j380 j381 j382 j383 j384
          have f385 := f371.step hb37
          clear f371
          have f386 := f372.step hb37
          clear f372
          have f387 := f373.step hb37
          clear f373
          have f388 := f374.step hb37
          clear f374
          have f389 := f375.step hb37
          have y389_ := Nat.le_trans y375_ s37_
          clear f375 y375_
          have f390 := o_b.step hb37
          have y390_ := Nat.le_trans y376_ s37_
          clear o_b y376_
          clear hb37 s37_ t36
          clear f385
          clear f386
          clear f387
          cases W1
          · go_wp2_with fail
            go_ret
            exact ⟨rfl, t37⟩
          obtain ⟨hk1, hk2⟩ := HWK.out rfl
          subst hk2
          have HKW : Hid (∀ u w, RI w w.heap.size u WT → Calls Try.prog 19 #[.agg #[.int .i64 er, .int .i64 ed], u] w (RetV w (.tuple #[.bool true, .bool true]))) := by
            intro u w q
            have h5 := implKeepsBucket_any u ⟨er, ed⟩ WT w q hWl
            rw [hk1] at h5
            exact h5
          clear hk1
          obtain ⟨Aa, ca, rfl, _, _⟩ := f389.ri
          have j391 := f388.cell 0
          have j392 := f388.cell 1
          simp at j391 j392
          go_wp2_with fail
          refine (HKW.out _ _ (f389.ri.more y389_)).mono ?_; rintro e w38 ⟨rfl, hb38⟩
          have s38_ := hb38.size
          have t38 := t37.trans (hb38.mono t37.size)
          clear j391 j392
          have f393 := f388.step hb38
          clear f388
          have f394 := f389.step hb38
          have y394_ := Nat.le_trans y389_ s38_
          clear f389 y389_
          have f395 := f390.step hb38
          have y395_ := Nat.le_trans y390_ s38_
          clear f390 y390_
          clear hb38 s38_ t37
          go_wp2_with fail
          go_ret
          exact ⟨rfl, t38⟩
end Go.Proofs.Ytlanpfcjcafapaa
