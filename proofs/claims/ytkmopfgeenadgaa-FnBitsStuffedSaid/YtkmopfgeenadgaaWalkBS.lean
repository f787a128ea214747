/-
  FnBitsStuffed: the walk.
-/
import Derived.Test.YtkmopfgeenadgaaDrawBS
import Derived.Test.YtkmopfgeenadgaaMathBS
import Derived.Deep.RegionWith
import Derived.Deep.DeepCutAuto
namespace Go.Proofs.Ytkmopfgeenadgaa
open Go.RowKit
set_option maxRecDepth 100000
set_option linter.unusedVariables false

set_option maxHeartbeats 8000000 in
theorem walkBS (c m : Value) (cn mn : Nat) (w : World) (hc : RB w w.heap.size c cn) (hm : RB w w.heap.size m mn) :
    Calls Try.prog 3 #[c, m] w (RetV w (.bool true)) := by
  rcases Nat.lt_or_ge 1048576 (cn + mn) with hbig | hbig
  · have hbg := big_all c m cn mn _ w hc hm
    rw [show (decide ((1048576 : Int) < cn) || decide ((1048576 : Int) - cn < mn)) = true from by simp; omega] at hbg
    go_enter Try.func3, Try.ntmps3
    go_wp2_with fail
    refine hbg.mono ?_; rintro e w1 ⟨rfl, hb⟩
    go_wp2_with fail
    go_ret
    exact ⟨rfl, hb⟩
  have hbg := Lib.hid (big_any c m cn mn _ w hc hm hbig)
  have hcn : cn ≤ 1048576 := by omega
  have hmn : mn ≤ 1048576 := by omega
  have t0 : Below w.heap.size w w := Below.refl _ _
  go_enter Try.func3, Try.ntmps3
  go_wp2_with fail
  refine (hbg.out).mono ?_; rintro e w1 ⟨rfl, hb1⟩
  have s1_ := hb1.size
  have t1 := t0.trans (hb1.mono t0.size)
  clear hb1 s1_ t0
  go_wp2_with fail
  refine (drawStuffBits_any c cn _ ((hc.below t1).more t1.size) hcn).mono ?_; rintro e w2 ⟨u_b, b, rfl, hl_b, o_b, hb2⟩
  have s2_ := hb2.size
  have t2 := t1.trans (hb2.mono t1.size)
  clear hb2 s2_ t1
  have y1_ := Nat.le_refl w2.heap.size
  have hn_b : b.length ≤ 1048576 := by omega
  obtain ⟨S, O, hS_S⟩ : ∃ S O, (S, O) = stuffBits b := ⟨_, _, rfl⟩
  have hSl_S : S.length ≤ 1048576 := by have := stuffBits_len b; rw [← hS_S] at this; exact this
  have Himpl_S : Hid (∀ u w, RI w w.heap.size u b → Calls Try.prog 6 #[u] w (RetLB 3 w S O)) := by
    show ∀ u w, RI w w.heap.size u b → Calls Try.prog 6 #[u] w (RetLB 3 w S O)
    intro u w q
    have h5 := implStuffBits_any u b w q hn_b
    rw [← hS_S] at h5
    exact h5
  have Hspec_S : Hid (∀ u w, RI w w.heap.size u b → Calls Try.prog 7 #[u] w (RetLB 3 w S O)) := by
    show ∀ u w, RI w w.heap.size u b → Calls Try.prog 7 #[u] w (RetLB 3 w S O)
    intro u w q
    have h5 := specStuffBits_any u b w q hn_b
    rw [← hS_S] at h5
    exact h5
  have HX_S := Lib.hid hS_S
  clear hS_S
  go_wp2_with fail
  refine (Himpl_S.out _ _ (o_b.more y1_)).mono ?_; rintro e w3 ⟨s_u, rfl, o_s, hb3⟩
  have s3_ := hb3.size
  have t3 := t2.trans (hb3.mono t2.size)
  have f2 := o_b.step hb3 y1_
  have y2_ := Nat.le_trans y1_ s3_
  clear o_b y1_
  clear hb3 s3_ t2
  have y3_ := Nat.le_refl w3.heap.size
  go_wp2_with fail
  refine (Hspec_S.out _ _ (f2.more y2_)).mono ?_; rintro e w4 ⟨sr_u, rfl, o_sr, hb4⟩
  have s4_ := hb4.size
  have t4 := t3.trans (hb4.mono t3.size)
  have f4 := f2.step hb4 y2_
  have y4_ := Nat.le_trans y2_ s4_
  clear f2 y2_
  have f5 := o_s.step hb4
  have y5_ := Nat.le_trans y3_ s4_
  clear o_s y3_
  clear hb4 s4_ t3
  have y6_ := Nat.le_refl w4.heap.size
  go_upto_region 6 with fail
  go_cut [59] (fun s_59 wx => s_59 = .bool false ∧ Below w4.heap.size w4 wx)
  case first =>
    have Qs : RI w4 w4.heap.size s_u S := (f5.ri.more y5_)
    have Qsr : RI w4 w4.heap.size sr_u S := (o_sr.ri.more y6_)
    cases O <;> as_aux_lemma => (go_wp2_with (go_at_call 8; refine (zSame_any _ _ S _ _ Qs Qsr hSl_S).mono ?_; rintro e wq ⟨rfl, hq1⟩; have sq1 := hq1.size); go_meet; exact ⟨by first | rfl | trivial, hq1⟩)
  case rest =>
    obtain ⟨rfl, hb5⟩ := hcut
    have s5_ := hb5.size
    have t5 := t4.trans (hb5.mono t4.size)
    have f7 := f4.step hb5 y4_
    have y7_ := Nat.le_trans y4_ s5_
    clear f4 y4_
    have f8 := f5.step hb5
    have y8_ := Nat.le_trans y5_ s5_
    clear f5 y5_
    have f9 := o_sr.step hb5
    have y9_ := Nat.le_trans y6_ s5_
    clear o_sr y6_
    clear hb5 s5_ t4
    clear f9
    go_upto_if 60 with fail
    go_cut [] (fun wx => Below wc.heap.size wc wx)
    case first =>
      as_aux_lemma =>
        have z5 : Below wc.heap.size wc wc := Below.refl _ _
        cases O
        · go_wp2_with fail
          go_meet
          exact z5
        have hO : (stuffBits b).2 = true := by rw [← HX_S.out]
        have eS : (stuffBits b).1 = S := by rw [← HX_S.out]
        have hsb := stuff_back hO
        rw [eS] at hsb
        obtain ⟨k1, k2, k3, k4, k5, k6, k7⟩ := hsb
        have HU : Hid (∀ u w, RI w w.heap.size u S → Calls Try.prog 9 #[u] w (RetLB 3 w b true)) := by
          intro u w q
          have h5 := implUnstuffBits_any u S w q hSl_S
          rw [k1] at h5
          exact h5
        obtain ⟨Z, hZ⟩ : ∃ Z, Z = sumZ b := ⟨_, rfl⟩
        have HZS : Hid (∀ u w, RI w w.heap.size u S → Calls Try.prog 10 #[u] w (fun e w' => e = .returned (.int .i64 Z) ∧ w = w')) := by
          intro u w q
          have h5 := zSum_any u S w q (by omega) k4
          rw [k2, ← hZ] at h5
          exact h5
        have HZB : Hid (∀ u w, RI w w.heap.size u b → Calls Try.prog 10 #[u] w (fun e w' => e = .returned (.int .i64 Z) ∧ w = w')) := by
          intro u w q
          have h5 := zSum_any u b w q (by omega) k6
          rw [← hZ] at h5
          exact h5
        have HK3 := Lib.hid k3
        have HK4 := Lib.hid k4
        clear hZ k1 k2 k3 k4 k6 hO eS
        go_wp2_with fail
        refine (HU.out _ _ (f8.ri.more y8_)).mono ?_; rintro e w6 ⟨k_u, rfl, o_k, hb6⟩
        have s6_ := hb6.size
        have t6 := t5.trans (hb6.mono t5.size)
        have f10 := f7.step hb6 y7_
        have y10_ := Nat.le_trans y7_ s6_
        clear f7 y7_
        have f11 := f8.step hb6
        have y11_ := Nat.le_trans y8_ s6_
        clear f8 y8_
        have z6 := z5.trans (hb6.mono z5.size)
        clear hb6 s6_ t5 z5
        have y12_ := Nat.le_refl w6.heap.size
        go_upto_region 10 with fail
        go_cut [80] (fun s_80 wx => s_80 = .bool false ∧ Below w6.heap.size w6 wx)
        case first =>
          as_aux_lemma =>
          have Qk : RI w6 w6.heap.size k_u b := (o_k.ri.more y12_)
          have Qb : RI w6 w6.heap.size u_b b := (f10.more y10_)
          have Qs : RI w6 w6.heap.size s_u S := (f11.ri.more y11_)
          go_wp2_with (first | (go_at_call 8; refine (zSame_any _ _ b _ _ Qk Qb hn_b).mono ?_; rintro e wq ⟨rfl, hq1⟩; have sq1 := hq1.size; have Qs2 := (Qs.step hq1 (Nat.le_refl _)).more sq1; have Qb2 := (Qb.step hq1 (Nat.le_refl _)).more sq1) | (go_at_call 10; (with_reducible refine (HZS.out _ _ Qs2).mono ?_); rintro e wz ⟨rfl, rfl⟩) | (go_at_call 10; (with_reducible refine (HZB.out _ _ Qb2).mono ?_); rintro e wz ⟨rfl, rfl⟩))
          go_meet
          exact ⟨by first | rfl | trivial | simp, hq1⟩
        case rest =>
          obtain ⟨rfl, hb7⟩ := hcut
          have s7_ := hb7.size
          have t7 := t6.trans (hb7.mono t6.size)
          have f13 := f10.step hb7 y10_
          have y13_ := Nat.le_trans y10_ s7_
          clear f10 y10_
          have f14 := f11.step hb7
          have y14_ := Nat.le_trans y11_ s7_
          clear f11 y11_
          have f15 := o_k.step hb7
          have y15_ := Nat.le_trans y12_ s7_
          clear o_k y12_
          have z7 := z6.trans (hb7.mono z6.size)
          clear hb7 s7_ t6 z6
          clear f15
          obtain ⟨As, cs, rfl, hlc, _⟩ := (f14.ri.more y14_)
          have hS4 : (S.length : Int) ≤ 400 := by omega
          have QS : RI wc wc.heap.size (.slice As S.length cs) S := (f14.ri.more y14_)
          go_wp2_with fail
          go_loopw [12, 83] (fun r i wr => ∃ j : Nat, j ≤ S.length ∧ i = .int .i64 j ∧ r = .int .i64 (rowN (S.take j)) ∧ Below wc.heap.size wc wr) (fun _ i _ => S.length - (intOf i).toNat)
          case atStart => exact ⟨0, Nat.zero_le _, rfl, by simp [rowN], Below.refl _ _⟩
          case round =>
            obtain ⟨j, hj, rfl, rfl, hB⟩ := hrel
            have HB := Lib.hid hB
            by_cases hlt : j < S.length
            · obtain ⟨A2, c2, hv2, _, hcell⟩ := (QS.step hB (Nat.le_refl _))
              injection hv2 with e1 e2 e3
              subst e1
              obtain ⟨b1, o1, rfl, hb1, q1⟩ := hcell (by omega)
              have d1 := q1 j hlt
              have e4 := rowN_take S j hlt
              have r1 := HK3.out j hj
              have r2 := HK3.out (j + 1) hlt
              have r3 : 0 ≤ S.getD j 0 ∧ S.getD j 0 ≤ 1 := okAll_iff.1 HK4.out _ (by simp [List.getD, hlt])
              rw [e4] at r2
              have E4 := Lib.hid e4
              clear e4 q1 hcell e2 e3 hB
              generalize S.getD j 0 = x at d1 r2 r3 E4
              generalize rowN (S.take j) = r at r1 r2 E4
              rcases (show x = 0 ∨ x = 1 by omega) with rfl | rfl
              · go_wp2_with fail
                go_roundw
                case rel => exact ⟨j + 1, by omega, by go_num, by rw [E4.out]; simp, HB.out⟩
                case measure => simp [intOf]; omega
              · have r4 : r + 1 ≤ 5 := by omega
                clear r2
                go_wp2_with fail
                go_roundw
                case rel => exact ⟨j + 1, by omega, by go_num, by rw [E4.out]; simp, HB.out⟩
                case measure => simp [intOf]; omega
            · obtain rfl : j = S.length := by omega
              clear hB
              go_wp2_with fail
              go_meet
              exact z7.trans (HB.out.mono z7.size)
    case rest =>
      have hb6 := hcut
      clear hcut
      have s6_ := hb6.size
      have t6 := t5.trans (hb6.mono t5.size)
      have f16 := f7.step hb6 y7_
      have y16_ := Nat.le_trans y7_ s6_
      clear f7 y7_
      have f17 := f8.step hb6
      have y17_ := Nat.le_trans y8_ s6_
      clear f8 y8_
      clear hb6 s6_ t5
      clear f16
      clear f17
      clear Himpl_S Hspec_S HX_S
      go_wp2_with fail
      refine (drawUnstuffBits_any m mn _ ((hm.below t6).more t6.size) hmn).mono ?_; rintro e w7 ⟨u_l, l, rfl, hl_l, o_l, hb7⟩
      have s7_ := hb7.size
      have t7 := t6.trans (hb7.mono t6.size)
      clear hb7 s7_ t6
      have y18_ := Nat.le_refl w7.heap.size
      have hn_l : l.length ≤ 1048576 := by omega
      obtain ⟨P, O2, hS_P⟩ : ∃ S O, (S, O) = unstuffBits l := ⟨_, _, rfl⟩
      have hSl_P : P.length ≤ 1048576 := by have := unstuffBits_len l; rw [← hS_P] at this; exact this
      have Himpl_P : Hid (∀ u w, RI w w.heap.size u l → Calls Try.prog 9 #[u] w (RetLB 3 w P O2)) := by
        show ∀ u w, RI w w.heap.size u l → Calls Try.prog 9 #[u] w (RetLB 3 w P O2)
        intro u w q
        have h5 := implUnstuffBits_any u l w q hn_l
        rw [← hS_P] at h5
        exact h5
      have Hspec_P : Hid (∀ u w, RI w w.heap.size u l → Calls Try.prog 12 #[u] w (RetLB 3 w P O2)) := by
        show ∀ u w, RI w w.heap.size u l → Calls Try.prog 12 #[u] w (RetLB 3 w P O2)
        intro u w q
        have h5 := specUnstuffBits_any u l w q hn_l
        rw [← hS_P] at h5
        exact h5
      have HX_P := Lib.hid hS_P
      clear hS_P
      go_wp2_with fail
      refine (Himpl_P.out _ _ (o_l.more y18_)).mono ?_; rintro e w8 ⟨p_u, rfl, o_p, hb8⟩
      have s8_ := hb8.size
      have t8 := t7.trans (hb8.mono t7.size)
      have f19 := o_l.step hb8 y18_
      have y19_ := Nat.le_trans y18_ s8_
      clear o_l y18_
      clear hb8 s8_ t7
      have y20_ := Nat.le_refl w8.heap.size
      go_wp2_with fail
      refine (Hspec_P.out _ _ (f19.more y19_)).mono ?_; rintro e w9 ⟨pr_u, rfl, o_pr, hb9⟩
      have s9_ := hb9.size
      have t9 := t8.trans (hb9.mono t8.size)
      have f21 := f19.step hb9 y19_
      have y21_ := Nat.le_trans y19_ s9_
      clear f19 y19_
      have f22 := o_p.step hb9
      have y22_ := Nat.le_trans y20_ s9_
      clear o_p y20_
      clear hb9 s9_ t8
      have y23_ := Nat.le_refl w9.heap.size
      go_upto_region 23 with fail
      go_cut [114] (fun s_114 wx => s_114 = .bool false ∧ Below w9.heap.size w9 wx)
      case first =>
        have Qp : RI w9 w9.heap.size p_u P := (f22.ri.more y22_)
        have Qpr : RI w9 w9.heap.size pr_u P := (o_pr.ri.more y23_)
        cases O2 <;> as_aux_lemma => (go_wp2_with (go_at_call 8; refine (zSame_any _ _ P _ _ Qp Qpr hSl_P).mono ?_; rintro e wq ⟨rfl, hq1⟩; have sq1 := hq1.size); go_meet; exact ⟨by first | rfl | trivial, hq1⟩)
      case rest =>
        obtain ⟨rfl, hb10⟩ := hcut
        have s10_ := hb10.size
        have t10 := t9.trans (hb10.mono t9.size)
        have f24 := f21.step hb10 y21_
        have y24_ := Nat.le_trans y21_ s10_
        clear f21 y21_
        have f25 := f22.step hb10
        have y25_ := Nat.le_trans y22_ s10_
        clear f22 y22_
        have f26 := o_pr.step hb10
        have y26_ := Nat.le_trans y23_ s10_
        clear o_pr y23_
        clear hb10 s10_ t9
        clear f26
        go_upto_if 115 with fail
        go_cut [] (fun wx => Below wc.heap.size wc wx)
        case first =>
          as_aux_lemma =>
            have z10 : Below wc.heap.size wc wc := Below.refl _ _
            cases O2
            · go_wp2_with fail
              go_meet
              exact z10
            have hub := unstuff_back (l := l) (by rw [← HX_P.out])
            rw [← HX_P.out] at hub
            have HU : Hid (∀ u w, RI w w.heap.size u P → Calls Try.prog 6 #[u] w (RetLB 3 w l true)) := by
              intro u w q
              have h5 := implStuffBits_any u P w q hSl_P
              rw [hub] at h5
              exact h5
            clear hub
            go_wp2_with fail
            refine (HU.out _ _ (f25.ri.more y25_)).mono ?_; rintro e w11 ⟨k_u, rfl, o_k, hb11⟩
            have s11_ := hb11.size
            have t11 := t10.trans (hb11.mono t10.size)
            have f27 := f24.step hb11 y24_
            have y27_ := Nat.le_trans y24_ s11_
            clear f24 y24_
            have f28 := f25.step hb11
            have y28_ := Nat.le_trans y25_ s11_
            clear f25 y25_
            have z11 := z10.trans (hb11.mono z10.size)
            clear hb11 s11_ t10 z10
            have y29_ := Nat.le_refl w11.heap.size
            have Qk : RI w11 w11.heap.size k_u l := (o_k.ri.more y29_)
            have Ql : RI w11 w11.heap.size u_l l := (f27.more y27_)
            go_wp2_with (go_at_call 8; refine (zSame_any _ _ l _ _ Qk Ql hn_l).mono ?_; rintro e wq ⟨rfl, hq1⟩; have sq1 := hq1.size)
            go_meet
            exact z11.trans (hq1.mono z11.size)
        case rest =>
          have hb11 := hcut
          clear hcut
          have s11_ := hb11.size
          have t11 := t10.trans (hb11.mono t10.size)
          have f30 := f24.step hb11 y24_
          have y30_ := Nat.le_trans y24_ s11_
          clear f24 y24_
          have f31 := f25.step hb11
          have y31_ := Nat.le_trans y25_ s11_
          clear f25 y25_
          clear hb11 s11_ t10
          clear f30
          clear f31
          clear Himpl_P Hspec_P HX_P
          go_wp2_with fail
          refine (drawBitsOf_any m mn _ ((hm.below t11).more t11.size) hmn).mono ?_; rintro e w12 ⟨u_y, y, rfl, hl_y, o_y, hb12⟩
          have s12_ := hb12.size
          have t12 := t11.trans (hb12.mono t11.size)
          clear hb12 s12_ t11
          have y32_ := Nat.le_refl w12.heap.size
          have hn_y : y.length ≤ 1048576 := by omega
          obtain ⟨A, O3, hS_A⟩ : ∃ S O, (S, O) = bitsOf y := ⟨_, _, rfl⟩
          have hSl_A : A.length ≤ 1048576 := by have := bitsOf_len y; rw [← hS_A] at this; exact this
          have Himpl_A : Hid (∀ u w, RI w w.heap.size u y → Calls Try.prog 14 #[u] w (RetLB 3 w A O3)) := by
            show ∀ u w, RI w w.heap.size u y → Calls Try.prog 14 #[u] w (RetLB 3 w A O3)
            intro u w q
            have h5 := implBitsOf_any u y w q hn_y
            rw [← hS_A] at h5
            exact h5
          have Hspec_A : Hid (∀ u w, RI w w.heap.size u y → Calls Try.prog 15 #[u] w (RetLB 3 w A O3)) := by
            show ∀ u w, RI w w.heap.size u y → Calls Try.prog 15 #[u] w (RetLB 3 w A O3)
            intro u w q
            have h5 := specBitsOf_any u y w q hn_y
            rw [← hS_A] at h5
            exact h5
          have HX_A := Lib.hid hS_A
          clear hS_A
          go_wp2_with fail
          refine (Himpl_A.out _ _ (o_y.more y32_)).mono ?_; rintro e w13 ⟨a_u, rfl, o_a, hb13⟩
          have s13_ := hb13.size
          have t13 := t12.trans (hb13.mono t12.size)
          have f33 := o_y.step hb13 y32_
          have y33_ := Nat.le_trans y32_ s13_
          clear o_y y32_
          clear hb13 s13_ t12
          have y34_ := Nat.le_refl w13.heap.size
          go_wp2_with fail
          refine (Hspec_A.out _ _ (f33.more y33_)).mono ?_; rintro e w14 ⟨ar_u, rfl, o_ar, hb14⟩
          have s14_ := hb14.size
          have t14 := t13.trans (hb14.mono t13.size)
          have f35 := f33.step hb14 y33_
          have y35_ := Nat.le_trans y33_ s14_
          clear f33 y33_
          have f36 := o_a.step hb14
          have y36_ := Nat.le_trans y34_ s14_
          clear o_a y34_
          clear hb14 s14_ t13
          have y37_ := Nat.le_refl w14.heap.size
          go_wp2_with fail
          refine (drawFromBits_any m mn _ ((hm.below t14).more t14.size) hmn).mono ?_; rintro e w15 ⟨u_x, x, rfl, hl_x, o_x, hb15⟩
          have s15_ := hb15.size
          have t15 := t14.trans (hb15.mono t14.size)
          have f38 := f35.step hb15 y35_
          have y38_ := Nat.le_trans y35_ s15_
          clear f35 y35_
          have f39 := f36.step hb15
          have y39_ := Nat.le_trans y36_ s15_
          clear f36 y36_
          have f40 := o_ar.step hb15
          have y40_ := Nat.le_trans y37_ s15_
          clear o_ar y37_
          clear hb15 s15_ t14
          have y41_ := Nat.le_refl w15.heap.size
          have hn_x : x.length ≤ 1048576 := by omega
          obtain ⟨M, O5, hS_M⟩ : ∃ S O, (S, O) = fromBits x := ⟨_, _, rfl⟩
          have hSl_M : M.length ≤ 1048576 := by have := fromBits_len x; rw [← hS_M] at this; exact this
          have Himpl_M : Hid (∀ u w, RI w w.heap.size u x → Calls Try.prog 17 #[u] w (RetLB 3 w M O5)) := by
            show ∀ u w, RI w w.heap.size u x → Calls Try.prog 17 #[u] w (RetLB 3 w M O5)
            intro u w q
            have h5 := implFromBits_any u x w q hn_x
            rw [← hS_M] at h5
            exact h5
          have Hspec_M : Hid (∀ u w, RI w w.heap.size u x → Calls Try.prog 18 #[u] w (RetLB 3 w M O5)) := by
            show ∀ u w, RI w w.heap.size u x → Calls Try.prog 18 #[u] w (RetLB 3 w M O5)
            intro u w q
            have h5 := specFromBits_any u x w q hn_x
            rw [← hS_M] at h5
            exact h5
          have HX_M := Lib.hid hS_M
          clear hS_M
          go_wp2_with fail
          refine (Himpl_M.out _ _ (o_x.more y41_)).mono ?_; rintro e w16 ⟨m2_u, rfl, o_m2, hb16⟩
          have s16_ := hb16.size
          have t16 := t15.trans (hb16.mono t15.size)
          have f42 := f38.step hb16 y38_
          have y42_ := Nat.le_trans y38_ s16_
          clear f38 y38_
          have f43 := f39.step hb16
          have y43_ := Nat.le_trans y39_ s16_
          clear f39 y39_
          have f44 := f40.step hb16
          have y44_ := Nat.le_trans y40_ s16_
          clear f40 y40_
          have f45 := o_x.step hb16 y41_
          have y45_ := Nat.le_trans y41_ s16_
          clear o_x y41_
          clear hb16 s16_ t15
          have y46_ := Nat.le_refl w16.heap.size
          go_wp2_with fail
          refine (Hspec_M.out _ _ (f45.more y45_)).mono ?_; rintro e w17 ⟨m2r_u, rfl, o_m2r, hb17⟩
          have s17_ := hb17.size
          have t17 := t16.trans (hb17.mono t16.size)
          have f47 := f42.step hb17 y42_
          have y47_ := Nat.le_trans y42_ s17_
          clear f42 y42_
          have f48 := f43.step hb17
          have y48_ := Nat.le_trans y43_ s17_
          clear f43 y43_
          have f49 := f44.step hb17
          have y49_ := Nat.le_trans y44_ s17_
          clear f44 y44_
          have f50 := f45.step hb17 y45_
          have y50_ := Nat.le_trans y45_ s17_
          clear f45 y45_
          have f51 := o_m2.step hb17
          have y51_ := Nat.le_trans y46_ s17_
          clear o_m2 y46_
          clear hb17 s17_ t16
          have y52_ := Nat.le_refl w17.heap.size
          go_upto_region 35 with fail
          go_cut [172] (fun s_172 wx => s_172 = .bool false ∧ Below w17.heap.size w17 wx)
          case first =>
            have Qa : RI w17 w17.heap.size a_u A := (f48.ri.more y48_)
            have Qar : RI w17 w17.heap.size ar_u A := (f49.ri.more y49_)
            have Qm2 : RI w17 w17.heap.size m2_u M := (f51.ri.more y51_)
            have Qm2r : RI w17 w17.heap.size m2r_u M := (o_m2r.ri.more y52_)
            cases O3 <;> cases O5 <;> as_aux_lemma => (go_wp2_with (first | (go_at_call 8; (with_reducible refine (zSame_any _ _ A _ _ Qa Qar hSl_A).mono ?_); rintro e wq ⟨rfl, hq1⟩; have sq1 := hq1.size; have Qm3 := (Qm2.step hq1 (Nat.le_refl _)).more sq1; have Qm4 := (Qm2r.step hq1 (Nat.le_refl _)).more sq1) | (go_at_call 8; (with_reducible refine (zSame_any _ _ M _ _ Qm3 Qm4 hSl_M).mono ?_); rintro e wz ⟨rfl, hq2⟩)); go_meet; exact ⟨by first | rfl | trivial, hq1.trans (hq2.mono sq1)⟩)
          case rest =>
            obtain ⟨rfl, hb18⟩ := hcut
            have s18_ := hb18.size
            have t18 := t17.trans (hb18.mono t17.size)
            have f53 := f47.step hb18 y47_
            have y53_ := Nat.le_trans y47_ s18_
            clear f47 y47_
            have f54 := f48.step hb18
            have y54_ := Nat.le_trans y48_ s18_
            clear f48 y48_
            have f55 := f49.step hb18
            have y55_ := Nat.le_trans y49_ s18_
            clear f49 y49_
            have f56 := f50.step hb18 y50_
            have y56_ := Nat.le_trans y50_ s18_
            clear f50 y50_
            have f57 := f51.step hb18
            have y57_ := Nat.le_trans y51_ s18_
            clear f51 y51_
            have f58 := o_m2r.step hb18
            have y58_ := Nat.le_trans y52_ s18_
            clear o_m2r y52_
            clear hb18 s18_ t17
            clear f55
            clear f58
            go_upto_if 173 with fail
            go_cut [] (fun wx => Below wc.heap.size wc wx)
            case first =>
              as_aux_lemma =>
                have z18 : Below wc.heap.size wc wc := Below.refl _ _
                cases O3
                · go_wp2_with fail
                  go_meet
                  exact z18
                have hbb := bits_back (l := y) (by rw [← HX_A.out])
                rw [← HX_A.out] at hbb
                obtain ⟨k1, k2, k3⟩ := hbb
                have HU : Hid (∀ u w, RI w w.heap.size u A → Calls Try.prog 17 #[u] w (RetLB 3 w y true)) := by
                  intro u w q
                  have h5 := implFromBits_any u A w q hSl_A
                  rw [k1] at h5
                  exact h5
                have k4 : (A.length : Int) ≤ 8 * (y.length : Int) := by simp only at k2; omega
                have k5 : 8 * (y.length : Int) ≤ (A.length : Int) := by simp only at k2; omega
                have k6 : (y.length : Int) ≤ 40 := by omega
                clear k1 k2
                go_wp2_with fail
                refine (HU.out _ _ (f54.ri.more y54_)).mono ?_; rintro e w19 ⟨k_u, rfl, o_k, hb19⟩
                have s19_ := hb19.size
                have t19 := t18.trans (hb19.mono t18.size)
                have f59 := f53.step hb19 y53_
                have y59_ := Nat.le_trans y53_ s19_
                clear f53 y53_
                have f60 := f54.step hb19
                have y60_ := Nat.le_trans y54_ s19_
                clear f54 y54_
                have f61 := f56.step hb19 y56_
                have y61_ := Nat.le_trans y56_ s19_
                clear f56 y56_
                have f62 := f57.step hb19
                have y62_ := Nat.le_trans y57_ s19_
                clear f57 y57_
                have z19 := z18.trans (hb19.mono z18.size)
                clear hb19 s19_ t18 z18
                have y63_ := Nat.le_refl w19.heap.size
                have Qk : RI w19 w19.heap.size k_u y := (o_k.ri.more y63_)
                have Qy : RI w19 w19.heap.size u_y y := (f59.more y59_)
                obtain ⟨Aa, ca, rfl, _, _⟩ := (f60.ri.more y60_)
                obtain ⟨Ay, cy, rfl, _, _⟩ := id Qy
                go_upto_region 39 with fail
                go_cut [194] (fun s_194 wx => s_194 = .bool false ∧ Below w19.heap.size w19 wx)
                case first =>
                  as_aux_lemma =>
                  go_wp2_with (go_at_call 8; refine (zSame_any _ _ y _ _ Qk Qy hn_y).mono ?_; rintro e wq ⟨rfl, hq1⟩; have sq1 := hq1.size)
                  go_meet
                  exact ⟨by first | rfl | trivial | (simp; omega), hq1⟩
                case rest =>
                  obtain ⟨rfl, hb20⟩ := hcut
                  have s20_ := hb20.size
                  have t20 := t19.trans (hb20.mono t19.size)
                  have f64 := f59.step hb20 y59_
                  have y64_ := Nat.le_trans y59_ s20_
                  clear f59 y59_
                  have f65 := f60.step hb20
                  have y65_ := Nat.le_trans y60_ s20_
                  clear f60 y60_
                  have f66 := f61.step hb20 y61_
                  have y66_ := Nat.le_trans y61_ s20_
                  clear f61 y61_
                  have f67 := f62.step hb20
                  have y67_ := Nat.le_trans y62_ s20_
                  clear f62 y62_
                  have f68 := o_k.step hb20
                  have y68_ := Nat.le_trans y63_ s20_
                  clear o_k y63_
                  have z20 := z19.trans (hb20.mono z19.size)
                  clear hb20 s20_ t19 z19
                  go_wp2_with fail
                  go_meet
                  exact z20
            case rest =>
              have hb19 := hcut
              clear hcut
              have s19_ := hb19.size
              have t19 := t18.trans (hb19.mono t18.size)
              have f69 := f53.step hb19 y53_
              have y69_ := Nat.le_trans y53_ s19_
              clear f53 y53_
              have f70 := f54.step hb19
              have y70_ := Nat.le_trans y54_ s19_
              clear f54 y54_
              have f71 := f56.step hb19 y56_
              have y71_ := Nat.le_trans y56_ s19_
              clear f56 y56_
              have f72 := f57.step hb19
              have y72_ := Nat.le_trans y57_ s19_
              clear f57 y57_
              clear hb19 s19_ t18
              cases O5
              · go_wp2_with fail
                go_ret
                exact ⟨rfl, t19⟩
              have hfb := from_back (l := x) (by rw [← HX_M.out])
              rw [← HX_M.out] at hfb
              have HU : Hid (∀ u w, RI w w.heap.size u M → Calls Try.prog 14 #[u] w (RetLB 3 w x true)) := by
                intro u w q
                have h5 := implBitsOf_any u M w q hSl_M
                rw [hfb] at h5
                exact h5
              clear hfb
              go_wp2_with fail
              refine (HU.out _ _ (f72.ri.more y72_)).mono ?_; rintro e w20 ⟨k_u, rfl, o_k, hb20⟩
              have s20_ := hb20.size
              have t20 := t19.trans (hb20.mono t19.size)
              have f73 := f69.step hb20 y69_
              have y73_ := Nat.le_trans y69_ s20_
              clear f69 y69_
              have f74 := f70.step hb20
              have y74_ := Nat.le_trans y70_ s20_
              clear f70 y70_
              have f75 := f71.step hb20 y71_
              have y75_ := Nat.le_trans y71_ s20_
              clear f71 y71_
              have f76 := f72.step hb20
              have y76_ := Nat.le_trans y72_ s20_
              clear f72 y72_
              clear hb20 s20_ t19
              have y77_ := Nat.le_refl w20.heap.size
              have Qk : RI w20 w20.heap.size k_u x := (o_k.ri.more y77_)
              have Qx : RI w20 w20.heap.size u_x x := (f75.more y75_)
              go_wp2_with (go_at_call 8; refine (zSame_any _ _ x _ _ Qk Qx hn_x).mono ?_; rintro e wq ⟨rfl, hq1⟩; have sq1 := hq1.size)
              go_ret
              exact ⟨rfl, t20.trans (hq1.mono t20.size)⟩
end Go.Proofs.Ytkmopfgeenadgaa
