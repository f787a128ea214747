/-
  FnTrafficAdded: the walk.
-/
import Derived.Test.YtfncajdhdcpooaaDoorMathTa
import Derived.Test.YtfncajdhdcpooaaDoorCurU
import Derived.Test.YtfncajdhdcpooaaDoorShC
import Derived.Test.YtfncajdhdcpooaaDoorShE
import Derived.Test.YtfncajdhdcpooaaDoorShF
import Derived.Test.YtfncajdhdcpooaaDoorShK
import Derived.Test.YtfncajdhdcpooaaDoorTxC
import Derived.Lib.LaidTab
import Derived.Deep.RegionWith
import Derived.Deep.DeepCutAuto
import Derived.Deep.CutRange
namespace Go.Proofs.YtfncajdhdcpooaaDoor
open Go.RowKit
set_option maxRecDepth 100000
set_option linter.unusedVariables false

set_option maxHeartbeats 8000000 in
theorem walkTA (c m : Value) (cn mn : Nat) (w : World) (hG : Lib.TabIs Tryd.prog w "internal/strconv.uint64pow10" .u64 Lib.pow10Tab) (hc : RB w w.heap.size c cn) (hm : RB w w.heap.size m mn) :
    Calls Tryd.prog 3 #[c, m] w (RetV w (.bool true)) := by
  have HG := Lib.hid (Lib.tabBelow_of_tabIs hG)
  clear hG
  rcases Nat.lt_or_ge 1048576 (cn + mn) with hbig | hbig
  · have hbg := big_all c m cn mn _ w hc hm
    rw [show (decide ((1048576 : Int) < cn) || decide ((1048576 : Int) - cn < mn)) = true from by simp; omega] at hbg
    go_enter Tryd.func3, Tryd.ntmps3
    go_wp2_with fail
    refine hbg.mono ?_; rintro e w1 ⟨rfl, hb⟩
    go_wp2_with fail
    go_ret
    exact ⟨rfl, hb⟩
  have hbg := Lib.hid (big_any c m cn mn _ w hc hm hbig)
  have hcn : cn ≤ 1048576 := by omega
  have hmn : mn ≤ 1048576 := by omega
  have t0 : Below w.heap.size w w := Below.refl _ _
  go_enter Tryd.func3, Tryd.ntmps3
  go_wp2_with fail
  refine (hbg.out).mono ?_; rintro e w1 ⟨rfl, hb1⟩
  have s1_ := hb1.size
  have t1 := t0.trans (hb1.mono t0.size)
  clear hb1 s1_ t0
  go_wp2_with fail
  refine (drawAddTraffic_any c cn _ ((hc.below t1).more t1.size) hcn).mono ?_; rintro e w2 ⟨u_a, u_b, a, b, rfl, hal, hbl, o_a, o_b, hb2⟩
  have s2_ := hb2.size
  have t2 := t1.trans (hb2.mono t1.size)
  clear hb2 s2_ t1
  have y1_ := Nat.le_refl w2.heap.size
  have y2_ := Nat.le_refl w2.heap.size
  have hna : a.length ≤ 1048576 := by omega
  have hnb : b.length ≤ 1048576 := by omega
  obtain ⟨S, O, hS⟩ : ∃ S O, (S, O) = addSays a b := ⟨_, _, rfl⟩
  have hSl : S.length ≤ 1048576 := by have := addSays_len a b; rw [← hS] at this; exact this
  have hF : O = true → trOk a = true ∧ trOk b = true ∧ trOk S = true ∧ sumL S = sumL a + sumL b := fun h => by
    obtain ⟨p1, p2, p3, p4, p5⟩ := add_true (a := a) (b := b) (by rw [← hS]; exact h)
    rw [← hS] at p4
    simp only at p4
    rw [p4]
    exact ⟨p1, p2, p3, p5⟩
  have HAimpl : Hid (∀ u v w, RI w w.heap.size u a → RI w w.heap.size v b → Calls Tryd.prog 6 #[u, v] w (RetLB 3 w S O)) := by
    show ∀ u v w, RI w w.heap.size u a → RI w w.heap.size v b → Calls Tryd.prog 6 #[u, v] w (RetLB 3 w S O)
    intro u v w q q'
    have h5 := implAddTraffic_any u v a b w q q' hna hnb
    rw [← hS] at h5
    exact h5
  have HAspec : Hid (∀ u v w, RI w w.heap.size u a → RI w w.heap.size v b → Calls Tryd.prog 7 #[u, v] w (RetLB 3 w S O)) := by
    show ∀ u v w, RI w w.heap.size u a → RI w w.heap.size v b → Calls Tryd.prog 7 #[u, v] w (RetLB 3 w S O)
    intro u v w q q'
    have h5 := specAddTraffic_any u v a b w q q' hna hnb
    rw [← hS] at h5
    exact h5
  have XS := Lib.hid hS
  have HF := Lib.hid hF
  clear hS hF
  go_wp2_with fail
  refine (HAimpl.out _ _ _ (o_a.ri.more y1_) (o_b.ri.more y2_)).mono ?_; rintro e w3 ⟨s_u, rfl, o_s, hb3⟩
  have s3_ := hb3.size
  have t3 := t2.trans (hb3.mono t2.size)
  have f3 := o_a.step hb3
  have y3_ := Nat.le_trans y1_ s3_
  clear o_a y1_
  have f4 := o_b.step hb3
  have y4_ := Nat.le_trans y2_ s3_
  clear o_b y2_
  clear hb3 s3_ t2
  have y5_ := Nat.le_refl w3.heap.size
  go_wp2_with fail
  refine (HAspec.out _ _ _ (f3.ri.more y3_) (f4.ri.more y4_)).mono ?_; rintro e w4 ⟨r_u, rfl, o_r, hb4⟩
  have s4_ := hb4.size
  have t4 := t3.trans (hb4.mono t3.size)
  have f6 := f3.step hb4
  have y6_ := Nat.le_trans y3_ s4_
  clear f3 y3_
  have f7 := f4.step hb4
  have y7_ := Nat.le_trans y4_ s4_
  clear f4 y4_
  have f8 := o_s.step hb4
  have y8_ := Nat.le_trans y5_ s4_
  clear o_s y5_
  clear hb4 s4_ t3
  have y9_ := Nat.le_refl w4.heap.size
  clear HAimpl HAspec
  go_upto_region 6 with fail
  go_cut [76] from 76 to 76 (fun s_76 wx => s_76 = .bool false ∧ Below w4.heap.size w4 wx)
  case first =>
    have QS : RI w4 w4.heap.size s_u S := (f8.ri.more y8_)
    have QR : RI w4 w4.heap.size r_u S := (o_r.ri.more y9_)
    have QA : RI w4 w4.heap.size u_a a := (f6.ri.more y6_)
    have QB : RI w4 w4.heap.size u_b b := (f7.ri.more y7_)
    cases O
    · as_aux_lemma =>
      go_wp2_with (go_at_call 8; refine (kSame_any _ _ S _ _ QS QR hSl).mono ?_; rintro e wq ⟨rfl, hq1⟩)
      go_meet
      exact ⟨by first | rfl | trivial | simp, hq1⟩
    · obtain ⟨g1, g2, g3, g4⟩ := HF.out rfl
      have gS : S.length ≤ 40 := trOk_len g3
      have g5 := win_sum g1 0 a.length
      have g6 := win_sum g2 0 b.length
      rw [List.drop_zero, List.take_length] at g5 g6
      have HKS := Lib.hid fun u w q => kSum_any u S w q (by omega) (fun y hy => by have := trOk_mem g3 y hy; omega)
      have HKA := Lib.hid fun u w q => kSum_any u a w q (by omega) (fun y hy => by have := trOk_mem g1 y hy; omega)
      have HKB := Lib.hid fun u w q => kSum_any u b w q (by omega) (fun y hy => by have := trOk_mem g2 y hy; omega)
      rw [g4] at HKS
      generalize sumL a = za at HKS HKA g5
      generalize sumL b = zb at HKS HKB g6
      clear g1 g2 g3 g4
      as_aux_lemma =>
      go_wp2_with (first | (go_at_call 8; refine (kSame_any _ _ S _ _ QS QR hSl).mono ?_; rintro e wq ⟨rfl, hq1⟩; have sq1 := hq1.size; have QS2 := (QS.step hq1 (Nat.le_refl _)).more sq1; have QA2 := (QA.step hq1 (Nat.le_refl _)).more sq1; have QB2 := (QB.step hq1 (Nat.le_refl _)).more sq1) | (go_at_call 9; (with_reducible refine (HKS.out _ _ QS2).mono ?_); rintro e wz ⟨rfl, rfl⟩) | (go_at_call 9; (with_reducible refine (HKA.out _ _ QA2).mono ?_); rintro e wz ⟨rfl, rfl⟩) | (go_at_call 9; (with_reducible refine (HKB.out _ _ QB2).mono ?_); rintro e wz ⟨rfl, rfl⟩))
      go_meet
      exact ⟨by first | rfl | trivial | simp, hq1⟩
  case rest =>
    obtain ⟨rfl, hb5⟩ := hcut
    have s5_ := hb5.size
    have t5 := t4.trans (hb5.mono t4.size)
    have f10 := f6.step hb5
    have y10_ := Nat.le_trans y6_ s5_
    clear f6 y6_
    have f11 := f7.step hb5
    have y11_ := Nat.le_trans y7_ s5_
    clear f7 y7_
    have f12 := f8.step hb5
    have y12_ := Nat.le_trans y8_ s5_
    clear f8 y8_
    have f13 := o_r.step hb5
    have y13_ := Nat.le_trans y9_ s5_
    clear o_r y9_
    clear hb5 s5_ t4
    clear f13
    go_wp2_with fail
    refine (drawJoinBuckets_any m mn _ ((hm.below t5).more t5.size) hmn).mono ?_; rintro e w6 ⟨x0, x1, rfl, hb6⟩
    obtain ⟨xr, xd⟩ := x0
    obtain ⟨yr, yd⟩ := x1
    simp only [BuV]
    have s6_ := hb6.size
    have t6 := t5.trans (hb6.mono t5.size)
    have f14 := f10.step hb6
    have y14_ := Nat.le_trans y10_ s6_
    clear f10 y10_
    have f15 := f11.step hb6
    have y15_ := Nat.le_trans y11_ s6_
    clear f11 y11_
    have f16 := f12.step hb6
    have y16_ := Nat.le_trans y12_ s6_
    clear f12 y12_
    clear hb6 s6_ t5
    have hb7 : Below w6.heap.size w6 (w6.alloc (.cells #[.int .i64 xr, .int .i64 xd] 32)) := (Below.refl _ _).alloc (Nat.le_refl _) _
    have x_x := BK.made w6 32 #[.int .i64 xr, .int .i64 xd]
    have s7_ := hb7.size
    have t7 := t6.trans (hb7.mono t6.size)
    have f17 := f14.step hb7
    have y17_ := Nat.le_trans y14_ s7_
    clear f14 y14_
    have f18 := f15.step hb7
    have y18_ := Nat.le_trans y15_ s7_
    clear f15 y15_
    have f19 := f16.step hb7
    have y19_ := Nat.le_trans y16_ s7_
    clear f16 y16_
    clear hb7 s7_ t6
    have hb8 : Below (w6.alloc (.cells #[.int .i64 xr, .int .i64 xd] 32)).heap.size (w6.alloc (.cells #[.int .i64 xr, .int .i64 xd] 32)) ((w6.alloc (.cells #[.int .i64 xr, .int .i64 xd] 32)).alloc (.cells #[.int .i64 yr, .int .i64 yd] 32)) := (Below.refl _ _).alloc (Nat.le_refl _) _
    have x_y := BK.made (w6.alloc (.cells #[.int .i64 xr, .int .i64 xd] 32)) 32 #[.int .i64 yr, .int .i64 yd]
    have s8_ := hb8.size
    have t8 := t7.trans (hb8.mono t7.size)
    have f20 := f17.step hb8
    have y20_ := Nat.le_trans y17_ s8_
    clear f17 y17_
    have f21 := f18.step hb8
    have y21_ := Nat.le_trans y18_ s8_
    clear f18 y18_
    have f22 := f19.step hb8
    have y22_ := Nat.le_trans y19_ s8_
    clear f19 y19_
    have f23 := x_x.step hb8
    clear x_x
    clear hb8 s8_ t7
    obtain ⟨⟨jr, jd⟩, J, hJ⟩ : ∃ S O, (S, O) = joinSays ⟨xr, xd⟩ ⟨yr, yd⟩ := ⟨_, _, rfl⟩
    have HJimpl : Hid (∀ w, Calls Tryd.prog 11 #[.agg #[.int .i64 xr, .int .i64 xd], .agg #[.int .i64 yr, .int .i64 yd]] w (RetV w (.tuple #[.agg #[.int .i64 jr, .int .i64 jd], .bool J]))) := by
      show ∀ w, Calls Tryd.prog 11 #[.agg #[.int .i64 xr, .int .i64 xd], .agg #[.int .i64 yr, .int .i64 yd]] w (RetV w (.tuple #[.agg #[.int .i64 jr, .int .i64 jd], .bool J]))
      intro w
      have h5 := implJoinBuckets_any ⟨xr, xd⟩ ⟨yr, yd⟩ w
      rw [← hJ] at h5
      exact h5
    have HJspec : Hid (∀ w, Calls Tryd.prog 12 #[.agg #[.int .i64 xr, .int .i64 xd], .agg #[.int .i64 yr, .int .i64 yd]] w (RetV w (.tuple #[.agg #[.int .i64 jr, .int .i64 jd], .bool J]))) := by
      show ∀ w, Calls Tryd.prog 12 #[.agg #[.int .i64 xr, .int .i64 xd], .agg #[.int .i64 yr, .int .i64 yd]] w (RetV w (.tuple #[.agg #[.int .i64 jr, .int .i64 jd], .bool J]))
      intro w
      have h5 := specJoinBuckets_any ⟨xr, xd⟩ ⟨yr, yd⟩ w
      rw [← hJ] at h5
      exact h5
    have XJ := Lib.hid hJ
    clear hJ
    have j24 := f23.cell 0
    have j25 := f23.cell 1
    have j26 := x_y.cell 0
    have j27 := x_y.cell 1
    simp at j24 j25 j26 j27
    go_wp2_with fail
    refine (HJimpl.out _).mono ?_; rintro e w9 ⟨rfl, hb9⟩
    have s9_ := hb9.size
    have t9 := t8.trans (hb9.mono t8.size)
    clear j24 j25 j26 j27
    have f28 := f20.step hb9
    have y28_ := Nat.le_trans y20_ s9_
    clear f20 y20_
    have f29 := f21.step hb9
    have y29_ := Nat.le_trans y21_ s9_
    clear f21 y21_
    have f30 := f22.step hb9
    have y30_ := Nat.le_trans y22_ s9_
    clear f22 y22_
    have f31 := f23.step hb9
    clear f23
    have f32 := x_y.step hb9
    clear x_y
    clear hb9 s9_ t8
    have hb10 : Below w9.heap.size w9 (w9.alloc (.cells #[.int .i64 jr, .int .i64 jd] 32)) := (Below.refl _ _).alloc (Nat.le_refl _) _
    have x_j := BK.made w9 32 #[.int .i64 jr, .int .i64 jd]
    have s10_ := hb10.size
    have t10 := t9.trans (hb10.mono t9.size)
    have f33 := f28.step hb10
    have y33_ := Nat.le_trans y28_ s10_
    clear f28 y28_
    have f34 := f29.step hb10
    have y34_ := Nat.le_trans y29_ s10_
    clear f29 y29_
    have f35 := f30.step hb10
    have y35_ := Nat.le_trans y30_ s10_
    clear f30 y30_
    have f36 := f31.step hb10
    clear f31
    have f37 := f32.step hb10
    clear f32
    clear hb10 s10_ t9
    have j38 := f36.cell 0
    have j39 := f36.cell 1
    have j40 := f37.cell 0
    have j41 := f37.cell 1
    have j42 := x_j.cell 0
    have j43 := x_j.cell 1
    simp at j38 j39 j40 j41 j42 j43
    go_wp2_with fail
    refine (HJspec.out _).mono ?_; rintro e w11 ⟨rfl, hb11⟩
    have s11_ := hb11.size
    have t11 := t10.trans (hb11.mono t10.size)
    clear j38 j39 j40 j41 j42 j43
    have f44 := f33.step hb11
    have y44_ := Nat.le_trans y33_ s11_
    clear f33 y33_
    have f45 := f34.step hb11
    have y45_ := Nat.le_trans y34_ s11_
    clear f34 y34_
    have f46 := f35.step hb11
    have y46_ := Nat.le_trans y35_ s11_
    clear f35 y35_
    have f47 := f36.step hb11
    clear f36
    have f48 := f37.step hb11
    clear f37
    have f49 := x_j.step hb11
    clear x_j
    clear hb11 s11_ t10
    have hb12 : Below w11.heap.size w11 (w11.alloc (.cells #[.int .i64 jr, .int .i64 jd] 32)) := (Below.refl _ _).alloc (Nat.le_refl _) _
    have x_k := BK.made w11 32 #[.int .i64 jr, .int .i64 jd]
    have s12_ := hb12.size
    have t12 := t11.trans (hb12.mono t11.size)
    have f50 := f44.step hb12
    have y50_ := Nat.le_trans y44_ s12_
    clear f44 y44_
    have f51 := f45.step hb12
    have y51_ := Nat.le_trans y45_ s12_
    clear f45 y45_
    have f52 := f46.step hb12
    have y52_ := Nat.le_trans y46_ s12_
    clear f46 y46_
    have f53 := f47.step hb12
    clear f47
    have f54 := f48.step hb12
    clear f48
    have f55 := f49.step hb12
    clear f49
    clear hb12 s12_ t11
    clear HJimpl HJspec
    have j56 := f53.cell 0
    have j57 := f53.cell 1
    have j58 := f54.cell 0
    have j59 := f54.cell 1
    have j60 := f55.cell 0
    have j61 := f55.cell 1
    have j62 := x_k.cell 0
    have j63 := x_k.cell 1
    simp at j56 j57 j58 j59 j60 j61 j62 j63
    go_upto_region 11 with fail
    go_cut [101] from 101 to 101 (fun s_101 wx => s_101 = .bool false ∧ Below (w11.alloc (.cells #[.int .i64 jr, .int .i64 jd] 32)).heap.size (w11.alloc (.cells #[.int .i64 jr, .int .i64 jd] 32)) wx)
    case first =>
      as_aux_lemma =>
      go_wp2_with fail
      go_meet
      exact ⟨by first | rfl | trivial | simp, Below.refl _ _⟩
    case rest =>
      obtain ⟨rfl, hb13⟩ := hcut
      have s13_ := hb13.size
      have t13 := t12.trans (hb13.mono t12.size)
      clear j56 j57 j58 j59 j60 j61 j62 j63
      have f64 := f50.step hb13
      have y64_ := Nat.le_trans y50_ s13_
      clear f50 y50_
      have f65 := f51.step hb13
      have y65_ := Nat.le_trans y51_ s13_
      clear f51 y51_
      have f66 := f52.step hb13
      have y66_ := Nat.le_trans y52_ s13_
      clear f52 y52_
      have f67 := f53.step hb13
      clear f53
      have f68 := f54.step hb13
      clear f54
      have f69 := f55.step hb13
      clear f55
      have f70 := x_k.step hb13
      clear x_k
      clear hb13 s13_ t12
      clear f70
      go_upto_region 13 with fail
      go_cut [105] from 105 to 105 (fun s_105 wx => s_105 = .bool (O && J) ∧ Below wc.heap.size wc wx)
      case first =>
        cases O
        · as_aux_lemma =>
          go_wp2_with fail
          go_meet
          exact ⟨rfl, Below.refl _ _⟩
        · as_aux_lemma =>
          go_wp2_with fail
          go_meet
          exact ⟨by simp, Below.refl _ _⟩
      case rest =>
        obtain ⟨rfl, hb14⟩ := hcut
        have s14_ := hb14.size
        have t14 := t13.trans (hb14.mono t13.size)
        have f71 := f64.step hb14
        have y71_ := Nat.le_trans y64_ s14_
        clear f64 y64_
        have f72 := f65.step hb14
        have y72_ := Nat.le_trans y65_ s14_
        clear f65 y65_
        have f73 := f66.step hb14
        have y73_ := Nat.le_trans y66_ s14_
        clear f66 y66_
        have f74 := f67.step hb14
        clear f67
        have f75 := f68.step hb14
        clear f68
        have f76 := f69.step hb14
        clear f69
        clear hb14 s14_ t13
        obtain ⟨Y, hY⟩ : ∃ q, (O && J) = q := ⟨_, rfl⟩
        rw [hY]
        go_upto_if 105 with fail
        go_cut [] from 107 to 107 (fun wx => Below wc.heap.size wc wx)
        case first =>
          have z14 : Below wc.heap.size wc wc := Below.refl _ _
          cases Y
          · go_wp2_with fail
            go_meet
            exact z14
          have hY' : O = true ∧ J = true := by simpa using hY
          obtain ⟨rfl, rfl⟩ := hY'
          clear hY
          have hb := both_add (a := a) (b := b) (x := ⟨xr, xd⟩) (y := ⟨yr, yd⟩) (by rw [← XS.out]) (by rw [← XJ.out])
          rw [← XS.out, ← XJ.out] at hb
          obtain ⟨k1, k2, k3, k4⟩ := hb
          simp only at k3 k4
          obtain ⟨P, hP⟩ : ∃ p, p = (kpSays ⟨xr, xd⟩ a).1 := ⟨_, rfl⟩
          obtain ⟨Q, hQ⟩ : ∃ p, p = (kpSays ⟨yr, yd⟩ b).1 := ⟨_, rfl⟩
          obtain ⟨R, hR⟩ : ∃ p, p = (kpSays ⟨jr, jd⟩ S).1 := ⟨_, rfl⟩
          rw [← hP, ← hQ, ← hR] at k4
          have HP : Hid (∀ u w, RI w w.heap.size u a → Calls Tryd.prog 13 #[.agg #[.int .i64 xr, .int .i64 xd], u] w (RetV w (.tuple #[.bool P, .bool true]))) := by
            show ∀ u w, RI w w.heap.size u a → Calls Tryd.prog 13 #[.agg #[.int .i64 xr, .int .i64 xd], u] w (RetV w (.tuple #[.bool P, .bool true]))
            intro u w q
            have h5 := implKeepsBucket_any u ⟨xr, xd⟩ a w q hna
            rw [k1, ← hP] at h5
            exact h5
          have HQ : Hid (∀ u w, RI w w.heap.size u b → Calls Tryd.prog 13 #[.agg #[.int .i64 yr, .int .i64 yd], u] w (RetV w (.tuple #[.bool Q, .bool true]))) := by
            show ∀ u w, RI w w.heap.size u b → Calls Tryd.prog 13 #[.agg #[.int .i64 yr, .int .i64 yd], u] w (RetV w (.tuple #[.bool Q, .bool true]))
            intro u w q
            have h5 := implKeepsBucket_any u ⟨yr, yd⟩ b w q hnb
            rw [k2, ← hQ] at h5
            exact h5
          have HR : Hid (∀ u w, RI w w.heap.size u S → Calls Tryd.prog 13 #[.agg #[.int .i64 jr, .int .i64 jd], u] w (RetV w (.tuple #[.bool R, .bool true]))) := by
            show ∀ u w, RI w w.heap.size u S → Calls Tryd.prog 13 #[.agg #[.int .i64 jr, .int .i64 jd], u] w (RetV w (.tuple #[.bool R, .bool true]))
            intro u w q
            have h5 := implKeepsBucket_any u ⟨jr, jd⟩ S w q hSl
            rw [k3, ← hR] at h5
            exact h5
          have K4 := Lib.hid k4
          clear k1 k2 k3 k4 hP hQ hR
          have j77 := f74.cell 0
          have j78 := f74.cell 1
          have j79 := f75.cell 0
          have j80 := f75.cell 1
          have j81 := f76.cell 0
          have j82 := f76.cell 1
          simp at j77 j78 j79 j80 j81 j82
          go_wp2_with fail
          refine (HP.out _ _ (f71.ri.more y71_)).mono ?_; rintro e w15 ⟨rfl, hb15⟩
          have s15_ := hb15.size
          have t15 := t14.trans (hb15.mono t14.size)
          clear j77 j78 j79 j80 j81 j82
          have f83 := f71.step hb15
          have y83_ := Nat.le_trans y71_ s15_
          clear f71 y71_
          have f84 := f72.step hb15
          have y84_ := Nat.le_trans y72_ s15_
          clear f72 y72_
          have f85 := f73.step hb15
          have y85_ := Nat.le_trans y73_ s15_
          clear f73 y73_
          have f86 := f74.step hb15
          clear f74
          have f87 := f75.step hb15
          clear f75
          have f88 := f76.step hb15
          clear f76
          have z15 := z14.trans (hb15.mono z14.size)
          clear hb15 s15_ t14 z14
          have j89 := f86.cell 0
          have j90 := f86.cell 1
          have j91 := f87.cell 0
          have j92 := f87.cell 1
          have j93 := f88.cell 0
          have j94 := f88.cell 1
          simp at j89 j90 j91 j92 j93 j94
          go_wp2_with fail
          refine (HQ.out _ _ (f84.ri.more y84_)).mono ?_; rintro e w16 ⟨rfl, hb16⟩
          have s16_ := hb16.size
          have t16 := t15.trans (hb16.mono t15.size)
          clear j89 j90 j91 j92 j93 j94
          have f95 := f83.step hb16
          have y95_ := Nat.le_trans y83_ s16_
          clear f83 y83_
          have f96 := f84.step hb16
          have y96_ := Nat.le_trans y84_ s16_
          clear f84 y84_
          have f97 := f85.step hb16
          have y97_ := Nat.le_trans y85_ s16_
          clear f85 y85_
          have f98 := f86.step hb16
          clear f86
          have f99 := f87.step hb16
          clear f87
          have f100 := f88.step hb16
          clear f88
          have z16 := z15.trans (hb16.mono z15.size)
          clear hb16 s16_ t15 z15
          have j101 := f98.cell 0
          have j102 := f98.cell 1
          have j103 := f99.cell 0
          have j104 := f99.cell 1
          have j105 := f100.cell 0
          have j106 := f100.cell 1
          simp at j101 j102 j103 j104 j105 j106
          go_wp2_with fail
          refine (HR.out _ _ (f97.ri.more y97_)).mono ?_; rintro e w17 ⟨rfl, hb17⟩
          have s17_ := hb17.size
          have t17 := t16.trans (hb17.mono t16.size)
          clear j101 j102 j103 j104 j105 j106
          have f107 := f95.step hb17
          have y107_ := Nat.le_trans y95_ s17_
          clear f95 y95_
          have f108 := f96.step hb17
          have y108_ := Nat.le_trans y96_ s17_
          clear f96 y96_
          have f109 := f97.step hb17
          have y109_ := Nat.le_trans y97_ s17_
          clear f97 y97_
          have f110 := f98.step hb17
          clear f98
          have f111 := f99.step hb17
          clear f99
          have f112 := f100.step hb17
          clear f100
          have z17 := z16.trans (hb17.mono z16.size)
          clear hb17 s17_ t16 z16
          have k4 := K4.out
          clear K4
          cases P
          · go_wp2_with fail
            go_meet
            exact z17
          cases Q
          · go_wp2_with fail
            go_meet
            exact z17
          obtain rfl : R = true := k4 rfl rfl
          go_wp2_with fail
          go_meet
          exact z17
        case rest =>
          have hb15 := hcut
          clear hcut
          have s15_ := hb15.size
          have t15 := t14.trans (hb15.mono t14.size)
          have f113 := f71.step hb15
          have y113_ := Nat.le_trans y71_ s15_
          clear f71 y71_
          have f114 := f72.step hb15
          have y114_ := Nat.le_trans y72_ s15_
          clear f72 y72_
          have f115 := f73.step hb15
          have y115_ := Nat.le_trans y73_ s15_
          clear f73 y73_
          have f116 := f74.step hb15
          clear f74
          have f117 := f75.step hb15
          clear f75
          have f118 := f76.step hb15
          clear f76
          clear hb15 s15_ t14
          clear f116
          clear f117
          clear f118
          clear f113
          clear f114
          clear f115
          clear HF XS XJ hY
          go_wp2_with fail
          refine (drawWindowsOf_any m mn _ ((hm.below t15).more t15.size) hmn).mono ?_; rintro e w16 ⟨u_t, l, rfl, hl, o_t, hb16⟩
          have s16_ := hb16.size
          have t16 := t15.trans (hb16.mono t15.size)
          clear hb16 s16_ t15
          have y119_ := Nat.le_refl w16.heap.size
          have hn : l.length ≤ 1048576 := by omega
          obtain ⟨V, TR, hV⟩ : ∃ S O, (S, O) = wnSays l := ⟨_, _, rfl⟩
          have eT1 : (wnSays l).2 = trOk l := by unfold wnSays; cases trOk l <;> rfl
          have eT : trOk l = TR := by rw [← eT1, ← hV]
          have eT2 : (txSays l).2 = trOk l := by unfold txSays; cases trOk l <;> rfl
          obtain ⟨X, hX⟩ : ∃ S, (S, TR) = txSays l := ⟨(txSays l).1, by rw [← eT, ← eT2]⟩
          clear eT1 eT2
          have hVl : V.length ≤ 1048576 := by have := wnSays_len l; rw [← hV] at this; exact this
          have hW : TR = true → WnF l V := fun h => by
            have h5 := wnF_of (l := l) (by rw [← hV]; exact h)
            rw [← hV] at h5
            exact h5
          have HVimpl : Hid (∀ u w, RI w w.heap.size u l → Calls Tryd.prog 15 #[u] w (RetLB 3 w V TR)) := by
            show ∀ u w, RI w w.heap.size u l → Calls Tryd.prog 15 #[u] w (RetLB 3 w V TR)
            intro u w q
            have h5 := implWindowsOf_any u l w q hn
            rw [← hV] at h5
            exact h5
          have HTimpl : Hid (∀ u w, RI w w.heap.size u l → Calls Tryd.prog 19 #[u] w (RetV w (.bool TR))) := by
            show ∀ u w, RI w w.heap.size u l → Calls Tryd.prog 19 #[u] w (RetV w (.bool TR))
            intro u w q
            have h5 := implIsTraffic_any u l w q hn
            rw [eT] at h5
            exact h5
          have HVspec : Hid (∀ u w, RI w w.heap.size u l → Calls Tryd.prog 16 #[u] w (RetLB 3 w V TR)) := by
            show ∀ u w, RI w w.heap.size u l → Calls Tryd.prog 16 #[u] w (RetLB 3 w V TR)
            intro u w q
            have h5 := specWindowsOf_any u l w q hn
            rw [← hV] at h5
            exact h5
          have HTspec : Hid (∀ u w, RI w w.heap.size u l → Calls Tryd.prog 20 #[u] w (RetV w (.bool TR))) := by
            show ∀ u w, RI w w.heap.size u l → Calls Tryd.prog 20 #[u] w (RetV w (.bool TR))
            intro u w q
            have h5 := specIsTraffic_any u l w q hn
            rw [eT] at h5
            exact h5
          have HXimpl : Hid (∀ u w, Lib.TabIs Tryd.prog w "internal/strconv.uint64pow10" .u64 Lib.pow10Tab → RI w w.heap.size u l → Calls Tryd.prog 17 #[u] w (RetV w (.tuple #[.string X, .bool TR]))) := by
            show ∀ u w, Lib.TabIs Tryd.prog w "internal/strconv.uint64pow10" .u64 Lib.pow10Tab → RI w w.heap.size u l → Calls Tryd.prog 17 #[u] w (RetV w (.tuple #[.string X, .bool TR]))
            intro u w qG q
            have h5 := implTrafficText_any u l w q hn qG
            rw [← hX] at h5
            exact h5
          have HXspec : Hid (∀ u w, RI w w.heap.size u l → Calls Tryd.prog 18 #[u] w (RetV w (.tuple #[.string X, .bool TR]))) := by
            show ∀ u w, RI w w.heap.size u l → Calls Tryd.prog 18 #[u] w (RetV w (.tuple #[.string X, .bool TR]))
            intro u w q
            have h5 := specTrafficText_any u l w q hn
            rw [← hX] at h5
            exact h5
          have HW := Lib.hid hW
          clear hV hX eT hW
          go_wp2_with fail
          refine (HVimpl.out _ _ (o_t.ri.more y119_)).mono ?_; rintro e w17 ⟨v_u, rfl, o_v, hb17⟩
          have s17_ := hb17.size
          have t17 := t16.trans (hb17.mono t16.size)
          have f120 := o_t.step hb17
          have y120_ := Nat.le_trans y119_ s17_
          clear o_t y119_
          clear hb17 s17_ t16
          have y121_ := Nat.le_refl w17.heap.size
          go_wp2_with fail
          refine (HVspec.out _ _ (f120.ri.more y120_)).mono ?_; rintro e w18 ⟨vr_u, rfl, o_vr, hb18⟩
          have s18_ := hb18.size
          have t18 := t17.trans (hb18.mono t17.size)
          have f122 := f120.step hb18
          have y122_ := Nat.le_trans y120_ s18_
          clear f120 y120_
          have f123 := o_v.step hb18
          have y123_ := Nat.le_trans y121_ s18_
          clear o_v y121_
          clear hb18 s18_ t17
          have y124_ := Nat.le_refl w18.heap.size
          go_wp2_with fail
          refine (HXimpl.out _ _ (HG.out _ t18) (f122.ri.more y122_)).mono ?_; rintro e w19 ⟨rfl, hb19⟩
          have s19_ := hb19.size
          have t19 := t18.trans (hb19.mono t18.size)
          have f125 := f122.step hb19
          have y125_ := Nat.le_trans y122_ s19_
          clear f122 y122_
          have f126 := f123.step hb19
          have y126_ := Nat.le_trans y123_ s19_
          clear f123 y123_
          have f127 := o_vr.step hb19
          have y127_ := Nat.le_trans y124_ s19_
          clear o_vr y124_
          clear hb19 s19_ t18
          go_wp2_with fail
          refine (HXspec.out _ _ (f125.ri.more y125_)).mono ?_; rintro e w20 ⟨rfl, hb20⟩
          have s20_ := hb20.size
          have t20 := t19.trans (hb20.mono t19.size)
          have f128 := f125.step hb20
          have y128_ := Nat.le_trans y125_ s20_
          clear f125 y125_
          have f129 := f126.step hb20
          have y129_ := Nat.le_trans y126_ s20_
          clear f126 y126_
          have f130 := f127.step hb20
          have y130_ := Nat.le_trans y127_ s20_
          clear f127 y127_
          clear hb20 s20_ t19
          clear HVimpl HVspec HXimpl HXspec
          go_upto_region 24 with fail
          go_cut [202] from 202 to 202 (fun s_202 wx => s_202 = .bool false ∧ Below w20.heap.size w20 wx)
          case first =>
            as_aux_lemma =>
            have QV : RI w20 w20.heap.size v_u V := (f129.ri.more y129_)
            have QW : RI w20 w20.heap.size vr_u V := (f130.ri.more y130_)
            have QT : RI w20 w20.heap.size u_t l := (f128.ri.more y128_)
            go_wp2_with (first | (go_at_call 8; refine (kSame_any _ _ V _ _ QV QW hVl).mono ?_; rintro e wq ⟨rfl, hq1⟩; have sq1 := hq1.size; have QT2 := (QT.step hq1 (Nat.le_refl _)).more sq1) | (go_at_call 20; refine (HTspec.out _ _ QT4).mono ?_; rintro e wr9 ⟨rfl, hq4⟩; have HQ14 := Lib.hid (hq13.trans (hq4.mono hq13.size))) | (go_at_call 19; refine (HTimpl.out _ _ QT3).mono ?_; rintro e wp ⟨rfl, hq3⟩; have sq3 := hq3.size; have QT4 := (QT3.step hq3 (Nat.le_refl _)).more sq3; have hq13 := hq12.trans (hq3.mono hq12.size)) | (go_at_call 19; refine (HTimpl.out _ _ QT2).mono ?_; rintro e wo ⟨rfl, hq2⟩; have sq2 := hq2.size; have QT3 := (QT2.step hq2 (Nat.le_refl _)).more sq2; have hq12 := hq1.trans (hq2.mono sq1)))
            go_meet
            exact ⟨by first | rfl | trivial | simp, HQ14.out⟩
          case rest =>
            obtain ⟨rfl, hb21⟩ := hcut
            have s21_ := hb21.size
            have t21 := t20.trans (hb21.mono t20.size)
            have f131 := f128.step hb21
            have y131_ := Nat.le_trans y128_ s21_
            clear f128 y128_
            have f132 := f129.step hb21
            have y132_ := Nat.le_trans y129_ s21_
            clear f129 y129_
            have f133 := f130.step hb21
            have y133_ := Nat.le_trans y130_ s21_
            clear f130 y130_
            clear hb21 s21_ t20
            clear f133
            clear HTimpl HTspec
            obtain ⟨At, nt, ct, rfl, hnt⟩ : ∃ A n c, u_t = .slice A n c ∧ n = l.length := by obtain ⟨A, c, h, _⟩ := id (f131.ri.more y131_); exact ⟨A, _, c, h, rfl⟩
            obtain ⟨Av, nv, cv, rfl, hnv⟩ : ∃ A n c, v_u = .slice A n c ∧ n = V.length := by obtain ⟨A, c, h, _⟩ := id (f132.ri.more y132_); exact ⟨A, _, c, h, rfl⟩
            have HNT := Lib.hid hnt
            have HNV := Lib.hid hnv
            clear hnt hnv
            go_upto_if 203 with fail
            go_cut [] from 203 to 203 (fun wx => Below wc.heap.size wc wx)
            case first =>
              have z21 : Below wc.heap.size wc wc := Below.refl _ _
              cases TR
              · go_wp2_with fail
                go_meet
                exact z21
              have hw := HW.out rfl
              clear HW
              obtain rfl : nv = nt := by rw [HNV.out, HNT.out]; exact hw.len
              have hnv := HNV.out
              have hnl := HNT.out
              have h40 : nv ≤ 40 := by rw [hnl]; exact hw.l40
              have h40i : (nv : Int) ≤ 40 := by omega
              have hl40 := hw.l40
              obtain ⟨Z, hZ⟩ : ∃ z, z = sumL l := ⟨_, rfl⟩
              obtain ⟨X9, hX9⟩ : ∃ z, z = mstN l l.length := ⟨_, rfl⟩
              have HKU : Hid (∀ u w, RI w w.heap.size u l → Calls Tryd.prog 9 #[u] w (fun e w' => e = .returned (.int .i64 Z) ∧ w = w')) := by
                intro u w q
                have h5 := kSum_any u l w q (by omega) (fun y hy => by have := trOk_mem hw.tr y hy; omega)
                rw [← hZ] at h5
                exact h5
              have HKM : Hid (∀ u w, RI w w.heap.size u l → Calls Tryd.prog 21 #[u] w (fun e w' => e = .returned (.int .i64 X9) ∧ w = w')) := by
                intro u w q
                have h5 := kMost_any u l w q (by omega)
                rw [← hX9] at h5
                exact h5
              have HLA : Hid (0 < nv → V.getD (nv - 1) 0 = Z) := fun h => by rw [hZ, hnv]; exact hw.last (by omega)
              have HFI : Hid (0 < nv → V.getD 0 0 = X9) := fun h => by rw [hX9]; exact hw.first (by omega)
              have HSUB : Hid (∀ i k, i + k + 1 < nv → V.getD (i + k + 1) 0 ≤ V.getD i 0 + V.getD k 0) := fun i k h => hw.sub i k (by omega)
              have HMON : Hid (∀ i, i + 1 < nv → V.getD i 0 ≤ V.getD (i + 1) 0) := fun i h => hw.mono i (by omega)
              have HBND : Hid (∀ i, i < nv → 0 ≤ V.getD i 0 ∧ V.getD i 0 ≤ 40000) := fun i h => hw.bnd i (by omega)
              have HQT : Hid (RI wc wc.heap.size (.slice At nv ct) l) := (f131.ri.more y131_)
              have QV : RI wc wc.heap.size (.slice Av nv cv) V := (f132.ri.more y132_)
              have HQV : Hid (0 < nv → ∃ b o, Av = some ⟨b, o, none⟩ ∧ b < wc.heap.size ∧ ∀ j, j < nv → wc.cell? ⟨b, o + j, none⟩ = some (.int .i64 (V.getD j 0))) := by
                intro h
                obtain ⟨A2, c2, hv2, _, hcell⟩ := QV
                injection hv2 with e1 e2 e3
                subst e1
                obtain ⟨b, o, h1, h2, h3⟩ := hcell (by omega)
                exact ⟨b, o, h1, h2, fun j hj => h3 j (by omega)⟩
              clear hw hZ hX9 hl hnv hnl hl40 QV
              go_upto_region 27 with fail
              go_cut [232] from 232 to 232 (fun s_232 wx => s_232 = .bool false ∧ Below wc.heap.size wc wx)
              case first =>
                clear HSUB HMON HBND
                cases nv with
                | zero =>
                  clear HQV HQT HLA HFI
                  as_aux_lemma =>
                  go_quiet (fail)
                  go_wp2
                  go_meet
                  exact ⟨by first | rfl | trivial | (simp; omega), below_drewN (Below.refl _ _) _⟩
                | succ N =>
                  have hla := HLA.out (Nat.succ_pos N)
                  have hfi := HFI.out (Nat.succ_pos N)
                  obtain ⟨b1, o1, rfl, _, p1⟩ := HQV.out (Nat.succ_pos N)
                  have x1 := p1 0 (Nat.succ_pos N)
                  have x2 := p1 N (Nat.lt_succ_self N)
                  rw [Nat.add_sub_cancel] at hla
                  rw [hla] at x2
                  rw [hfi] at x1
                  simp only [Nat.add_zero] at x1
                  have hNI : (N : Int) ≤ 40 := by omega
                  clear p1 hla hfi HLA HFI HQV
                  as_aux_lemma =>
                  have m3 : (N : Int) < (N : Int) + 1 := by omega
                  go_quiet ((first | (go_at_call 9; (with_reducible refine (HKU.out _ _ (RI.drewN HQT.out _)).mono ?_); rintro e wq ⟨rfl, rfl⟩; exact ⟨rfl, _, rfl⟩) | (go_at_call 21; (with_reducible refine (HKM.out _ _ (RI.drewN HQT.out _)).mono ?_); rintro e wq ⟨rfl, rfl⟩; exact ⟨rfl, _, rfl⟩)))
                  go_wp2
                  go_meet
                  exact ⟨by first | rfl | trivial | (simp; omega), below_drewN (Below.refl _ _) _⟩
              case rest =>
                obtain ⟨rfl, hb22⟩ := hcut
                have s22_ := hb22.size
                have t22 := t21.trans (hb22.mono t21.size)
                have f134 := f131.step hb22
                have y134_ := Nat.le_trans y131_ s22_
                clear f131 y131_
                have f135 := f132.step hb22
                have y135_ := Nat.le_trans y132_ s22_
                clear f132 y132_
                have z22 := z21.trans (hb22.mono z21.size)
                clear hb22 s22_ t21 z21
                clear HKU HKM HLA HFI HQT HQV HNT
                have hnv := HNV.out
                have QV : RI wc wc.heap.size (.slice Av nv cv) V := (f135.ri.more y135_)
                have HQV : Hid (0 < nv → ∃ b o, Av = some ⟨b, o, none⟩ ∧ b < wc.heap.size ∧ ∀ j, j < nv → wc.cell? ⟨b, o + j, none⟩ = some (.int .i64 (V.getD j 0))) := by
                  intro h
                  obtain ⟨A2, c2, hv2, _, hcell⟩ := QV
                  injection hv2 with e1 e2 e3
                  subst e1
                  obtain ⟨b, o, h1, h2, h3⟩ := hcell (by omega)
                  exact ⟨b, o, h1, h2, fun j hj => h3 j (by omega)⟩
                have hZZ := Lib.hid z22
                clear QV hnv HNV
                go_wp2_with fail
                go_loopw [235] (fun i wr => ∃ i0 : Nat, i0 ≤ nv ∧ i = .int .i64 i0 ∧ Below wc.heap.size wc wr) (fun i _ => nv - (intOf i).toNat)
                case atStart => exact ⟨0, Nat.zero_le _, rfl, Below.refl _ _⟩
                case round =>
                  obtain ⟨i0, hi0, rfl, hT⟩ := hrel
                  have HT := Lib.hid hT
                  by_cases hlt : i0 < nv
                  · have hltI : (i0 : Int) < (nv : Int) := by omega
                    obtain ⟨b1, o1, rfl, hb1, q1⟩ := HQV.out (by omega)
                    have p1 : ∀ j, j < nv → wr.cell? ⟨b1, o1 + j, none⟩ = some (.int .i64 (V.getD j 0)) := fun j hj => (hT.cell (p := ⟨b1, o1 + j, none⟩) hb1).trans (q1 j hj)
                    have HP1 := Lib.hid p1
                    clear q1 hT p1
                    cases i0 with
                    | zero =>
                      have m0 : (0 : Int) < (nv : Int) := by omega
                      go_wp2_with fail
                      go_quiet (fail)
                      go_wp2_with fail
                      go_loopw [33] (fun k wx => ∃ k0 : Nat, k0 ≤ nv ∧ k = .int .i64 k0 ∧ ∃ n, wx = wr.drewN n) (fun k _ => nv - (intOf k).toNat)
                      case atStart => exact ⟨0, by omega, rfl, _, rfl⟩
                      case round =>
                        obtain ⟨k0, hk0, rfl, nn, rfl⟩ := hrel
                        by_cases hk : k0 + 1 < nv
                        · have y1 := HP1.out (k0 + 1) hk
                          have y2 := HP1.out 0 (by omega)
                          have y3 := HP1.out k0 (by omega)
                          have y4 := HSUB.out 0 k0 (by omega)
                          rw [Nat.zero_add] at y4
                          simp only [Nat.add_zero] at y2
                          have y5 := HBND.out (k0 + 1) hk
                          have y6 := HBND.out 0 (by omega)
                          have y7 := HBND.out k0 (by omega)
                          obtain ⟨e5, he5⟩ : ∃ a, a = V.getD (k0 + 1) 0 := ⟨_, rfl⟩
                          obtain ⟨e6, he6⟩ : ∃ a, a = V.getD 0 0 := ⟨_, rfl⟩
                          obtain ⟨e7, he7⟩ : ∃ a, a = V.getD k0 0 := ⟨_, rfl⟩
                          rw [← he5] at y1 y4 y5
                          rw [← he6] at y2 y4 y6
                          rw [← he7] at y3 y4 y7
                          obtain ⟨y8, y9⟩ := y6
                          obtain ⟨z8, z9⟩ := y7
                          obtain ⟨v8, v9⟩ := y5
                          have n1 : decide (e6 + e7 < e5) = false := decide_eq_false (by omega)
                          have n2 : IntKind.i64.wrap (e6 + e7) = e6 + e7 := IntWalk.i64_in _ (by omega)
                          have n3 : (k0 : Int) + 1 < (nv : Int) := by omega
                          have n4 : (k0 : Int) + 1 < (nv : Int) := by omega
                          have n5 : (k0 : Int) < (nv : Int) := by omega
                          have n6 : (0 : Int) < (nv : Int) := by omega
                          clear HP1 HSUB HMON HBND HQV he5 he6 he7
                          as_aux_lemma =>
                          go_wp2_with fail
                          go_quiet (fail)
                          go_wp2_with fail
                          go_roundw
                          case rel => exact ⟨k0 + 1, by omega, by go_num, _, rfl⟩
                          case measure => simp [intOf]; omega
                        · have hk' : ¬ ((k0 : Int) + 1 < (nv : Int)) := by omega
                          clear HP1 HSUB HMON HBND HQV
                          as_aux_lemma =>
                          go_wp2_with fail
                          go_roundw
                          case rel => exact ⟨0 + 1, by omega, by go_num, below_drewN HT.out _⟩
                          case measure => simp [intOf]; omega
                    | succ r =>
                      have x1 := HP1.out (r + 1) hlt
                      have x2 := HP1.out r (by omega)
                      have x3 := HMON.out r hlt
                      have m0 : (r : Int) < (nv : Int) := by omega
                      have m1 : (r : Int) + 1 < (nv : Int) := by omega
                      obtain ⟨e1, he1⟩ : ∃ a, a = V.getD (r + 1) 0 := ⟨_, rfl⟩
                      obtain ⟨e0, he0⟩ : ∃ a, a = V.getD r 0 := ⟨_, rfl⟩
                      rw [← he1] at x1 x3
                      rw [← he0] at x2 x3
                      have m2 : decide (e1 < e0) = false := decide_eq_false (by omega)
                      clear x3 he1 he0
                      go_wp2_with fail
                      go_quiet (fail)
                      go_wp2_with fail
                      clear x1 x2 m2
                      go_loopw [33] (fun k wx => ∃ k0 : Nat, r + 1 + k0 ≤ nv ∧ k = .int .i64 k0 ∧ ∃ n, wx = wr.drewN n) (fun k _ => nv - (intOf k).toNat)
                      case atStart => exact ⟨0, by omega, rfl, _, rfl⟩
                      case round =>
                        obtain ⟨k0, hk0, rfl, nn, rfl⟩ := hrel
                        by_cases hk : r + 1 + k0 + 1 < nv
                        · have y1 := HP1.out (r + 1 + k0 + 1) hk
                          have y2 := HP1.out (r + 1) (by omega)
                          have y3 := HP1.out k0 (by omega)
                          have y4 := HSUB.out (r + 1) k0 hk
                          have y5 := HBND.out (r + 1 + k0 + 1) hk
                          have y6 := HBND.out (r + 1) (by omega)
                          have y7 := HBND.out k0 (by omega)
                          obtain ⟨e5, he5⟩ : ∃ a, a = V.getD (r + 1 + k0 + 1) 0 := ⟨_, rfl⟩
                          obtain ⟨e6, he6⟩ : ∃ a, a = V.getD (r + 1) 0 := ⟨_, rfl⟩
                          obtain ⟨e7, he7⟩ : ∃ a, a = V.getD k0 0 := ⟨_, rfl⟩
                          rw [← he5] at y1 y4 y5
                          rw [← he6] at y2 y4 y6
                          rw [← he7] at y3 y4 y7
                          obtain ⟨y8, y9⟩ := y6
                          obtain ⟨z8, z9⟩ := y7
                          obtain ⟨v8, v9⟩ := y5
                          have n1 : decide (e6 + e7 < e5) = false := decide_eq_false (by omega)
                          have n2 : IntKind.i64.wrap (e6 + e7) = e6 + e7 := IntWalk.i64_in _ (by omega)
                          have n3 : (r : Int) + 1 + (k0 : Int) + 1 < (nv : Int) := by omega
                          have n4 : (k0 : Int) + 1 < (nv : Int) := by omega
                          have n5 : (k0 : Int) < (nv : Int) := by omega
                          have n6 : (r : Int) + 1 < (nv : Int) := by omega
                          clear HP1 HSUB HMON HBND HQV he5 he6 he7
                          as_aux_lemma =>
                          go_wp2_with fail
                          go_quiet (fail)
                          go_wp2_with fail
                          go_roundw
                          case rel => exact ⟨k0 + 1, by omega, by go_num, _, rfl⟩
                          case measure => simp [intOf]; omega
                        · have hk' : ¬ ((r : Int) + 1 + (k0 : Int) + 1 < (nv : Int)) := by omega
                          clear HP1 HSUB HMON HBND HQV
                          as_aux_lemma =>
                          go_wp2_with fail
                          go_roundw
                          case rel => exact ⟨(r + 1) + 1, by omega, by go_num, below_drewN HT.out _⟩
                          case measure => simp [intOf]; omega
                  · obtain rfl : i0 = nv := by omega
                    go_wp2_with fail
                    go_meet
                    exact hZZ.out.trans (HT.out.mono hZZ.out.size)
            case rest =>
              have hb22 := hcut
              clear hcut
              have s22_ := hb22.size
              have t22 := t21.trans (hb22.mono t21.size)
              have f136 := f131.step hb22
              have y136_ := Nat.le_trans y131_ s22_
              clear f131 y131_
              have f137 := f132.step hb22
              have y137_ := Nat.le_trans y132_ s22_
              clear f132 y132_
              clear hb22 s22_ t21
              clear f136
              clear f137
              clear HW HG HNT HNV
              go_wp2_with fail
              refine (drawIsBucket_any c cn _ ((hc.below t22).more t22.size) hcn).mono ?_; rintro e w23 ⟨x0, rfl, hb23⟩
              obtain ⟨ur, ud⟩ := x0
              simp only [BuV]
              have s23_ := hb23.size
              have t23 := t22.trans (hb23.mono t22.size)
              clear hb23 s23_ t22
              have hb24 : Below w23.heap.size w23 (w23.alloc (.cells #[.int .i64 ur, .int .i64 ud] 32)) := (Below.refl _ _).alloc (Nat.le_refl _) _
              have x_u := BK.made w23 32 #[.int .i64 ur, .int .i64 ud]
              have s24_ := hb24.size
              have t24 := t23.trans (hb24.mono t23.size)
              clear hb24 s24_ t23
              go_upto_region 41 with fail
              have X6 : BK ((w23.alloc (.cells #[.int .i64 ur, .int .i64 ud] 32)).drewN 1) _ _ _ := x_u
              have T6 := below_drewN t24 1
              have c0 := X6.cell 0
              have c1 := X6.cell 1
              simp at c0 c1
              obtain ⟨GB, hGB⟩ : ∃ g, g = buOk ⟨ur, ud⟩ := ⟨_, rfl⟩
              have HBi : Hid (∀ w, Calls Tryd.prog 23 #[.agg #[.int .i64 ur, .int .i64 ud]] w (RetV w (.bool GB))) := by
                intro w
                have h5 := implIsBucket_any ⟨ur, ud⟩ w
                rw [← hGB] at h5
                exact h5
              have HBs : Hid (∀ w, Calls Tryd.prog 24 #[.agg #[.int .i64 ur, .int .i64 ud]] w (RetV w (.bool GB))) := by
                intro w
                have h5 := specIsBucket_any ⟨ur, ud⟩ w
                rw [← hGB] at h5
                exact h5
              clear hGB
              go_region_with (first | (go_at_call 23; refine (HBi.out _).mono ?_; rintro e w7 ⟨rfl, h7⟩; have X7 := X6.step h7; have T7 := T6.trans (h7.mono T6.size); have d0 := X7.cell 0; have d1 := X7.cell 1; simp at d0 d1) | (go_at_call 24; refine (HBs.out _).mono ?_; rintro e w8 ⟨rfl, h8⟩; have T8 := T7.trans (h8.mono T7.size)))
              all_goals
                go_wp2_with fail
                go_ret
                exact ⟨by first | rfl | simp, T8⟩
end Go.Proofs.YtfncajdhdcpooaaDoor
