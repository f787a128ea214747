/-
  FnSchedulesTold: the walk.
-/
import Derived.Test.YtdlmacoblmnajaaMathTd
import Derived.Test.YtdlmacoblmnajaaCurHd
import Derived.Test.YtdlmacoblmnajaaSchedI
import Derived.Test.YtdlmacoblmnajaaSchedS
import Derived.Test.YtdlmacoblmnajaaIsBusy
import Derived.Test.YtdlmacoblmnajaaIsBusyS
import Derived.Test.YtdlmacoblmnajaaOrd
import Derived.Test.YtdlmacoblmnajaaOver
import Derived.Test.YtdlmacoblmnajaaStarts
import Derived.Deep.RegionWith
import Derived.Deep.DeepCutAuto
import Derived.Deep.CutRange
import Derived.BigQuiet
namespace Go.Proofs.Ytdlmacoblmnajaa
open Go.RowKit
set_option maxRecDepth 100000
set_option linter.unusedVariables false

theorem RB.wide9 {w : World} {B B' : Nat} {v : Value} {n : Nat} (h : RB w B v n) (hB : B ≤ B') : RB w B' v n := by
  obtain ⟨A, c, hv, hlc, hc⟩ := h
  refine ⟨A, c, hv, hlc, fun hn => ?_⟩
  obtain ⟨b, off, hA, hbB, hcell⟩ := hc hn
  exact ⟨b, off, hA, by omega, hcell⟩
theorem bits_or_i64_nat (a b : Nat) (ha : a < 1048576) (hb : b < 1048576) : bits .or .i64 (a : Int) (b : Int) = ((a ||| b : Nat) : Int) := by
  have hx : a ||| b < 2 ^ 20 := Nat.or_lt_two_pow (by omega) (by omega)
  have h1 : (BitVec.ofInt 64 (a : Int)).toNat = a := by
    rw [BitVec.ofInt_natCast, BitVec.toNat_ofNat]; exact Nat.mod_eq_of_lt (by omega)
  have h2 : (BitVec.ofInt 64 (b : Int)).toNat = b := by
    rw [BitVec.ofInt_natCast, BitVec.toNat_ofNat]; exact Nat.mod_eq_of_lt (by omega)
  show IntKind.i64.wrap ((BitVec.ofInt 64 (a : Int) ||| BitVec.ofInt 64 (b : Int)).toNat : Int) = _
  rw [BitVec.toNat_or, h1, h2]
  exact IntWalk.i64_in _ (by omega)
theorem td_says (js : List Jb) (ss : List Int) : ∃ (OK IS BU TH : Bool) (D W : List Int) (wt ov : Int), isSched js ss = (IS, OK) ∧ isBusyOf js ss = (BU, OK) ∧ orderStarts js ss = (D, TH) ∧ waitsOf js ss = (W, TH) ∧ weighted js ss = (wt, TH) ∧ overtaken js ss = (ov, TH) ∧
    (D.length ≤ 1048576 ∧ W.length ≤ 1048576) ∧ (OK = false ∧ IS = false ∧ BU = false ∧ TH = false ∨ OK = true ∧ IS = false ∧ BU = false ∧ TH = false ∨ OK = true ∧ IS = true ∧ TH = true) ∧
    (TH = true → ∃ G S Fi lst, TdF js ss D W wt G S ∧ firstOf js = (Fi, true) ∧ Fi.length ≤ 1048576 ∧ weighted js Fi = (lst, true) ∧ (BU = true → wt = lst)) := by
  have l1 := orderStarts_len js ss
  have l2 := waitsOf_len js ss
  cases hg : givenB js ss
  · have hs : schd js ss = false := by simp [schd, hg]
    exact ⟨false, false, false, false, [], [], 0, 0, by simp [isSched, hg], by simp [isBusyOf, hg], by simp [orderStarts, hs], by simp [waitsOf, hs], by simp [weighted, hs], by simp [overtaken, hs], by simp, .inl ⟨rfl, rfl, rfl, rfl⟩, fun h => by cases h⟩
  · cases hb : schedB js ss
    · have hs : schd js ss = false := by simp [schd, hb]
      exact ⟨true, false, false, false, [], [], 0, 0, by simp [isSched, hg, hb], by simp [isBusyOf, hg, hb], by simp [orderStarts, hs], by simp [waitsOf, hs], by simp [weighted, hs], by simp [overtaken, hs], by simp, .inr (.inl ⟨rfl, rfl, rfl, rfl⟩), fun h => by cases h⟩
    · have hs : schd js ss = true := by simp [schd, hg, hb]
      have e1 : orderStarts js ss = (ordOf ss, true) := by simp [orderStarts, hs]
      have e2 : waitsOf js ss = (waitL js ss ss.length, true) := by simp [waitsOf, hs]
      rw [e1] at l1
      rw [e2] at l2
      obtain ⟨Fi, lst, f1, f2, f3, f4⟩ := td_first hs
      exact ⟨true, true, busyB js ss, true, _, _, _, _, by simp [isSched, hg, hb], by simp [isBusyOf, hg, hb], e1, e2, (show _ = (weighL js ss ss.length, true) from by simp only [weighted, hs, if_true]), (show _ = (overL js ss ss.length, true) from by simp only [overtaken, hs, if_true]), ⟨l1, l2⟩, .inr (.inr ⟨rfl, rfl, rfl⟩), fun _ => ⟨_, _, Fi, lst, tdF_of hs, f1, f2, f3, f4⟩⟩
set_option maxHeartbeats 16000000 in
theorem walkTD (c m : Value) (cn mn : Nat) (w : World) (hc : RB w w.heap.size c cn) (hm : RB w w.heap.size m mn) :
    Calls Try.prog 3 #[c, m] w (RetV w (.bool true)) := by
  rcases Nat.lt_or_ge 1048576 (cn + mn) with hbig | hbig
  · have hbg := big_all c m cn mn _ w hc hm
    rw [show (decide ((1048576 : Int) < cn) || decide ((1048576 : Int) - cn < mn)) = true from by simp; omega] at hbg
    go_enter Try.func3, Try.ntmps3
    go_wp2_with fail
    refine hbg.mono ?_; rintro e w1 ⟨rfl, hb⟩
    go_wp2_with fail
    go_ret
    exact ⟨rfl, hb⟩
  have hbg := Lib.hid (big_any c m cn mn _ w hc hm hbig)
  have hcn : cn ≤ 1048576 := by omega
  have hmn : mn ≤ 1048576 := by omega
  have t0 : Below w.heap.size w w := Below.refl _ _
  go_enter Try.func3, Try.ntmps3
  go_wp2_with fail
  refine (hbg.out).mono ?_; rintro e w1 ⟨rfl, hb1⟩
  have s1_ := hb1.size
  have t1 := t0.trans (hb1.mono t0.size)
  clear hb1 s1_ t0
  go_wp2_with fail
  refine (drawIsSchedule_any c cn _ (RB.wide9 (RB.below hc t1) t1.size) hcn).mono ?_; rintro e w2 ⟨u_j, v_s, l, s, rfl, ⟨hl, hs⟩, r_j, r_s, hb2⟩
  have s2_ := hb2.size
  have t2 := t1.trans (hb2.mono t1.size)
  clear hb2 s2_ t1
  have y1_ := Nat.le_refl w2.heap.size
  have y2_ := Nat.le_refl w2.heap.size
  obtain ⟨OK, IS, BU, TH, D, W, wt, ov, e1, e2, e3, e4, e5, e6, ⟨hDl, hWl⟩, hHD, hHT⟩ := td_says l s
  have HAimpl : Hid (∀ u v w, RJbS w w.heap.size u l → RI w w.heap.size v s → Calls Try.prog 6 #[u, v] w (RetV w (.tuple #[.bool IS, .bool OK]))) := by
    show ∀ u v w, RJbS w w.heap.size u l → RI w w.heap.size v s → Calls Try.prog 6 #[u, v] w (RetV w (.tuple #[.bool IS, .bool OK]))
    intro u v w q r
    have h5 := implIsSchedule_any u v l s w q r (by omega) (by omega)
    rw [e1] at h5
    exact h5
  have HAspec : Hid (∀ u v w, RJbS w w.heap.size u l → RI w w.heap.size v s → Calls Try.prog 7 #[u, v] w (RetV w (.tuple #[.bool IS, .bool OK]))) := by
    show ∀ u v w, RJbS w w.heap.size u l → RI w w.heap.size v s → Calls Try.prog 7 #[u, v] w (RetV w (.tuple #[.bool IS, .bool OK]))
    intro u v w q r
    have h5 := specIsSchedule_any u v l s w q r (by omega) (by omega)
    rw [e1] at h5
    exact h5
  have HBimpl : Hid (∀ u v w, RJbS w w.heap.size u l → RI w w.heap.size v s → Calls Try.prog 8 #[u, v] w (RetV w (.tuple #[.bool BU, .bool OK]))) := by
    show ∀ u v w, RJbS w w.heap.size u l → RI w w.heap.size v s → Calls Try.prog 8 #[u, v] w (RetV w (.tuple #[.bool BU, .bool OK]))
    intro u v w q r
    have h5 := implIsBusySchedule_any u v l s w q r (by omega) (by omega)
    rw [e2] at h5
    exact h5
  have HBspec : Hid (∀ u v w, RJbS w w.heap.size u l → RI w w.heap.size v s → Calls Try.prog 9 #[u, v] w (RetV w (.tuple #[.bool BU, .bool OK]))) := by
    show ∀ u v w, RJbS w w.heap.size u l → RI w w.heap.size v s → Calls Try.prog 9 #[u, v] w (RetV w (.tuple #[.bool BU, .bool OK]))
    intro u v w q r
    have h5 := specIsBusySchedule_any u v l s w q r (by omega) (by omega)
    rw [e2] at h5
    exact h5
  have HCimpl : Hid (∀ u v w, RJbS w w.heap.size u l → RI w w.heap.size v s → Calls Try.prog 10 #[u, v] w (RetLB 3 w D TH)) := by
    show ∀ u v w, RJbS w w.heap.size u l → RI w w.heap.size v s → Calls Try.prog 10 #[u, v] w (RetLB 3 w D TH)
    intro u v w q r
    have h5 := implOrderOfStarts_any u v l s w q r (by omega) (by omega)
    rw [e3] at h5
    exact h5
  have HCspec : Hid (∀ u v w, RJbS w w.heap.size u l → RI w w.heap.size v s → Calls Try.prog 11 #[u, v] w (RetLB 3 w D TH)) := by
    show ∀ u v w, RJbS w w.heap.size u l → RI w w.heap.size v s → Calls Try.prog 11 #[u, v] w (RetLB 3 w D TH)
    intro u v w q r
    have h5 := specOrderOfStarts_any u v l s w q r (by omega) (by omega)
    rw [e3] at h5
    exact h5
  have HDimpl : Hid (∀ u v w, RJbS w w.heap.size u l → RI w w.heap.size v s → Calls Try.prog 12 #[u, v] w (RetLB 3 w W TH)) := by
    show ∀ u v w, RJbS w w.heap.size u l → RI w w.heap.size v s → Calls Try.prog 12 #[u, v] w (RetLB 3 w W TH)
    intro u v w q r
    have h5 := implWaitsOf_any u v l s w q r (by omega) (by omega)
    rw [e4] at h5
    exact h5
  have HDspec : Hid (∀ u v w, RJbS w w.heap.size u l → RI w w.heap.size v s → Calls Try.prog 13 #[u, v] w (RetLB 3 w W TH)) := by
    show ∀ u v w, RJbS w w.heap.size u l → RI w w.heap.size v s → Calls Try.prog 13 #[u, v] w (RetLB 3 w W TH)
    intro u v w q r
    have h5 := specWaitsOf_any u v l s w q r (by omega) (by omega)
    rw [e4] at h5
    exact h5
  have HEimpl : Hid (∀ u v w, RJbS w w.heap.size u l → RI w w.heap.size v s → Calls Try.prog 14 #[u, v] w (RetV w (.tuple #[.int .i64 wt, .bool TH]))) := by
    show ∀ u v w, RJbS w w.heap.size u l → RI w w.heap.size v s → Calls Try.prog 14 #[u, v] w (RetV w (.tuple #[.int .i64 wt, .bool TH]))
    intro u v w q r
    have h5 := implWeightedWait_any u v l s w q r (by omega) (by omega)
    rw [e5] at h5
    exact h5
  have HEspec : Hid (∀ u v w, RJbS w w.heap.size u l → RI w w.heap.size v s → Calls Try.prog 15 #[u, v] w (RetV w (.tuple #[.int .i64 wt, .bool TH]))) := by
    show ∀ u v w, RJbS w w.heap.size u l → RI w w.heap.size v s → Calls Try.prog 15 #[u, v] w (RetV w (.tuple #[.int .i64 wt, .bool TH]))
    intro u v w q r
    have h5 := specWeightedWait_any u v l s w q r (by omega) (by omega)
    rw [e5] at h5
    exact h5
  have HGimpl : Hid (∀ u v w, RJbS w w.heap.size u l → RI w w.heap.size v s → Calls Try.prog 16 #[u, v] w (RetV w (.tuple #[.int .i64 ov, .bool TH]))) := by
    show ∀ u v w, RJbS w w.heap.size u l → RI w w.heap.size v s → Calls Try.prog 16 #[u, v] w (RetV w (.tuple #[.int .i64 ov, .bool TH]))
    intro u v w q r
    have h5 := implCountOvertaken_any u v l s w q r (by omega) (by omega)
    rw [e6] at h5
    exact h5
  have HGspec : Hid (∀ u v w, RJbS w w.heap.size u l → RI w w.heap.size v s → Calls Try.prog 17 #[u, v] w (RetV w (.tuple #[.int .i64 ov, .bool TH]))) := by
    show ∀ u v w, RJbS w w.heap.size u l → RI w w.heap.size v s → Calls Try.prog 17 #[u, v] w (RetV w (.tuple #[.int .i64 ov, .bool TH]))
    intro u v w q r
    have h5 := specCountOvertaken_any u v l s w q r (by omega) (by omega)
    rw [e6] at h5
    exact h5
  have HD := Lib.hid hHD
  have HT := Lib.hid hHT
  clear e1 e2 e3 e4 e5 e6 hHD hHT
  go_wp2_with fail
  refine (HAimpl.out _ _ _ (r_j.more y1_) (r_s.more y2_)).mono ?_; rintro e w3 ⟨rfl, hb3⟩
  have s3_ := hb3.size
  have t3 := t2.trans (hb3.mono t2.size)
  have f3 := r_j.step hb3 y1_
  have y3_ := Nat.le_trans y1_ s3_
  clear r_j y1_
  have f4 := r_s.step hb3 y2_
  have y4_ := Nat.le_trans y2_ s3_
  clear r_s y2_
  clear hb3 s3_ t2
  go_wp2_with fail
  refine (HAspec.out _ _ _ (f3.more y3_) (f4.more y4_)).mono ?_; rintro e w4 ⟨rfl, hb4⟩
  have s4_ := hb4.size
  have t4 := t3.trans (hb4.mono t3.size)
  have f5 := f3.step hb4 y3_
  have y5_ := Nat.le_trans y3_ s4_
  clear f3 y3_
  have f6 := f4.step hb4 y4_
  have y6_ := Nat.le_trans y4_ s4_
  clear f4 y4_
  clear hb4 s4_ t3
  go_wp2_with fail
  refine (HBimpl.out _ _ _ (f5.more y5_) (f6.more y6_)).mono ?_; rintro e w5 ⟨rfl, hb5⟩
  have s5_ := hb5.size
  have t5 := t4.trans (hb5.mono t4.size)
  have f7 := f5.step hb5 y5_
  have y7_ := Nat.le_trans y5_ s5_
  clear f5 y5_
  have f8 := f6.step hb5 y6_
  have y8_ := Nat.le_trans y6_ s5_
  clear f6 y6_
  clear hb5 s5_ t4
  go_wp2_with fail
  refine (HBspec.out _ _ _ (f7.more y7_) (f8.more y8_)).mono ?_; rintro e w6 ⟨rfl, hb6⟩
  have s6_ := hb6.size
  have t6 := t5.trans (hb6.mono t5.size)
  have f9 := f7.step hb6 y7_
  have y9_ := Nat.le_trans y7_ s6_
  clear f7 y7_
  have f10 := f8.step hb6 y8_
  have y10_ := Nat.le_trans y8_ s6_
  clear f8 y8_
  clear hb6 s6_ t5
  go_wp2_with fail
  refine (HCimpl.out _ _ _ (f9.more y9_) (f10.more y10_)).mono ?_; rintro e w7 ⟨d_u, rfl, o_d, hb7⟩
  have s7_ := hb7.size
  have t7 := t6.trans (hb7.mono t6.size)
  have f11 := f9.step hb7 y9_
  have y11_ := Nat.le_trans y9_ s7_
  clear f9 y9_
  have f12 := f10.step hb7 y10_
  have y12_ := Nat.le_trans y10_ s7_
  clear f10 y10_
  clear hb7 s7_ t6
  have y13_ := Nat.le_refl w7.heap.size
  go_wp2_with fail
  refine (HCspec.out _ _ _ (f11.more y11_) (f12.more y12_)).mono ?_; rintro e w8 ⟨dr_u, rfl, o_dr, hb8⟩
  have s8_ := hb8.size
  have t8 := t7.trans (hb8.mono t7.size)
  have f14 := f11.step hb8 y11_
  have y14_ := Nat.le_trans y11_ s8_
  clear f11 y11_
  have f15 := f12.step hb8 y12_
  have y15_ := Nat.le_trans y12_ s8_
  clear f12 y12_
  have f16 := o_d.step hb8
  have y16_ := Nat.le_trans y13_ s8_
  clear o_d y13_
  clear hb8 s8_ t7
  have y17_ := Nat.le_refl w8.heap.size
  go_wp2_with fail
  refine (HDimpl.out _ _ _ (f14.more y14_) (f15.more y15_)).mono ?_; rintro e w9 ⟨w_u, rfl, o_w, hb9⟩
  have s9_ := hb9.size
  have t9 := t8.trans (hb9.mono t8.size)
  have f18 := f14.step hb9 y14_
  have y18_ := Nat.le_trans y14_ s9_
  clear f14 y14_
  have f19 := f15.step hb9 y15_
  have y19_ := Nat.le_trans y15_ s9_
  clear f15 y15_
  have f20 := f16.step hb9
  have y20_ := Nat.le_trans y16_ s9_
  clear f16 y16_
  have f21 := o_dr.step hb9
  have y21_ := Nat.le_trans y17_ s9_
  clear o_dr y17_
  clear hb9 s9_ t8
  have y22_ := Nat.le_refl w9.heap.size
  go_wp2_with fail
  refine (HDspec.out _ _ _ (f18.more y18_) (f19.more y19_)).mono ?_; rintro e w10 ⟨wr_u, rfl, o_wr, hb10⟩
  have s10_ := hb10.size
  have t10 := t9.trans (hb10.mono t9.size)
  have f23 := f18.step hb10 y18_
  have y23_ := Nat.le_trans y18_ s10_
  clear f18 y18_
  have f24 := f19.step hb10 y19_
  have y24_ := Nat.le_trans y19_ s10_
  clear f19 y19_
  have f25 := f20.step hb10
  have y25_ := Nat.le_trans y20_ s10_
  clear f20 y20_
  have f26 := f21.step hb10
  have y26_ := Nat.le_trans y21_ s10_
  clear f21 y21_
  have f27 := o_w.step hb10
  have y27_ := Nat.le_trans y22_ s10_
  clear o_w y22_
  clear hb10 s10_ t9
  have y28_ := Nat.le_refl w10.heap.size
  go_wp2_with fail
  refine (HEimpl.out _ _ _ (f23.more y23_) (f24.more y24_)).mono ?_; rintro e w11 ⟨rfl, hb11⟩
  have s11_ := hb11.size
  have t11 := t10.trans (hb11.mono t10.size)
  have f29 := f23.step hb11 y23_
  have y29_ := Nat.le_trans y23_ s11_
  clear f23 y23_
  have f30 := f24.step hb11 y24_
  have y30_ := Nat.le_trans y24_ s11_
  clear f24 y24_
  have f31 := f25.step hb11
  have y31_ := Nat.le_trans y25_ s11_
  clear f25 y25_
  have f32 := f26.step hb11
  have y32_ := Nat.le_trans y26_ s11_
  clear f26 y26_
  have f33 := f27.step hb11
  have y33_ := Nat.le_trans y27_ s11_
  clear f27 y27_
  have f34 := o_wr.step hb11
  have y34_ := Nat.le_trans y28_ s11_
  clear o_wr y28_
  clear hb11 s11_ t10
  go_wp2_with fail
  refine (HEspec.out _ _ _ (f29.more y29_) (f30.more y30_)).mono ?_; rintro e w12 ⟨rfl, hb12⟩
  have s12_ := hb12.size
  have t12 := t11.trans (hb12.mono t11.size)
  have f35 := f29.step hb12 y29_
  have y35_ := Nat.le_trans y29_ s12_
  clear f29 y29_
  have f36 := f30.step hb12 y30_
  have y36_ := Nat.le_trans y30_ s12_
  clear f30 y30_
  have f37 := f31.step hb12
  have y37_ := Nat.le_trans y31_ s12_
  clear f31 y31_
  have f38 := f32.step hb12
  have y38_ := Nat.le_trans y32_ s12_
  clear f32 y32_
  have f39 := f33.step hb12
  have y39_ := Nat.le_trans y33_ s12_
  clear f33 y33_
  have f40 := f34.step hb12
  have y40_ := Nat.le_trans y34_ s12_
  clear f34 y34_
  clear hb12 s12_ t11
  go_wp2_with fail
  refine (HGimpl.out _ _ _ (f35.more y35_) (f36.more y36_)).mono ?_; rintro e w13 ⟨rfl, hb13⟩
  have s13_ := hb13.size
  have t13 := t12.trans (hb13.mono t12.size)
  have f41 := f35.step hb13 y35_
  have y41_ := Nat.le_trans y35_ s13_
  clear f35 y35_
  have f42 := f36.step hb13 y36_
  have y42_ := Nat.le_trans y36_ s13_
  clear f36 y36_
  have f43 := f37.step hb13
  have y43_ := Nat.le_trans y37_ s13_
  clear f37 y37_
  have f44 := f38.step hb13
  have y44_ := Nat.le_trans y38_ s13_
  clear f38 y38_
  have f45 := f39.step hb13
  have y45_ := Nat.le_trans y39_ s13_
  clear f39 y39_
  have f46 := f40.step hb13
  have y46_ := Nat.le_trans y40_ s13_
  clear f40 y40_
  clear hb13 s13_ t12
  go_wp2_with fail
  refine (HGspec.out _ _ _ (f41.more y41_) (f42.more y42_)).mono ?_; rintro e w14 ⟨rfl, hb14⟩
  have s14_ := hb14.size
  have t14 := t13.trans (hb14.mono t13.size)
  have f47 := f41.step hb14 y41_
  have y47_ := Nat.le_trans y41_ s14_
  clear f41 y41_
  have f48 := f42.step hb14 y42_
  have y48_ := Nat.le_trans y42_ s14_
  clear f42 y42_
  have f49 := f43.step hb14
  have y49_ := Nat.le_trans y43_ s14_
  clear f43 y43_
  have f50 := f44.step hb14
  have y50_ := Nat.le_trans y44_ s14_
  clear f44 y44_
  have f51 := f45.step hb14
  have y51_ := Nat.le_trans y45_ s14_
  clear f45 y45_
  have f52 := f46.step hb14
  have y52_ := Nat.le_trans y46_ s14_
  clear f46 y46_
  clear hb14 s14_ t13
  clear HAimpl HAspec HBimpl HBspec HCimpl HCspec HDimpl HDspec HEimpl HEspec HGimpl HGspec
  go_upto_region 16 with fail
  go_cut [215] from 215 to 215 (fun s_215 wx => s_215 = .bool false ∧ Below w14.heap.size w14 wx)
  case first =>
    have QA : RI w14 w14.heap.size d_u D := (f49.ri.more y49_)
    have QB : RI w14 w14.heap.size dr_u D := (f50.ri.more y50_)
    have QC : RI w14 w14.heap.size w_u W := (f51.ri.more y51_)
    have QE : RI w14 w14.heap.size wr_u W := (f52.ri.more y52_)
    have hd := HD.out
    clear HD HT
    rcases hd with ⟨rfl, rfl, rfl, rfl⟩ | ⟨rfl, rfl, rfl, rfl⟩ | ⟨rfl, rfl, rfl⟩
    ·
      as_aux_lemma =>
      go_wp2_with (first | (go_at_call 18; (with_reducible refine (kSame_any _ _ D _ _ QA QB hDl).mono ?_); rintro e wq ⟨rfl, hq1⟩; have QC2 := (QC.step hq1 (Nat.le_refl _)).more hq1.size; have QE2 := (QE.step hq1 (Nat.le_refl _)).more hq1.size; have HQ1 := Lib.hid hq1; clear hq1) | (go_at_call 18; (with_reducible refine (kSame_any _ _ W _ _ QC2 QE2 hWl).mono ?_); rintro e wp ⟨rfl, hq2⟩; have HQ2 := Lib.hid (HQ1.out.trans (hq2.mono HQ1.out.size)); clear hq2))
      go_meet
      exact ⟨by first | rfl | trivial | simp, HQ2.out⟩
    ·
      as_aux_lemma =>
      go_wp2_with (first | (go_at_call 18; (with_reducible refine (kSame_any _ _ D _ _ QA QB hDl).mono ?_); rintro e wq ⟨rfl, hq1⟩; have QC2 := (QC.step hq1 (Nat.le_refl _)).more hq1.size; have QE2 := (QE.step hq1 (Nat.le_refl _)).more hq1.size; have HQ1 := Lib.hid hq1; clear hq1) | (go_at_call 18; (with_reducible refine (kSame_any _ _ W _ _ QC2 QE2 hWl).mono ?_); rintro e wp ⟨rfl, hq2⟩; have HQ2 := Lib.hid (HQ1.out.trans (hq2.mono HQ1.out.size)); clear hq2))
      go_meet
      exact ⟨by first | rfl | trivial | simp, HQ2.out⟩
    · cases BU
      ·
        as_aux_lemma =>
        go_wp2_with (first | (go_at_call 18; (with_reducible refine (kSame_any _ _ D _ _ QA QB hDl).mono ?_); rintro e wq ⟨rfl, hq1⟩; have QC2 := (QC.step hq1 (Nat.le_refl _)).more hq1.size; have QE2 := (QE.step hq1 (Nat.le_refl _)).more hq1.size; have HQ1 := Lib.hid hq1; clear hq1) | (go_at_call 18; (with_reducible refine (kSame_any _ _ W _ _ QC2 QE2 hWl).mono ?_); rintro e wp ⟨rfl, hq2⟩; have HQ2 := Lib.hid (HQ1.out.trans (hq2.mono HQ1.out.size)); clear hq2))
        go_meet
        exact ⟨by first | rfl | trivial | simp, HQ2.out⟩
      ·
        as_aux_lemma =>
        go_wp2_with (first | (go_at_call 18; (with_reducible refine (kSame_any _ _ D _ _ QA QB hDl).mono ?_); rintro e wq ⟨rfl, hq1⟩; have QC2 := (QC.step hq1 (Nat.le_refl _)).more hq1.size; have QE2 := (QE.step hq1 (Nat.le_refl _)).more hq1.size; have HQ1 := Lib.hid hq1; clear hq1) | (go_at_call 18; (with_reducible refine (kSame_any _ _ W _ _ QC2 QE2 hWl).mono ?_); rintro e wp ⟨rfl, hq2⟩; have HQ2 := Lib.hid (HQ1.out.trans (hq2.mono HQ1.out.size)); clear hq2))
        go_meet
        exact ⟨by first | rfl | trivial | simp, HQ2.out⟩
  case rest =>
    obtain ⟨rfl, hb15⟩ := hcut
    have s15_ := hb15.size
    have t15 := t14.trans (hb15.mono t14.size)
    have f53 := f47.step hb15 y47_
    have y53_ := Nat.le_trans y47_ s15_
    clear f47 y47_
    have f54 := f48.step hb15 y48_
    have y54_ := Nat.le_trans y48_ s15_
    clear f48 y48_
    have f55 := f49.step hb15
    have y55_ := Nat.le_trans y49_ s15_
    clear f49 y49_
    have f56 := f50.step hb15
    have y56_ := Nat.le_trans y50_ s15_
    clear f50 y50_
    have f57 := f51.step hb15
    have y57_ := Nat.le_trans y51_ s15_
    clear f51 y51_
    have f58 := f52.step hb15
    have y58_ := Nat.le_trans y52_ s15_
    clear f52 y52_
    clear hb15 s15_ t14
    clear f56
    clear f58
    clear HD
    go_upto_if 216 with fail
    have z15 : Below wc.heap.size wc wc := Below.refl _ _
    cases TH
    · go_wp2_with fail
      go_ret
      exact ⟨rfl, t15⟩
    obtain ⟨G, S, Fi, lst, hf, e7, hFl, e8, hBU⟩ := HT.out rfl
    clear HT
    have HFi : Hid (∀ u w, RJbS w w.heap.size u l → Calls Try.prog 19 #[u] w (RetLB 3 w Fi true)) := by
      show ∀ u w, RJbS w w.heap.size u l → Calls Try.prog 19 #[u] w (RetLB 3 w Fi true)
      intro u w q
      have h5 := implFirstStarts_any u l w q (by omega)
      rw [e7] at h5
      exact h5
    have HWe : Hid (∀ u v w, RJbS w w.heap.size u l → RI w w.heap.size v Fi → Calls Try.prog 14 #[u, v] w (RetV w (.tuple #[.int .i64 lst, .bool true]))) := by
      show ∀ u v w, RJbS w w.heap.size u l → RI w w.heap.size v Fi → Calls Try.prog 14 #[u, v] w (RetV w (.tuple #[.int .i64 lst, .bool true]))
      intro u v w q r
      have h5 := implWeightedWait_any u v l Fi w q r (by omega) hFl
      rw [e8] at h5
      exact h5
    have H := Lib.hid hf
    have HBU := Lib.hid hBU
    clear hf e7 e8 hBU
    obtain ⟨Aj, cj, rfl, _, _, _⟩ := id (f53.more y53_)
    obtain ⟨As, cs, rfl, _, _⟩ := id (f54.more y54_)
    obtain ⟨Ad, cd, rfl, _, _⟩ := id (f55.ri.more y55_)
    obtain ⟨Aw, cw, rfl, _, _⟩ := id (f57.ri.more y57_)
    have hT0 := Lib.hid t15
    have QJ : RJbS wc wc.heap.size (.slice Aj l.length cj) l := (f53.more y53_)
    have QS : RI wc wc.heap.size (.slice As s.length cs) s := (f54.more y54_)
    have QD : RI wc wc.heap.size (.slice Ad D.length cd) D := (f55.ri.more y55_)
    have QW : RI wc wc.heap.size (.slice Aw W.length cw) W := (f57.ri.more y57_)
    have HQJ := Lib.hid QJ
    have HQS := Lib.hid QS
    have HQD := Lib.hid QD
    have HQW := Lib.hid QW
    clear QJ QS QD QW
    go_wp2_with fail
    go_loopw [31, 219] (fun u i wr => ∃ k0 : Nat, k0 ≤ W.length ∧ u = .int .i64 (G k0) ∧ i = .int .i64 k0 ∧ Below wc.heap.size wc wr) (fun _ i _ => W.length - (intOf i).toNat)
    case atStart => exact ⟨0, Nat.zero_le _, by rw [H.out.g0], rfl, Below.refl _ _⟩
    case round =>
      obtain ⟨k0, hk0, rfl, rfl, hT⟩ := hrel
      have HT := Lib.hid hT
      by_cases hlt : k0 < W.length
      · have hkI : (k0 : Int) < (W.length : Int) := by omega
        have hlW := H.out.lenW
        have hkl : k0 < l.length := by omega
        have hkJ : (k0 : Int) < (l.length : Int) := by omega
        have hwt := H.out.wait k0 hkl
        have hpr := H.out.prod k0 hkl
        have hgb := H.out.gb k0 (by omega)
        have hgs := H.out.gs k0 hkl
        obtain ⟨Aw, cw, hvw, _, hcellw⟩ := HQW.out.step hT (Nat.le_refl _)
        injection hvw with ew1 ew2 ew3
        subst ew1
        subst ew3
        obtain ⟨bw, oow, rfl, hbw, pw⟩ := hcellw (by omega)
        have xw := pw k0 (by omega)
        clear ew2 hcellw
        obtain ⟨_, _, _, hcj⟩ := RJbS.parts (l := l) (RK.step HQJ.out hT (Nat.le_refl _))
        obtain ⟨bj, oj, rfl, hbj, hcellj⟩ := hcj (by omega)
        have j2 := (hcellj k0 hkl).2.2
        clear hcj hcellj pw H hT hlW
        generalize l[k0]! = y at j2 hpr hgs
        obtain ⟨yt, yc, yl⟩ := y
        simp only at j2 hpr hgs
        generalize W.getD k0 0 = x at xw hwt hpr hgs
        obtain ⟨p, hp⟩ : ∃ p, x * yl = p := ⟨_, rfl⟩
        rw [hp] at hpr hgs
        have HG := Lib.hid hgs
        clear hgs
        generalize G k0 = gk at HG hgb ⊢
        obtain ⟨v1, v2⟩ := hwt
        obtain ⟨v3, v4⟩ := hpr
        obtain ⟨v5, v6⟩ := hgb
        have n1 : ¬ x < 0 := by omega
        have hw1 : IntKind.i64.wrap (x * yl) = p := by rw [hp]; exact IntWalk.i64_in _ (by omega)
        have hw2 : IntKind.i64.wrap (gk + p) = gk + p := IntWalk.i64_in _ (by omega)
        as_aux_lemma =>
        go_wp2_with fail
        go_roundw
        case rel => exact ⟨k0 + 1, by omega, by rw [HG.out], by go_num, HT.out⟩
        case measure => simp [intOf]; omega
      · have e9 : G k0 = wt := by
          rw [show k0 = l.length by have := H.out.lenW; omega]
          exact H.out.gw
        rw [e9]
        clear e9
        go_wp2_with fail
        go_loopw [34, 238] (fun u i wx => ∃ k1 : Nat, k1 ≤ D.length ∧ u = .int .i64 (S k1 : Nat) ∧ i = .int .i64 k1 ∧ ∃ n, wx = wr.drewN n) (fun _ i _ => D.length - (intOf i).toNat)
        case atStart => exact ⟨0, Nat.zero_le _, by rw [H.out.s0]; rfl, rfl, 0, by first | rfl | simp⟩
        case round =>
          obtain ⟨k1, hk1, rfl, rfl, nn, rfl⟩ := hrel
          by_cases hlt2 : k1 < D.length
          · have hkI : (k1 : Int) < (D.length : Int) := by omega
            have hlD := H.out.lenD
            have hlS := H.out.lenS
            have n20 := H.out.n20
            have hkl : k1 < l.length := by omega
            have hrg := H.out.rng k1 hkl
            have hbit := H.out.bit k1 hkl
            have hso := H.out.so k1 hkl
            have hsb := H.out.sb k1 (by omega)
            obtain ⟨d, hd⟩ : ∃ d : Nat, D.getD k1 0 = d := ⟨(D.getD k1 0).toNat, by omega⟩
            rw [hd] at hrg hbit hso
            have hdl : d < l.length := by omega
            have hdJ : (d : Int) < (l.length : Int) := by omega
            have hdS : (d : Int) < (s.length : Int) := by omega
            have hst := H.out.start d hdl
            obtain ⟨Ad, cd, hvd, _, hcelld⟩ := HQD.out.step hT (Nat.le_refl _)
            injection hvd with ed1 ed2 ed3
            subst ed1
            subst ed3
            obtain ⟨bd, ood, rfl, hbd, pd⟩ := hcelld (by omega)
            have xd := pd k1 (by omega)
            clear ed2 hcelld
            rw [hd] at xd
            obtain ⟨As, cs, hvs, _, hcells⟩ := HQS.out.step hT (Nat.le_refl _)
            injection hvs with es1 es2 es3
            subst es1
            subst es3
            obtain ⟨bs, oos, rfl, hbs, ps⟩ := hcells (by omega)
            have xs := ps d (by omega)
            clear es2 hcells
            obtain ⟨_, _, _, hcj⟩ := RJbS.parts (l := l) (RK.step HQJ.out hT (Nat.le_refl _))
            obtain ⟨bj, oj, rfl, hbj, hcellj⟩ := hcj (by omega)
            have hd20 : (d : Int) ≤ 19 := by omega
            have h64 : d ≤ 64 := by omega
            simp only [Int.toNat_natCast] at hbit hso
            obtain ⟨SN, hSN⟩ : ∃ SN, S (k1 + 1) = SN := ⟨_, rfl⟩
            rw [hSN] at hso
            have HSN0 := Lib.hid hSN
            clear hSN
            generalize S k1 = sn at hbit hso hsb ⊢
            have hPb : 2 ^ d < 1048576 := by
              have := Nat.pow_lt_pow_right (a := 2) (m := d) (n := 20) (by omega) (by omega)
              omega
            obtain ⟨P, hP⟩ : ∃ P : Nat, 2 ^ d = P := ⟨_, rfl⟩
            have hPi : (2 : Int) ^ d = (P : Int) := by rw [← hP]; push_cast; rfl
            rw [hP] at hbit hso hPb
            have hor : bits .or .i64 (sn : Int) (P : Int) = (SN : Int) := by rw [bits_or_i64_nat sn P hsb hPb, hso]
            obtain ⟨Z, hZ⟩ : ∃ Z : Nat, sn / P = Z := ⟨_, rfl⟩
            rw [hZ] at hbit
            have hZi : (sn : Int) / (P : Int) = (Z : Int) := by rw [← hZ]; push_cast; rfl
            have b1 : (Z : Int) % 2 = 0 := by omega
            have b2 : (Z : Int).tmod 2 = 0 := by rw [Int.tmod_eq_emod_of_nonneg (by omega)]; exact b1
            have hwP : IntKind.i64.wrap (P : Int) = (P : Int) := IntWalk.i64_in _ (by omega)
            have hwP1 : IntKind.i64.wrap (1 * (P : Int)) = (P : Int) := by rw [Int.one_mul]; exact hwP
            have HSN := Lib.hid hso
            clear hP hZ hso
            have n1 : decide ((d : Int) < 0) = false := decide_eq_false (by omega)
            have n2 : decide ((l.length : Int) ≤ (d : Int)) = false := decide_eq_false (by omega)
            have n2b : decide (l.length ≤ d) = false := decide_eq_false (by omega)
            have n2c : ¬ l.length ≤ d := by omega
            rcases Nat.eq_zero_or_pos k1 with e0 | e0
            · subst e0
              have xd0 : wr.cell? ⟨bd, ood, none⟩ = some (.int .i64 (d : Int)) := by simpa using xd
              have hkI0 : (0 : Int) < (D.length : Int) := by simpa using hkI
              clear H HQJ HQS HQD HQW pd ps hcj hcellj hlD hlS hd xd hkI
              as_aux_lemma =>
              go_wp2_with fail
              go_quiet (fail)
              go_wp2_with fail
              go_roundw
              case rel => exact ⟨0 + 1, by omega, by rw [HSN0.out], by go_num, _, rfl⟩
              case measure => simp [intOf]; omega
            · obtain ⟨q, rfl⟩ : ∃ q, k1 = q + 1 := ⟨k1 - 1, by omega⟩
              have n3 : decide ((0 : Int) < (q : Int) + 1) = true := decide_eq_true (by omega)
              have hkI1 : (q : Int) + 1 < (D.length : Int) := by omega
              have hch := H.out.chain q (by omega)
              have hrq := H.out.rng q (by omega)
              obtain ⟨dq, hdq⟩ : ∃ dq : Nat, D.getD q 0 = dq := ⟨(D.getD q 0).toNat, by omega⟩
              have xq := pd q (by omega)
              rw [hdq] at hch hrq xq
              rw [hd] at hch
              simp only [Int.toNat_natCast] at hch
              have hdql : dq < l.length := by omega
              have y1 := ps dq (by omega)
              have y2 := (hcellj dq hdql).2.2
              have y3 := H.out.start dq hdql
              have y4 := H.out.job dq hdql
              have hqD : (q : Int) < (D.length : Int) := by omega
              have hqS : (dq : Int) < (s.length : Int) := by omega
              have hqJ : (dq : Int) < (l.length : Int) := by omega
              have hwq2 : IntKind.i64.wrap (q : Int) = (q : Int) := IntWalk.i64_in _ (by omega)
              have hwq : IntKind.i64.wrap ((q : Int) + 1 - 1) = (q : Int) := by rw [IntWalk.i64_in _ (by omega)]; omega
              clear H HQJ HQS HQD HQW pd ps hcj hcellj hlD hlS hd hdq hkI
              generalize l[dq]! = z at y2 y4 hch
              obtain ⟨zt, zc, zl⟩ := z
              simp only at y2 y4 hch
              generalize s.getD dq 0 = sq at y1 y3 hch
              generalize s.getD d 0 = sd at xs hst hch
              have hwz : IntKind.i64.wrap (sq + zl) = sq + zl := IntWalk.i64_in _ (by omega)
              have n4 : decide (sd < sq + zl) = false := decide_eq_false (by omega)
              as_aux_lemma =>
              go_wp2_with fail
              go_quiet (fail)
              go_wp2_with fail
              go_roundw
              case rel => exact ⟨q + 1 + 1, by omega, by rw [HSN0.out], by go_num, _, rfl⟩
              case measure => simp [intOf]; omega
          · have hlD := H.out.lenD
            have e9 : ((D.length : Int) != (l.length : Int)) = false := by rw [hlD]; exact bne_self_eq_false _
            have e12 : (wt != wt) = false := bne_self_eq_false _
            have HB := Lib.hid (below_drewN HT.out nn)
            have qj : RJbS (wr.drewN nn) (wr.drewN nn).heap.size (.slice Aj l.length cj) l := RK.more (RK.step HQJ.out HB.out (Nat.le_refl _)) HB.out.size
            clear H HQJ HQS HQD HQW hT hlD
            generalize wr.drewN nn = WE at HB qj ⊢
            go_wp2_with fail
            refine (HFi.out _ _ qj).mono ?_; rintro e W1 ⟨f_u, rfl, o_f, hb1⟩
            have qj1 : RJbS W1 W1.heap.size (.slice Aj l.length cj) l := RK.more (RK.step qj hb1 (Nat.le_refl _)) hb1.size
            have qf := o_f.ri
            clear qj o_f
            go_wp2_with fail
            refine (HWe.out _ _ _ qj1 qf).mono ?_; rintro e W2 ⟨rfl, hb2⟩
            have HX := Lib.hid (HB.out.trans ((hb1.trans (hb2.mono hb1.size)).mono HB.out.size))
            clear qj1 qf hb1 hb2 HFi HWe
            cases BU
            · as_aux_lemma =>
              go_wp2_with fail
              go_ret
              exact ⟨by first | rfl | simp, hT0.out.trans (HX.out.mono hT0.out.size)⟩
            · have e10 := HBU.out rfl
              have e11 : (wt != lst) = false := by rw [e10]; exact bne_self_eq_false _
              clear e10
              as_aux_lemma =>
              go_wp2_with fail
              go_ret
              exact ⟨by first | rfl | simp, hT0.out.trans (HX.out.mono hT0.out.size)⟩
end Go.Proofs.Ytdlmacoblmnajaa
