/-
  FnBucketsKept: the walk.
-/
import Derived.Test.YtlanpfcjcafapaaKeptS
import Derived.Test.YtlanpfcjcafapaaCurM
import Derived.Test.YtlanpfcjcafapaaShC
import Derived.Test.YtlanpfcjcafapaaShD
import Derived.Test.YtlanpfcjcafapaaShG
import Derived.Test.YtlanpfcjcafapaaShH
import Derived.Test.YtlanpfcjcafapaaShI
import Derived.Test.YtlanpfcjcafapaaShJ
import Derived.Deep.RegionWith
import Derived.Deep.DeepCutAuto
import Derived.Deep.CutRange
namespace Go.Proofs.Ytlanpfcjcafapaa
open Go.RowKit
set_option maxRecDepth 100000
set_option linter.unusedVariables false

set_option maxHeartbeats 8000000 in
theorem walkBK (c m : Value) (cn mn : Nat) (w : World) (hc : RB w w.heap.size c cn) (hm : RB w w.heap.size m mn) :
    Calls Try.prog 4 #[c, m] w (RetV w (.bool true)) := by
  rcases Nat.lt_or_ge 1048576 (cn + mn) with hbig | hbig
  · have hbg := big_all c m cn mn _ w hc hm
    rw [show (decide ((1048576 : Int) < cn) || decide ((1048576 : Int) - cn < mn)) = true from by simp; omega] at hbg
    go_enter Try.func4, Try.ntmps4
    go_wp2_with fail
    refine hbg.mono ?_; rintro e w1 ⟨rfl, hb⟩
    go_wp2_with fail
    go_ret
    exact ⟨rfl, hb⟩
  have hbg := Lib.hid (big_any c m cn mn _ w hc hm hbig)
  have hcn : cn ≤ 1048576 := by omega
  have hmn : mn ≤ 1048576 := by omega
  have t0 : Below w.heap.size w w := Below.refl _ _
  go_enter Try.func4, Try.ntmps4
  go_wp2_with fail
  refine (hbg.out).mono ?_; rintro e w1 ⟨rfl, hb1⟩
  have s1_ := hb1.size
  have t1 := t0.trans (hb1.mono t0.size)
  clear hb1 s1_ t0
  go_wp2_with fail
  refine (drawLevelsOf_any c cn _ ((hc.below t1).more t1.size) hcn).mono ?_; rintro e w2 ⟨x0, u_t, l, rfl, hl, o_t, hb2⟩
  obtain ⟨br, bd⟩ := x0
  simp only [BuV]
  have s2_ := hb2.size
  have t2 := t1.trans (hb2.mono t1.size)
  clear hb2 s2_ t1
  have y1_ := Nat.le_refl w2.heap.size
  have hb3 : Below w2.heap.size w2 (w2.alloc (.cells #[.int .i64 br, .int .i64 bd] 36)) := (Below.refl _ _).alloc (Nat.le_refl _) _
  have x_b := BK.made w2 36 #[.int .i64 br, .int .i64 bd]
  have s3_ := hb3.size
  have t3 := t2.trans (hb3.mono t2.size)
  have f2 := o_t.step hb3
  have y2_ := Nat.le_trans y1_ s3_
  clear o_t y1_
  clear hb3 s3_ t2
  have hn : l.length ≤ 1048576 := by omega
  obtain ⟨LV, O, hLV⟩ : ∃ S O, (S, O) = lvSays ⟨br, bd⟩ l := ⟨_, _, rfl⟩
  obtain ⟨KB, K1, hKP⟩ : ∃ S O, (S, O) = kpSays ⟨br, bd⟩ l := ⟨_, _, rfl⟩
  obtain ⟨BR, B3, hBR⟩ : ∃ S O, (S, O) = brSays ⟨br, bd⟩ l := ⟨_, _, rfl⟩
  obtain ⟨GB, hGB⟩ : ∃ g, g = buOk ⟨br, bd⟩ := ⟨_, rfl⟩
  obtain ⟨GT, hGT⟩ : ∃ g, g = trOk l := ⟨_, rfl⟩
  have eK : K1 = (GB && GT) := by have := kp_snd ⟨br, bd⟩ l; rw [← hKP, ← hGB, ← hGT] at this; exact this
  have eO : O = (K1 && KB) := by have := lv_snd ⟨br, bd⟩ l; rw [← hLV, ← hKP] at this; exact this
  have eB : B3 = (K1 && !KB) := by have := br_snd ⟨br, bd⟩ l; rw [← hBR, ← hKP] at this; exact this
  have eKB : K1 = false → KB = false := fun h => by
    cases ha : askOk ⟨br, bd⟩ l
    · have : kpSays ⟨br, bd⟩ l = (false, false) := by simp [kpSays, ha]
      rw [this] at hKP; injection hKP
    · have : (kpSays ⟨br, bd⟩ l).2 = true := by simp [kpSays, ha]
      rw [← hKP] at this; rw [h] at this; cases this
  have hLl : LV.length ≤ 1048576 := by have := lvSays_len ⟨br, bd⟩ l; rw [← hLV] at this; exact this
  have hBl : BR.length ≤ 1048576 := by have := brSays_len ⟨br, bd⟩ l; rw [← hBR] at this; exact this
  have HLimpl : Hid (∀ u w, RI w w.heap.size u l → Calls Try.prog 34 #[.agg #[.int .i64 br, .int .i64 bd], u] w (RetLB 3 w LV O)) := by
    show ∀ u w, RI w w.heap.size u l → Calls Try.prog 34 #[.agg #[.int .i64 br, .int .i64 bd], u] w (RetLB 3 w LV O)
    intro u w q
    have h5 := implLevelsOf_any u ⟨br, bd⟩ l w q hn
    rw [← hLV] at h5
    exact h5
  have HKimpl : Hid (∀ u w, RI w w.heap.size u l → Calls Try.prog 19 #[.agg #[.int .i64 br, .int .i64 bd], u] w (RetV w (.tuple #[.bool KB, .bool K1]))) := by
    show ∀ u w, RI w w.heap.size u l → Calls Try.prog 19 #[.agg #[.int .i64 br, .int .i64 bd], u] w (RetV w (.tuple #[.bool KB, .bool K1]))
    intro u w q
    have h5 := implKeepsBucket_any u ⟨br, bd⟩ l w q hn
    rw [← hKP] at h5
    exact h5
  have HBimpl : Hid (∀ u w, RI w w.heap.size u l → Calls Try.prog 37 #[.agg #[.int .i64 br, .int .i64 bd], u] w (RetLB 3 w BR B3)) := by
    show ∀ u w, RI w w.heap.size u l → Calls Try.prog 37 #[.agg #[.int .i64 br, .int .i64 bd], u] w (RetLB 3 w BR B3)
    intro u w q
    have h5 := implFirstBreach_any u ⟨br, bd⟩ l w q hn
    rw [← hBR] at h5
    exact h5
  have HLspec : Hid (∀ u w, RI w w.heap.size u l → Calls Try.prog 35 #[.agg #[.int .i64 br, .int .i64 bd], u] w (RetLB 3 w LV O)) := by
    show ∀ u w, RI w w.heap.size u l → Calls Try.prog 35 #[.agg #[.int .i64 br, .int .i64 bd], u] w (RetLB 3 w LV O)
    intro u w q
    have h5 := specLevelsOf_any u ⟨br, bd⟩ l w q hn
    rw [← hLV] at h5
    exact h5
  have HKspec : Hid (∀ u w, RI w w.heap.size u l → Calls Try.prog 36 #[.agg #[.int .i64 br, .int .i64 bd], u] w (RetV w (.tuple #[.bool KB, .bool K1]))) := by
    show ∀ u w, RI w w.heap.size u l → Calls Try.prog 36 #[.agg #[.int .i64 br, .int .i64 bd], u] w (RetV w (.tuple #[.bool KB, .bool K1]))
    intro u w q
    have h5 := specKeepsBucket_any u ⟨br, bd⟩ l w q hn
    rw [← hKP] at h5
    exact h5
  have HBspec : Hid (∀ u w, RI w w.heap.size u l → Calls Try.prog 38 #[.agg #[.int .i64 br, .int .i64 bd], u] w (RetLB 3 w BR B3)) := by
    show ∀ u w, RI w w.heap.size u l → Calls Try.prog 38 #[.agg #[.int .i64 br, .int .i64 bd], u] w (RetLB 3 w BR B3)
    intro u w q
    have h5 := specFirstBreach_any u ⟨br, bd⟩ l w q hn
    rw [← hBR] at h5
    exact h5
  have HGB : Hid (∀ w, Calls Try.prog 39 #[.agg #[.int .i64 br, .int .i64 bd]] w (RetV w (.bool GB))) := by
    show ∀ w, Calls Try.prog 39 #[.agg #[.int .i64 br, .int .i64 bd]] w (RetV w (.bool GB))
    intro w
    have h5 := implIsBucket_any ⟨br, bd⟩ w
    rw [← hGB] at h5
    exact h5
  have HGT : Hid (∀ u w, RI w w.heap.size u l → Calls Try.prog 23 #[u] w (RetV w (.bool GT))) := by
    show ∀ u w, RI w w.heap.size u l → Calls Try.prog 23 #[u] w (RetV w (.bool GT))
    intro u w q
    have h5 := implIsTraffic_any u l w q hn
    rw [← hGT] at h5
    exact h5
  have XL := Lib.hid hLV
  have XK := Lib.hid hKP
  have XB := Lib.hid hBR
  have EK := Lib.hid eK
  have EO := Lib.hid eO
  have EB := Lib.hid eB
  have EKB := Lib.hid eKB
  clear hLV hKP hBR hGB hGT eK eO eB eKB
  have j3 := x_b.cell 0
  have j4 := x_b.cell 1
  simp at j3 j4
  go_wp2_with fail
  refine (HLimpl.out _ _ (f2.ri.more y2_)).mono ?_; rintro e w4 ⟨v_u, rfl, o_v, hb4⟩
  have s4_ := hb4.size
  have t4 := t3.trans (hb4.mono t3.size)
  clear j3 j4
  have f5 := f2.step hb4
  have y5_ := Nat.le_trans y2_ s4_
  clear f2 y2_
  have f6 := x_b.step hb4
  clear x_b
  clear hb4 s4_ t3
  have y7_ := Nat.le_refl w4.heap.size
  have j8 := f6.cell 0
  have j9 := f6.cell 1
  simp at j8 j9
  go_wp2_with fail
  refine (HLspec.out _ _ (f5.ri.more y5_)).mono ?_; rintro e w5 ⟨vr_u, rfl, o_vr, hb5⟩
  have s5_ := hb5.size
  have t5 := t4.trans (hb5.mono t4.size)
  clear j8 j9
  have f10 := f5.step hb5
  have y10_ := Nat.le_trans y5_ s5_
  clear f5 y5_
  have f11 := f6.step hb5
  clear f6
  have f12 := o_v.step hb5
  have y12_ := Nat.le_trans y7_ s5_
  clear o_v y7_
  clear hb5 s5_ t4
  have y13_ := Nat.le_refl w5.heap.size
  have j14 := f11.cell 0
  have j15 := f11.cell 1
  simp at j14 j15
  go_wp2_with fail
  refine (HKimpl.out _ _ (f10.ri.more y10_)).mono ?_; rintro e w6 ⟨rfl, hb6⟩
  have s6_ := hb6.size
  have t6 := t5.trans (hb6.mono t5.size)
  clear j14 j15
  have f16 := f10.step hb6
  have y16_ := Nat.le_trans y10_ s6_
  clear f10 y10_
  have f17 := f11.step hb6
  clear f11
  have f18 := f12.step hb6
  have y18_ := Nat.le_trans y12_ s6_
  clear f12 y12_
  have f19 := o_vr.step hb6
  have y19_ := Nat.le_trans y13_ s6_
  clear o_vr y13_
  clear hb6 s6_ t5
  have j20 := f17.cell 0
  have j21 := f17.cell 1
  simp at j20 j21
  go_wp2_with fail
  refine (HKspec.out _ _ (f16.ri.more y16_)).mono ?_; rintro e w7 ⟨rfl, hb7⟩
  have s7_ := hb7.size
  have t7 := t6.trans (hb7.mono t6.size)
  clear j20 j21
  have f22 := f16.step hb7
  have y22_ := Nat.le_trans y16_ s7_
  clear f16 y16_
  have f23 := f17.step hb7
  clear f17
  have f24 := f18.step hb7
  have y24_ := Nat.le_trans y18_ s7_
  clear f18 y18_
  have f25 := f19.step hb7
  have y25_ := Nat.le_trans y19_ s7_
  clear f19 y19_
  clear hb7 s7_ t6
  have j26 := f23.cell 0
  have j27 := f23.cell 1
  simp at j26 j27
  go_wp2_with fail
  refine (HBimpl.out _ _ (f22.ri.more y22_)).mono ?_; rintro e w8 ⟨f_u, rfl, o_f, hb8⟩
  have s8_ := hb8.size
  have t8 := t7.trans (hb8.mono t7.size)
  clear j26 j27
  have f28 := f22.step hb8
  have y28_ := Nat.le_trans y22_ s8_
  clear f22 y22_
  have f29 := f23.step hb8
  clear f23
  have f30 := f24.step hb8
  have y30_ := Nat.le_trans y24_ s8_
  clear f24 y24_
  have f31 := f25.step hb8
  have y31_ := Nat.le_trans y25_ s8_
  clear f25 y25_
  clear hb8 s8_ t7
  have y32_ := Nat.le_refl w8.heap.size
  have j33 := f29.cell 0
  have j34 := f29.cell 1
  simp at j33 j34
  go_wp2_with fail
  refine (HBspec.out _ _ (f28.ri.more y28_)).mono ?_; rintro e w9 ⟨fr_u, rfl, o_fr, hb9⟩
  have s9_ := hb9.size
  have t9 := t8.trans (hb9.mono t8.size)
  clear j33 j34
  have f35 := f28.step hb9
  have y35_ := Nat.le_trans y28_ s9_
  clear f28 y28_
  have f36 := f29.step hb9
  clear f29
  have f37 := f30.step hb9
  have y37_ := Nat.le_trans y30_ s9_
  clear f30 y30_
  have f38 := f31.step hb9
  have y38_ := Nat.le_trans y31_ s9_
  clear f31 y31_
  have f39 := o_f.step hb9
  have y39_ := Nat.le_trans y32_ s9_
  clear o_f y32_
  clear hb9 s9_ t8
  have y40_ := Nat.le_refl w9.heap.size
  go_upto_region 10 with fail
  have j41 := f36.cell 0
  have j42 := f36.cell 1
  simp at j41 j42
  go_cut [156] from 156 to 156 (fun s_156 wx => s_156 = .bool false ∧ Below w9.heap.size w9 wx)
  case first =>
    have QV : RI w9 w9.heap.size v_u LV := (f37.ri.more y37_)
    have QW : RI w9 w9.heap.size vr_u LV := (f38.ri.more y38_)
    have QF : RI w9 w9.heap.size f_u BR := (f39.ri.more y39_)
    have QG : RI w9 w9.heap.size fr_u BR := (o_fr.ri.more y40_)
    have QT : RI w9 w9.heap.size u_t l := (f35.ri.more y35_)
    have eK := EK.out
    have eO := EO.out
    have eB := EB.out
    have eKB := EKB.out
    cases GB
    · obtain rfl : K1 = false := by simpa using eK
      obtain rfl := eKB rfl
      obtain rfl : O = false := by simpa using eO
      obtain rfl : B3 = false := by simpa using eB
      clear eK eO eB eKB
      as_aux_lemma =>
      go_wp2_with (first | (go_at_call 14; (with_reducible refine (kSame_any _ _ LV _ _ QV QW hLl).mono ?_); rintro e wq ⟨rfl, hq1⟩; have sq1 := hq1.size; have QF2 := (QF.step hq1 (Nat.le_refl _)).more sq1; have QG2 := (QG.step hq1 (Nat.le_refl _)).more sq1; have QT2 := (QT.step hq1 (Nat.le_refl _)).more sq1; have BQ2 := f36.step hq1) | (go_at_call 14; (with_reducible refine (kSame_any _ _ BR _ _ QF2 QG2 hBl).mono ?_); rintro e wp ⟨rfl, hq2⟩; have sq2 := hq2.size; have QT3 := (QT2.step hq2 (Nat.le_refl _)).more sq2; have BQ3 := BQ2.step hq2; have a0 := BQ3.cell 0; have a1 := BQ3.cell 1; simp at a0 a1; have hq12 := hq1.trans (hq2.mono sq1)) | (go_at_call 39; refine (HGB.out _).mono ?_; rintro e wo ⟨rfl, hq3⟩; have sq3 := hq3.size; have QT4 := (QT3.step hq3 (Nat.le_refl _)).more sq3; have hq13 := hq12.trans (hq3.mono hq12.size)) | (go_at_call 23; refine (HGT.out _ _ QT4).mono ?_; rintro e wn ⟨rfl, hq4⟩; have hq14 := hq13.trans (hq4.mono hq13.size)))
      go_meet
      exact ⟨by first | rfl | trivial, hq13⟩
    cases GT
    · obtain rfl : K1 = false := by simpa using eK
      obtain rfl := eKB rfl
      obtain rfl : O = false := by simpa using eO
      obtain rfl : B3 = false := by simpa using eB
      clear eK eO eB eKB
      as_aux_lemma =>
      go_wp2_with (first | (go_at_call 14; (with_reducible refine (kSame_any _ _ LV _ _ QV QW hLl).mono ?_); rintro e wq ⟨rfl, hq1⟩; have sq1 := hq1.size; have QF2 := (QF.step hq1 (Nat.le_refl _)).more sq1; have QG2 := (QG.step hq1 (Nat.le_refl _)).more sq1; have QT2 := (QT.step hq1 (Nat.le_refl _)).more sq1; have BQ2 := f36.step hq1) | (go_at_call 14; (with_reducible refine (kSame_any _ _ BR _ _ QF2 QG2 hBl).mono ?_); rintro e wp ⟨rfl, hq2⟩; have sq2 := hq2.size; have QT3 := (QT2.step hq2 (Nat.le_refl _)).more sq2; have BQ3 := BQ2.step hq2; have a0 := BQ3.cell 0; have a1 := BQ3.cell 1; simp at a0 a1; have hq12 := hq1.trans (hq2.mono sq1)) | (go_at_call 39; refine (HGB.out _).mono ?_; rintro e wo ⟨rfl, hq3⟩; have sq3 := hq3.size; have QT4 := (QT3.step hq3 (Nat.le_refl _)).more sq3; have hq13 := hq12.trans (hq3.mono hq12.size)) | (go_at_call 23; refine (HGT.out _ _ QT4).mono ?_; rintro e wn ⟨rfl, hq4⟩; have hq14 := hq13.trans (hq4.mono hq13.size)))
      go_meet
      exact ⟨by first | rfl | trivial, hq14⟩
    obtain rfl : K1 = true := by simpa using eK
    cases KB
    · obtain rfl : O = false := by simpa using eO
      obtain rfl : B3 = true := by simpa using eB
      clear eK eO eB eKB
      as_aux_lemma =>
      go_wp2_with (first | (go_at_call 14; (with_reducible refine (kSame_any _ _ LV _ _ QV QW hLl).mono ?_); rintro e wq ⟨rfl, hq1⟩; have sq1 := hq1.size; have QF2 := (QF.step hq1 (Nat.le_refl _)).more sq1; have QG2 := (QG.step hq1 (Nat.le_refl _)).more sq1; have QT2 := (QT.step hq1 (Nat.le_refl _)).more sq1; have BQ2 := f36.step hq1) | (go_at_call 14; (with_reducible refine (kSame_any _ _ BR _ _ QF2 QG2 hBl).mono ?_); rintro e wp ⟨rfl, hq2⟩; have sq2 := hq2.size; have QT3 := (QT2.step hq2 (Nat.le_refl _)).more sq2; have BQ3 := BQ2.step hq2; have a0 := BQ3.cell 0; have a1 := BQ3.cell 1; simp at a0 a1; have hq12 := hq1.trans (hq2.mono sq1)) | (go_at_call 39; refine (HGB.out _).mono ?_; rintro e wo ⟨rfl, hq3⟩; have sq3 := hq3.size; have QT4 := (QT3.step hq3 (Nat.le_refl _)).more sq3; have hq13 := hq12.trans (hq3.mono hq12.size)) | (go_at_call 23; refine (HGT.out _ _ QT4).mono ?_; rintro e wn ⟨rfl, hq4⟩; have hq14 := hq13.trans (hq4.mono hq13.size)))
      go_meet
      exact ⟨by first | rfl | trivial, hq14⟩
    · obtain rfl : O = true := by simpa using eO
      obtain rfl : B3 = false := by simpa using eB
      clear eK eO eB eKB
      as_aux_lemma =>
      go_wp2_with (first | (go_at_call 14; (with_reducible refine (kSame_any _ _ LV _ _ QV QW hLl).mono ?_); rintro e wq ⟨rfl, hq1⟩; have sq1 := hq1.size; have QF2 := (QF.step hq1 (Nat.le_refl _)).more sq1; have QG2 := (QG.step hq1 (Nat.le_refl _)).more sq1; have QT2 := (QT.step hq1 (Nat.le_refl _)).more sq1; have BQ2 := f36.step hq1) | (go_at_call 14; (with_reducible refine (kSame_any _ _ BR _ _ QF2 QG2 hBl).mono ?_); rintro e wp ⟨rfl, hq2⟩; have sq2 := hq2.size; have QT3 := (QT2.step hq2 (Nat.le_refl _)).more sq2; have BQ3 := BQ2.step hq2; have a0 := BQ3.cell 0; have a1 := BQ3.cell 1; simp at a0 a1; have hq12 := hq1.trans (hq2.mono sq1)) | (go_at_call 39; refine (HGB.out _).mono ?_; rintro e wo ⟨rfl, hq3⟩; have sq3 := hq3.size; have QT4 := (QT3.step hq3 (Nat.le_refl _)).more sq3; have hq13 := hq12.trans (hq3.mono hq12.size)) | (go_at_call 23; refine (HGT.out _ _ QT4).mono ?_; rintro e wn ⟨rfl, hq4⟩; have hq14 := hq13.trans (hq4.mono hq13.size)))
      go_meet
      exact ⟨by first | rfl | trivial, hq14⟩
  case rest =>
    obtain ⟨rfl, hb10⟩ := hcut
    have s10_ := hb10.size
    have t10 := t9.trans (hb10.mono t9.size)
    clear j41 j42
    have f43 := f35.step hb10
    have y43_ := Nat.le_trans y35_ s10_
    clear f35 y35_
    have f44 := f36.step hb10
    clear f36
    have f45 := f37.step hb10
    have y45_ := Nat.le_trans y37_ s10_
    clear f37 y37_
    have f46 := f38.step hb10
    have y46_ := Nat.le_trans y38_ s10_
    clear f38 y38_
    have f47 := f39.step hb10
    have y47_ := Nat.le_trans y39_ s10_
    clear f39 y39_
    have f48 := o_fr.step hb10
    have y48_ := Nat.le_trans y40_ s10_
    clear o_fr y40_
    clear hb10 s10_ t9
    clear f46
    clear f48
    obtain ⟨At, ct, rfl, hct, _⟩ := id (f43.ri.more y43_)
    obtain ⟨Av, cv, rfl, hcv, _⟩ := id (f45.ri.more y45_)
    go_upto_if 157 with fail
    go_cut [] from 157 to 157 (fun wx => Below wc.heap.size wc wx)
    case first =>
      have z10 : Below wc.heap.size wc wc := Below.refl _ _
      cases O
      · go_wp2_with fail
        go_meet
        exact z10
      have hlv := lv_true (b := ⟨br, bd⟩) (l := l) (by rw [← XL.out])
      rw [← XL.out] at hlv
      obtain ⟨q1, q2, q3, q4⟩ := hlv
      simp only at q3
      have HLVe := Lib.hid q3
      have hLt : LV.length = l.length := by rw [q3]; exact lvT_length _ _ _
      have hLa : (l.length : Int) ≤ (LV.length : Int) := by omega
      have hLb : (LV.length : Int) ≤ (l.length : Int) := by omega
      clear q3 hLt
      have q5 := buOk_in q1
      simp only at q5
      have q6 := trOk_len q2
      obtain ⟨⟨r0, r1⟩, d0, d1⟩ := q5
      have hbt := f44
      have QT : RI wc wc.heap.size (.slice At l.length ct) l := (f43.ri.more y43_)
      have QV : RI wc wc.heap.size (.slice Av LV.length cv) LV := (f45.ri.more y45_)
      have HQ4 := Lib.hid q4
      have HQ2 := Lib.hid q2
      have HB := Lib.hid hbt
      have hlen : (l.length : Int) ≤ 40 := by omega
      clear q4 hbt q1 q2
      go_wp2_with fail
      go_loopw [160] (fun i wr => ∃ j : Nat, j ≤ l.length ∧ i = .int .i64 j ∧ Below wc.heap.size wc wr) (fun i _ => l.length - (intOf i).toNat)
      case atStart => exact ⟨0, Nat.zero_le _, rfl, Below.refl _ _⟩
      case round =>
        obtain ⟨j, hj, rfl, hB⟩ := hrel
        have HBB := Lib.hid hB
        by_cases hlt : j < l.length
        · obtain ⟨A2, c2, hv2, _, hcell⟩ := (QT.step hB (Nat.le_refl _))
          injection hv2 with e1 e2 e3
          subst e1
          obtain ⟨b1, o1, rfl, _, p1⟩ := hcell (by omega)
          obtain ⟨A3, c3, hv3, _, hcell3⟩ := (QV.step hB (Nat.le_refl _))
          injection hv3 with e4 e5 e6
          subst e4
          obtain ⟨b2, o2, rfl, _, p2⟩ := hcell3 (by omega)
          have b9 := HB.out.step hB
          have g0 := b9.cell 0
          have g1 := b9.cell 1
          simp at g0 g1
          have h4 := HQ4.out j hlt
          have h5 := trOk_at HQ2.out j
          have x1 := p1 j hlt
          have x2 := p2 j (by omega)
          rw [HLVe.out, lvT_at _ _ _ _ hlt] at x2
          cases j with
          | zero =>
            generalize l.getD 0 0 = a at x1 h4 h5
            generalize lvN ⟨br, bd⟩ l 0 = A at x2 h4
            obtain ⟨m1, m2, m3⟩ := h4
            clear hcell hcell3 p1 p2 b9 hB e2 e3 e5 e6
            have hj0 : (0 : Int) < (LV.length : Int) := by omega
            simp only [Nat.add_zero] at x1 x2
            have n1 : decide (A < a) = false := by simp; omega
            have n2 : decide (bd < A) = false := by simp; omega
            go_wp2_with fail
            go_quiet (fail)
            go_wp2
            go_roundw
            case rel => exact ⟨1, by omega, by go_num, below_drewN HBB.out _⟩
            case measure => simp [intOf]; omega
          | succ p =>
            have hpl : p < l.length := by omega
            have y1 := p1 p hpl
            have y2 := p2 p (by omega)
            rw [HLVe.out, lvT_at _ _ _ _ hpl] at y2
            have h6 : lvN ⟨br, bd⟩ l (p + 1) ≤ lvN ⟨br, bd⟩ l p - l.getD p 0 + br := by simp only [lvN]; omega
            have h7 := trOk_at HQ2.out p
            have h8 := HQ4.out p hpl
            generalize l.getD (p + 1) 0 = a at x1 h4 h5
            generalize l.getD p 0 = a1 at y1 h6 h7 h8
            generalize lvN ⟨br, bd⟩ l (p + 1) = A at x2 h4 h6
            generalize lvN ⟨br, bd⟩ l p = A1 at y2 h6 h8
            obtain ⟨m1, m2, m3⟩ := h4
            obtain ⟨m4, m5, m6⟩ := h8
            clear hcell hcell3 p1 p2 b9 hB e2 e3 e5 e6
            have hj0 : (p : Int) + 1 < (LV.length : Int) := by omega
            have hj1 : (p : Int) + 1 < (l.length : Int) := by omega
            have hj2 : (p : Int) < (LV.length : Int) := by omega
            have n1 : decide (A < a) = false := by simp; omega
            have n2 : decide (bd < A) = false := by simp; omega
            have n3 : decide (A1 - a1 + br < A) = false := by simp; omega
            go_wp2_with fail
            go_quiet (fail)
            go_wp2
            go_roundw
            case rel => exact ⟨p + 2, by omega, by go_num, below_drewN HBB.out _⟩
            case measure => simp [intOf]; omega
        · obtain rfl : j = l.length := by omega
          clear hB
          go_wp2_with fail
          go_meet
          exact HBB.out
    case rest =>
      have hb11 := hcut
      clear hcut
      have s11_ := hb11.size
      have t11 := t10.trans (hb11.mono t10.size)
      have f49 := f43.step hb11
      have y49_ := Nat.le_trans y43_ s11_
      clear f43 y43_
      have f50 := f44.step hb11
      clear f44
      have f51 := f45.step hb11
      have y51_ := Nat.le_trans y45_ s11_
      clear f45 y45_
      have f52 := f47.step hb11
      have y52_ := Nat.le_trans y47_ s11_
      clear f47 y47_
      clear hb11 s11_ t10
      go_upto_if 206 with fail
      go_cut [] from 206 to 206 (fun wx => Below wc.heap.size wc wx)
      case first =>
        have z11 : Below wc.heap.size wc wc := Below.refl _ _
        cases B3
        · go_wp2_with fail
          go_meet
          exact z11
        have hb := br_true (b := ⟨br, bd⟩) (l := l) (by rw [← XB.out])
        rw [← XB.out] at hb
        obtain ⟨k1, k2, t, k, i1, i2, i3, i4, i5⟩ := hb
        simp only at i3 i4
        obtain ⟨s, rfl⟩ : ∃ s, t = s + k := ⟨t - k, by omega⟩
        rw [show s + k - k = s by omega] at i4
        have i3' : BR = [(s : Int), (s : Int) + (k : Int)] := by
          rw [i3, show ((s + k : Nat) : Int) - (k : Int) = (s : Int) by omega, show ((s + k : Nat) : Int) = (s : Int) + (k : Int) by omega]
        have q5 := buOk_in k1
        simp only at q5
        have q6 := trOk_len k2
        obtain ⟨⟨r0, r1⟩, d0, d1⟩ := q5
        have hsm := win_sum k2 s (k + 1)
        have hml : ((l.drop s).take (k + 1)).length ≤ 1000 := by simp; omega
        have hmm : ∀ x ∈ (l.drop s).take (k + 1), 0 ≤ x ∧ x ≤ 100000 := fun x hx => by have := win_in k2 s (k + 1) x hx; omega
        obtain ⟨S, hS⟩ : ∃ S, S = sumL ((l.drop s).take (k + 1)) := ⟨_, rfl⟩
        rw [← hS] at i4 hsm
        have hk40 : (k : Int) ≤ 40 := by omega
        have hP1 : 0 ≤ br * (k : Int) := Int.mul_nonneg (by omega) (by omega)
        have hP2 : br * (k : Int) ≤ 100 * 40 := Int.mul_le_mul r1 hk40 (by omega) (by omega)
        have HKS : Hid (∀ u w, RI w w.heap.size u ((l.drop s).take (k + 1)) → Calls Try.prog 17 #[u] w (fun e w' => e = .returned (.int .i64 S) ∧ w' = w)) := by
          intro u w q
          have h5 := kSum_any u _ w q hml hmm
          rw [← hS] at h5
          exact h5.mono fun _ _ h => ⟨h.1, h.2.symm⟩
        have HK1 : Hid (∀ u w, RI w w.heap.size u (l.take (s + k)) → Calls Try.prog 19 #[.agg #[.int .i64 br, .int .i64 bd], u] w (RetV w (.tuple #[.bool true, .bool true]))) := by
          intro u w q
          have h5 := implKeepsBucket_any u ⟨br, bd⟩ (l.take (s + k)) w q (by simp; omega)
          rw [i5] at h5
          exact h5
        clear hS hml hmm i5 k1 k2
        have hbt := f50
        have QT : RI wc wc.heap.size (.slice At l.length ct) l := (f49.ri.more y49_)
        have QF : RI wc wc.heap.size f_u BR := (f52.ri.more y52_)
        rw [i3'] at QF
        obtain ⟨Af, cf, hfe, hcf, hcellf⟩ := QF
        simp only [List.length_cons, List.length_nil] at hfe hcellf
        subst hfe
        obtain ⟨bf, off, rfl, _, pf⟩ := hcellf (by omega)
        have f0 := pf 0 (by omega)
        have f1 := pf 1 (by omega)
        simp at f0 f1
        clear pf hcellf hcf i3 i3'
        have QT2 := QT
        obtain ⟨At2, ct2, hv2, hlt2, hcellt⟩ := QT
        injection hv2 with e1 e2 e3
        subst e1
        subst e3
        obtain ⟨bt, ot, rfl, _, _⟩ := hcellt (by omega)
        have QW := QT2.win s (k + 1) (by omega) (by omega)
        have QU := QT2.front (s + k) (by omega)
        have hn' : (l.length : Int) ≤ 40 := by omega
        have hcl : (l.length : Int) ≤ (ct : Int) := by omega
        have g0 := hbt.cell 0
        have g1 := hbt.cell 1
        simp at g0 g1
        obtain ⟨P, hP⟩ : ∃ P, P = br * (k : Int) := ⟨_, rfl⟩
        rw [← hP] at hP1 hP2 i4
        have n1 : decide (S ≤ bd + P) = false := by simp; omega
        obtain ⟨T, hT⟩ : ∃ T, T = s + k := ⟨_, rfl⟩
        rw [← hT] at QU HK1
        rw [show (s : Int) + (k : Int) = (T : Int) by omega] at f1
        have n3 : IntKind.i64.wrap ((T : Int) - (s : Int)) = (k : Int) := by rw [show (T : Int) - (s : Int) = (k : Int) by omega]; exact IntWalk.i64_in _ (by omega)
        have n4 : IntKind.i64.wrap (br * (k : Int)) = P := by rw [← hP]; exact IntWalk.i64_in _ (by omega)
        have n5 : IntKind.i64.wrap (bd + P) = bd + P := IntWalk.i64_in _ (by omega)
        have n6 : IntKind.i64.wrap ((T : Int) + 1) = (T : Int) + 1 := IntWalk.i64_in _ (by omega)
        have m1 : (T : Int) + 1 ≤ (l.length : Int) := by omega
        have m2 : (T : Int) + 1 ≤ (ct : Int) := by omega
        have m3 : (s : Int) ≤ (T : Int) + 1 := by omega
        have m4 : ¬ (ct = s) := by omega
        have m5 : T + 1 - s = k + 1 := by omega
        have m6 : (T : Int) ≤ (ct : Int) := by omega
        clear hT
        clear QT2 hcellt hlt2 hP i1 i2
        have HQW := Lib.hid QW
        have HQU := Lib.hid QU
        clear QW QU
        go_wp2_with fail
        go_quiet (fail)
        go_wp2_with fail
        go_quiet ((go_at_call 17; refine (HKS.out _ _ (RI.drewN HQW.out _)).mono ?_; rintro e wq ⟨rfl, rfl⟩; exact ⟨rfl, _, rfl⟩))
        go_wp2_with fail
        go_region_with (go_at_call 19; refine (HK1.out _ _ (RI.drewN HQU.out _)).mono ?_; rintro e w7 ⟨rfl, hq⟩)
        all_goals
          go_wp2_with fail
          go_meet
          exact (below_drewN (Below.refl _ _) _).trans hq
      case rest =>
        have hb12 := hcut
        clear hcut
        have s12_ := hb12.size
        have t12 := t11.trans (hb12.mono t11.size)
        have f53 := f49.step hb12
        have y53_ := Nat.le_trans y49_ s12_
        clear f49 y49_
        have f54 := f50.step hb12
        clear f50
        have f55 := f51.step hb12
        have y55_ := Nat.le_trans y51_ s12_
        clear f51 y51_
        have f56 := f52.step hb12
        have y56_ := Nat.le_trans y52_ s12_
        clear f52 y52_
        clear hb12 s12_ t11
        clear f54
        clear f53
        clear f55
        clear f56
        clear HLimpl HLspec HKimpl HKspec HBimpl HBspec HGB HGT XL XK XB EK EO EB EKB
        go_wp2_with fail
        refine (drawLeastDepth_any m mn _ ((hm.below t12).more t12.size) hmn).mono ?_; rintro e w13 ⟨Na, ua_, la, rfl, hNa, hla, o_a, hb13⟩
        have s13_ := hb13.size
        have t13 := t12.trans (hb13.mono t12.size)
        clear hb13 s13_ t12
        have y57_ := Nat.le_refl w13.heap.size
        have hna : la.length ≤ 1048576 := by omega
        have hwa : (Lit.int .i64 Na).wf = true := WalkArith.wf_i64 (by omega)
        obtain ⟨Da, Ea, hDa⟩ : ∃ S O, (S, O) = depSays Na la := ⟨_, _, rfl⟩
        have HDaimpl : Hid (∀ u w, RI w w.heap.size u la → Calls Try.prog 41 #[.int .i64 Na, u] w (RetV w (.tuple #[.int .i64 Da, .bool Ea]))) := by
          show ∀ u w, RI w w.heap.size u la → Calls Try.prog 41 #[.int .i64 Na, u] w (RetV w (.tuple #[.int .i64 Da, .bool Ea]))
          intro u w q
          have h5 := implLeastDepth_any u Na la w q hna hwa
          rw [← hDa] at h5
          exact h5
        have HDaspec : Hid (∀ u w, RI w w.heap.size u la → Calls Try.prog 42 #[.int .i64 Na, u] w (RetV w (.tuple #[.int .i64 Da, .bool Ea]))) := by
          show ∀ u w, RI w w.heap.size u la → Calls Try.prog 42 #[.int .i64 Na, u] w (RetV w (.tuple #[.int .i64 Da, .bool Ea]))
          intro u w q
          have h5 := specLeastDepth_any u Na la w q hna hwa
          rw [← hDa] at h5
          exact h5
        have XDa := Lib.hid hDa
        clear hDa hwa
        go_wp2_with fail
        refine (HDaimpl.out _ _ (o_a.ri.more y57_)).mono ?_; rintro e w14 ⟨rfl, hb14⟩
        have s14_ := hb14.size
        have t14 := t13.trans (hb14.mono t13.size)
        have f58 := o_a.step hb14
        have y58_ := Nat.le_trans y57_ s14_
        clear o_a y57_
        clear hb14 s14_ t13
        go_wp2_with fail
        refine (HDaspec.out _ _ (f58.ri.more y58_)).mono ?_; rintro e w15 ⟨rfl, hb15⟩
        have s15_ := hb15.size
        have t15 := t14.trans (hb15.mono t14.size)
        have f59 := f58.step hb15
        have y59_ := Nat.le_trans y58_ s15_
        clear f58 y58_
        clear hb15 s15_ t14
        go_upto_region 29 with fail
        go_cut [267] from 267 to 267 (fun s_267 wx => s_267 = .bool false ∧ Below w15.heap.size w15 wx)
        case first =>
          as_aux_lemma =>
          go_wp2_with fail
          go_meet
          exact ⟨by first | rfl | trivial | simp, Below.refl _ _⟩
        case rest =>
          obtain ⟨rfl, hb16⟩ := hcut
          have s16_ := hb16.size
          have t16 := t15.trans (hb16.mono t15.size)
          have f60 := f59.step hb16
          have y60_ := Nat.le_trans y59_ s16_
          clear f59 y59_
          clear hb16 s16_ t15
          go_upto_if 268 with fail
          go_cut [] from 268 to 268 (fun wx => Below wc.heap.size wc wx)
          case first =>
            have z16 : Below wc.heap.size wc wc := Below.refl _ _
            cases Ea
            · go_wp2_with fail
              go_meet
              exact z16
            have hd := dep_true (by rw [← XDa.out] : (depSays Na la).2 = true)
            rw [← XDa.out] at hd
            obtain ⟨k1, k2, k3, k4⟩ := hd
            simp only at k1 k2 k3 k4
            have HK1 : Hid (∀ u w, RI w w.heap.size u la → Calls Try.prog 19 #[.agg #[.int .i64 Na, .int .i64 Da], u] w (RetV w (.tuple #[.bool true, .bool true]))) := by
              intro u w q
              have h5 := implKeepsBucket_any u ⟨Na, Da⟩ la w q hna
              rw [k1] at h5
              exact h5
            obtain ⟨K8, hK8⟩ : ∃ k, k = (kpSays ⟨Na, (Da - 1)⟩ la).2 := ⟨_, rfl⟩
            have HK2 : Hid (∀ u w, RI w w.heap.size u la → Calls Try.prog 19 #[.agg #[.int .i64 Na, .int .i64 (Da - 1)], u] w (RetV w (.tuple #[.bool false, .bool K8]))) := by
              intro u w q
              have h5 := implKeepsBucket_any u ⟨Na, (Da - 1)⟩ la w q hna
              rw [k2, ← hK8] at h5
              exact h5
            clear k1 k2 hK8
            go_wp2_with fail
            refine (HK1.out _ _ (f60.ri.more y60_)).mono ?_; rintro e w17 ⟨rfl, hb17⟩
            have s17_ := hb17.size
            have t17 := t16.trans (hb17.mono t16.size)
            have f61 := f60.step hb17
            have y61_ := Nat.le_trans y60_ s17_
            clear f60 y60_
            have z17 := z16.trans (hb17.mono z16.size)
            clear hb17 s17_ t16 z16
            go_wp2_with fail
            refine (HK2.out _ _ (f61.ri.more y61_)).mono ?_; rintro e w18 ⟨rfl, hb18⟩
            have s18_ := hb18.size
            have t18 := t17.trans (hb18.mono t17.size)
            have f62 := f61.step hb18
            have y62_ := Nat.le_trans y61_ s18_
            clear f61 y61_
            have z18 := z17.trans (hb18.mono z17.size)
            clear hb18 s18_ t17 z17
            cases K8 <;> (go_wp2_with fail; go_meet; exact z18)
          case rest =>
            have hb17 := hcut
            clear hcut
            have s17_ := hb17.size
            have t17 := t16.trans (hb17.mono t16.size)
            have f63 := f60.step hb17
            have y63_ := Nat.le_trans y60_ s17_
            clear f60 y60_
            clear hb17 s17_ t16
            clear f63
            clear HDaimpl HDaspec XDa
            go_wp2_with fail
            refine (drawLeastRate_any m mn _ ((hm.below t17).more t17.size) hmn).mono ?_; rintro e w18 ⟨Nb, ub_, lb, rfl, hNb, hlb, o_b, hb18⟩
            have s18_ := hb18.size
            have t18 := t17.trans (hb18.mono t17.size)
            clear hb18 s18_ t17
            have y64_ := Nat.le_refl w18.heap.size
            have hnb : lb.length ≤ 1048576 := by omega
            have hwb : (Lit.int .i64 Nb).wf = true := WalkArith.wf_i64 (by omega)
            obtain ⟨Db, Eb, hDb⟩ : ∃ S O, (S, O) = rateSays Nb lb := ⟨_, _, rfl⟩
            have HDbimpl : Hid (∀ u w, RI w w.heap.size u lb → Calls Try.prog 44 #[.int .i64 Nb, u] w (RetV w (.tuple #[.int .i64 Db, .bool Eb]))) := by
              show ∀ u w, RI w w.heap.size u lb → Calls Try.prog 44 #[.int .i64 Nb, u] w (RetV w (.tuple #[.int .i64 Db, .bool Eb]))
              intro u w q
              have h5 := implLeastRate_any u Nb lb w q hnb hwb
              rw [← hDb] at h5
              exact h5
            have HDbspec : Hid (∀ u w, RI w w.heap.size u lb → Calls Try.prog 45 #[.int .i64 Nb, u] w (RetV w (.tuple #[.int .i64 Db, .bool Eb]))) := by
              show ∀ u w, RI w w.heap.size u lb → Calls Try.prog 45 #[.int .i64 Nb, u] w (RetV w (.tuple #[.int .i64 Db, .bool Eb]))
              intro u w q
              have h5 := specLeastRate_any u Nb lb w q hnb hwb
              rw [← hDb] at h5
              exact h5
            have XDb := Lib.hid hDb
            clear hDb hwb
            go_wp2_with fail
            refine (HDbimpl.out _ _ (o_b.ri.more y64_)).mono ?_; rintro e w19 ⟨rfl, hb19⟩
            have s19_ := hb19.size
            have t19 := t18.trans (hb19.mono t18.size)
            have f65 := o_b.step hb19
            have y65_ := Nat.le_trans y64_ s19_
            clear o_b y64_
            clear hb19 s19_ t18
            go_wp2_with fail
            refine (HDbspec.out _ _ (f65.ri.more y65_)).mono ?_; rintro e w20 ⟨rfl, hb20⟩
            have s20_ := hb20.size
            have t20 := t19.trans (hb20.mono t19.size)
            have f66 := f65.step hb20
            have y66_ := Nat.le_trans y65_ s20_
            clear f65 y65_
            clear hb20 s20_ t19
            go_upto_region 39 with fail
            go_cut [322] from 322 to 322 (fun s_322 wx => s_322 = .bool false ∧ Below w20.heap.size w20 wx)
            case first =>
              as_aux_lemma =>
              go_wp2_with fail
              go_meet
              exact ⟨by first | rfl | trivial | simp, Below.refl _ _⟩
            case rest =>
              obtain ⟨rfl, hb21⟩ := hcut
              have s21_ := hb21.size
              have t21 := t20.trans (hb21.mono t20.size)
              have f67 := f66.step hb21
              have y67_ := Nat.le_trans y66_ s21_
              clear f66 y66_
              clear hb21 s21_ t20
              go_upto_if 323 with fail
              go_cut [] from 323 to 323 (fun wx => Below wc.heap.size wc wx)
              case first =>
                have z21 : Below wc.heap.size wc wc := Below.refl _ _
                cases Eb
                · go_wp2_with fail
                  go_meet
                  exact z21
                have hd := rate_true (by rw [← XDb.out] : (rateSays Nb lb).2 = true)
                rw [← XDb.out] at hd
                obtain ⟨k1, k2, k3, k4⟩ := hd
                simp only at k1 k2 k3 k4
                have HK1 : Hid (∀ u w, RI w w.heap.size u lb → Calls Try.prog 19 #[.agg #[.int .i64 Db, .int .i64 Nb], u] w (RetV w (.tuple #[.bool true, .bool true]))) := by
                  intro u w q
                  have h5 := implKeepsBucket_any u ⟨Db, Nb⟩ lb w q hnb
                  rw [k1] at h5
                  exact h5
                obtain ⟨K8, hK8⟩ : ∃ k, k = (kpSays ⟨(Db - 1), Nb⟩ lb).2 := ⟨_, rfl⟩
                have HK2 : Hid (∀ u w, RI w w.heap.size u lb → Calls Try.prog 19 #[.agg #[.int .i64 (Db - 1), .int .i64 Nb], u] w (RetV w (.tuple #[.bool false, .bool K8]))) := by
                  intro u w q
                  have h5 := implKeepsBucket_any u ⟨(Db - 1), Nb⟩ lb w q hnb
                  rw [k2, ← hK8] at h5
                  exact h5
                clear k1 k2 hK8
                go_wp2_with fail
                refine (HK1.out _ _ (f67.ri.more y67_)).mono ?_; rintro e w22 ⟨rfl, hb22⟩
                have s22_ := hb22.size
                have t22 := t21.trans (hb22.mono t21.size)
                have f68 := f67.step hb22
                have y68_ := Nat.le_trans y67_ s22_
                clear f67 y67_
                have z22 := z21.trans (hb22.mono z21.size)
                clear hb22 s22_ t21 z21
                go_wp2_with fail
                refine (HK2.out _ _ (f68.ri.more y68_)).mono ?_; rintro e w23 ⟨rfl, hb23⟩
                have s23_ := hb23.size
                have t23 := t22.trans (hb23.mono t22.size)
                have f69 := f68.step hb23
                have y69_ := Nat.le_trans y68_ s23_
                clear f68 y68_
                have z23 := z22.trans (hb23.mono z22.size)
                clear hb23 s23_ t22 z22
                cases K8 <;> (go_wp2_with fail; go_meet; exact z23)
              case rest =>
                have hb22 := hcut
                clear hcut
                have s22_ := hb22.size
                have t22 := t21.trans (hb22.mono t21.size)
                have f70 := f67.step hb22
                have y70_ := Nat.le_trans y67_ s22_
                clear f67 y67_
                clear hb22 s22_ t21
                clear f70
                clear HDbimpl HDbspec XDb
                go_wp2_with fail
                refine (drawKeepsBoth_any m mn _ ((hm.below t22).more t22.size) hmn).mono ?_; rintro e w23 ⟨x0, x1, u_z, lz, rfl, hlz, o_z, hb23⟩
                obtain ⟨xr, xd⟩ := x0
                obtain ⟨yr, yd⟩ := x1
                simp only [BuV]
                have s23_ := hb23.size
                have t23 := t22.trans (hb23.mono t22.size)
                clear hb23 s23_ t22
                have y71_ := Nat.le_refl w23.heap.size
                have hb24 : Below w23.heap.size w23 (w23.alloc (.cells #[.int .i64 xr, .int .i64 xd] 36)) := (Below.refl _ _).alloc (Nat.le_refl _) _
                have x_x := BK.made w23 36 #[.int .i64 xr, .int .i64 xd]
                have s24_ := hb24.size
                have t24 := t23.trans (hb24.mono t23.size)
                have f72 := o_z.step hb24
                have y72_ := Nat.le_trans y71_ s24_
                clear o_z y71_
                clear hb24 s24_ t23
                have hb25 : Below (w23.alloc (.cells #[.int .i64 xr, .int .i64 xd] 36)).heap.size (w23.alloc (.cells #[.int .i64 xr, .int .i64 xd] 36)) ((w23.alloc (.cells #[.int .i64 xr, .int .i64 xd] 36)).alloc (.cells #[.int .i64 yr, .int .i64 yd] 36)) := (Below.refl _ _).alloc (Nat.le_refl _) _
                have x_y := BK.made (w23.alloc (.cells #[.int .i64 xr, .int .i64 xd] 36)) 36 #[.int .i64 yr, .int .i64 yd]
                have s25_ := hb25.size
                have t25 := t24.trans (hb25.mono t24.size)
                have f73 := f72.step hb25
                have y73_ := Nat.le_trans y72_ s25_
                clear f72 y72_
                have f74 := x_x.step hb25
                clear x_x
                clear hb25 s25_ t24
                have hnz : lz.length ≤ 1048576 := by omega
                obtain ⟨BO, E9, hBO⟩ : ∃ S O, (S, O) = bothSays ⟨xr, xd⟩ ⟨yr, yd⟩ lz := ⟨_, _, rfl⟩
                have HOimpl : Hid (∀ u w, RI w w.heap.size u lz → Calls Try.prog 47 #[.agg #[.int .i64 xr, .int .i64 xd], .agg #[.int .i64 yr, .int .i64 yd], u] w (RetV w (.tuple #[.bool BO, .bool E9]))) := by
                  show ∀ u w, RI w w.heap.size u lz → Calls Try.prog 47 #[.agg #[.int .i64 xr, .int .i64 xd], .agg #[.int .i64 yr, .int .i64 yd], u] w (RetV w (.tuple #[.bool BO, .bool E9]))
                  intro u w q
                  have h5 := implKeepsBoth_any u ⟨xr, xd⟩ ⟨yr, yd⟩ lz w q hnz
                  rw [← hBO] at h5
                  exact h5
                have HOspec : Hid (∀ u w, RI w w.heap.size u lz → Calls Try.prog 48 #[.agg #[.int .i64 xr, .int .i64 xd], .agg #[.int .i64 yr, .int .i64 yd], u] w (RetV w (.tuple #[.bool BO, .bool E9]))) := by
                  show ∀ u w, RI w w.heap.size u lz → Calls Try.prog 48 #[.agg #[.int .i64 xr, .int .i64 xd], .agg #[.int .i64 yr, .int .i64 yd], u] w (RetV w (.tuple #[.bool BO, .bool E9]))
                  intro u w q
                  have h5 := specKeepsBoth_any u ⟨xr, xd⟩ ⟨yr, yd⟩ lz w q hnz
                  rw [← hBO] at h5
                  exact h5
                have XBO := Lib.hid hBO
                clear hBO
                have j75 := f74.cell 0
                have j76 := f74.cell 1
                have j77 := x_y.cell 0
                have j78 := x_y.cell 1
                simp at j75 j76 j77 j78
                go_wp2_with fail
                refine (HOimpl.out _ _ (f73.ri.more y73_)).mono ?_; rintro e w26 ⟨rfl, hb26⟩
                have s26_ := hb26.size
                have t26 := t25.trans (hb26.mono t25.size)
                clear j75 j76 j77 j78
                have f79 := f73.step hb26
                have y79_ := Nat.le_trans y73_ s26_
                clear f73 y73_
                have f80 := f74.step hb26
                clear f74
                have f81 := x_y.step hb26
                clear x_y
                clear hb26 s26_ t25
                have j82 := f80.cell 0
                have j83 := f80.cell 1
                have j84 := f81.cell 0
                have j85 := f81.cell 1
                simp at j82 j83 j84 j85
                go_wp2_with fail
                refine (HOspec.out _ _ (f79.ri.more y79_)).mono ?_; rintro e w27 ⟨rfl, hb27⟩
                have s27_ := hb27.size
                have t27 := t26.trans (hb27.mono t26.size)
                clear j82 j83 j84 j85
                have f86 := f79.step hb27
                have y86_ := Nat.le_trans y79_ s27_
                clear f79 y79_
                have f87 := f80.step hb27
                clear f80
                have f88 := f81.step hb27
                clear f81
                clear hb27 s27_ t26
                go_upto_region 49 with fail
                go_cut [380] from 380 to 380 (fun s_380 wx => s_380 = .bool false ∧ Below w27.heap.size w27 wx)
                case first =>
                  as_aux_lemma =>
                  go_wp2_with fail
                  go_meet
                  exact ⟨by first | rfl | trivial | simp, Below.refl _ _⟩
                case rest =>
                  obtain ⟨rfl, hb28⟩ := hcut
                  have s28_ := hb28.size
                  have t28 := t27.trans (hb28.mono t27.size)
                  have f89 := f86.step hb28
                  have y89_ := Nat.le_trans y86_ s28_
                  clear f86 y86_
                  have f90 := f87.step hb28
                  clear f87
                  have f91 := f88.step hb28
                  clear f88
                  clear hb28 s28_ t27
                  cases E9
                  · go_wp2_with fail
                    go_ret
                    exact ⟨rfl, t28⟩
                  have hb := both_true (x := ⟨xr, xd⟩) (y := ⟨yr, yd⟩) (l := lz) (by rw [← XBO.out])
                  rw [← XBO.out] at hb
                  obtain ⟨k1, k2, k3⟩ := hb
                  simp only at k3
                  obtain ⟨P1, hP1⟩ : ∃ p, p = (kpSays ⟨xr, xd⟩ lz).1 := ⟨_, rfl⟩
                  obtain ⟨P2, hP2⟩ : ∃ p, p = (kpSays ⟨yr, yd⟩ lz).1 := ⟨_, rfl⟩
                  rw [← hP1, ← hP2] at k3
                  subst k3
                  have HP1 : Hid (∀ u w, RI w w.heap.size u lz → Calls Try.prog 19 #[.agg #[.int .i64 xr, .int .i64 xd], u] w (RetV w (.tuple #[.bool P1, .bool true]))) := by
                    intro u w q
                    have h5 := implKeepsBucket_any u ⟨xr, xd⟩ lz w q hnz
                    rw [k1, ← hP1] at h5
                    exact h5
                  have HP2 : Hid (∀ u w, RI w w.heap.size u lz → Calls Try.prog 19 #[.agg #[.int .i64 yr, .int .i64 yd], u] w (RetV w (.tuple #[.bool P2, .bool true]))) := by
                    intro u w q
                    have h5 := implKeepsBucket_any u ⟨yr, yd⟩ lz w q hnz
                    rw [k2, ← hP2] at h5
                    exact h5
                  clear k1 k2 hP1 hP2 XBO
                  have j92 := f90.cell 0
                  have j93 := f90.cell 1
                  have j94 := f91.cell 0
                  have j95 := f91.cell 1
                  simp at j92 j93 j94 j95
                  go_wp2_with fail
                  refine (HP1.out _ _ (f89.ri.more y89_)).mono ?_; rintro e w29 ⟨rfl, hb29⟩
                  have s29_ := hb29.size
                  have t29 := t28.trans (hb29.mono t28.size)
                  clear j92 j93 j94 j95
                  have f96 := f89.step hb29
                  have y96_ := Nat.le_trans y89_ s29_
                  clear f89 y89_
                  have f97 := f90.step hb29
                  clear f90
                  have f98 := f91.step hb29
                  clear f91
                  clear hb29 s29_ t28
                  have j99 := f97.cell 0
                  have j100 := f97.cell 1
                  have j101 := f98.cell 0
                  have j102 := f98.cell 1
                  simp at j99 j100 j101 j102
                  go_wp2_with fail
                  refine (HP2.out _ _ (f96.ri.more y96_)).mono ?_; rintro e w30 ⟨rfl, hb30⟩
                  have s30_ := hb30.size
                  have t30 := t29.trans (hb30.mono t29.size)
                  clear j99 j100 j101 j102
                  have f103 := f96.step hb30
                  have y103_ := Nat.le_trans y96_ s30_
                  clear f96 y96_
                  have f104 := f97.step hb30
                  clear f97
                  have f105 := f98.step hb30
                  clear f98
                  clear hb30 s30_ t29
                  cases P1 <;> cases P2 <;> (go_wp2_with fail; go_ret; exact ⟨rfl, t30⟩)
end Go.Proofs.Ytlanpfcjcafapaa
