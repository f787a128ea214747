/-
  Chapter 9: timed rings: the laws' contracts of IsTimedRing, RotationBound, FreeShare, FixedWithin, both sides.
-/
import Derived.Test.YtgkpdlicgllcoaaBpA
import Derived.Deep.QuietTactic
namespace Go.Proofs.Ytgkpdlicgllcoaa
open Go.RowKit
set_option maxRecDepth 100000
set_option linter.unusedVariables false
theorem mul_in9 {a b A B : Int} (h1 : 0 ≤ a ∧ a ≤ A) (h2 : 0 ≤ b ∧ b ≤ B) : 0 ≤ a * b ∧ a * b ≤ A * B :=
  ⟨Int.mul_nonneg h1.1 h2.1, Int.mul_le_mul h1.2 h2.2 h2.1 (by omega)⟩
theorem tmOk_pre {x : Tm} (h : tmOk x = true) : tmPre x = true := by rw [tmOk_is] at h; simp only [Bool.and_eq_true] at h; exact h.1
theorem implIsTimedRing_any (v : Value) (x : Tm) (w : World) (h : RTm w w.heap.size v x) (hn : x.d.length ≤ 1048576) : Calls Try.prog 19 #[v] w (RetV w (.bool (tmOk x))) := by
  obtain ⟨s, rfl, h⟩ := h
  exact implTimed_any s x w h hn
set_option maxHeartbeats 1000000 in
theorem implrotB_any (s : Value) (x : Tm) (w : World) (h : RI w w.heap.size s x.d) (hx : tmPre x = true) : Calls Try.prog 64 #[TmV x s] w (RetV w (.int .i64 (2 * x.t))) := by
  have hin := tmPre_in hx
  obtain ⟨t, k, d⟩ := x
  simp only [TmV] at *
  obtain ⟨A, c, rfl, hlc, hc⟩ := h
  clear hc
  have hW : Below w.heap.size w (w.alloc (.cells #[.int .i64 t, .int .i64 k, .slice A d.length c] 27)) := (Below.refl _ _).alloc (Nat.le_refl _) _
  go_enter Try.func64, Try.ntmps64
  go_wp2_with fail
  go_ret
  exact ⟨rfl, hW⟩
set_option maxHeartbeats 1000000 in
theorem implRotationBound_any (v : Value) (x : Tm) (w : World) (h : RTm w w.heap.size v x) (hn : x.d.length ≤ 1048576) : Calls Try.prog 22 #[v] w (RetV w (.tuple #[.int .i64 (rbSays x).1, .bool (rbSays x).2])) := by
  obtain ⟨s, rfl, h⟩ := h
  have H1 := Lib.hid fun W (hb : Below w.heap.size w W) => implTimed_any s x W ((h.below hb).more hb.size) hn
  have H2 := Lib.hid fun (hp : tmOk x = true) W (hb : Below w.heap.size w W) => implrotB_any s x W ((h.below hb).more hb.size) (tmOk_pre hp)
  cases hg : tmOk x
  · rw [show rbSays x = (0, false) from by simp [rbSays, hg]]
    rw [hg] at H1
    clear hg H2
    obtain ⟨t, k, d⟩ := x
    simp only [TmV] at *
    obtain ⟨A, c, rfl, hlc, hc⟩ := h
    clear hc
    have hW : Below w.heap.size w (w.alloc (.cells #[.int .i64 t, .int .i64 k, .slice A d.length c] 27)) := (Below.refl _ _).alloc (Nat.le_refl _) _
    go_enter Try.func22, Try.ntmps22
    go_wp2_with fail
    refine (H1.out _ hW).mono ?_; rintro e w1 ⟨rfl, hb⟩
    go_wp2_with fail
    go_ret2
    exact ⟨rfl, hW.trans (hb.mono hW.size)⟩
  rw [show rbSays x = (2 * x.t, true) from by simp [rbSays, hg]]
  rw [hg] at H1
  have hin := tmOk_in hg
  have hu := usedT_in (tmOk_pre hg)
  have hU0 : 0 ≤ usedT x ∧ usedT x ≤ 2640 := by unfold usedT; omega
  have H2 := Lib.hid (H2.out hg)
  generalize usedT x = U at *
  clear hg
  obtain ⟨t, k, d⟩ := x
  simp only [TmV] at *
  obtain ⟨A, c, rfl, hlc, hc⟩ := h
  clear hc
  have hW : Below w.heap.size w (w.alloc (.cells #[.int .i64 t, .int .i64 k, .slice A d.length c] 27)) := (Below.refl _ _).alloc (Nat.le_refl _) _
  have hB := BK.made w 27 #[.int .i64 t, .int .i64 k, .slice A d.length c]
  go_enter Try.func22, Try.ntmps22
  go_wp2_with fail
  refine (H1.out _ hW).mono ?_; rintro e w1 ⟨rfl, hb1⟩
  have hbk := hB.step hb1
  have c0 := hbk.cell 0
  have c1 := hbk.cell 1
  have c2 := hbk.cell 2
  simp at c0 c1 c2
  have HT1 := Lib.hid (hW.trans (hb1.mono hW.size))
  clear hW hB hb1 hbk
  go_wp2_with fail
  refine (H2.out _ HT1.out).mono ?_; rintro e w2 ⟨rfl, hb2⟩
  go_wp2_with fail
  go_ret2
  exact ⟨rfl, HT1.out.trans (hb2.mono HT1.out.size)⟩
set_option maxHeartbeats 1000000 in
theorem implFreeShare_any (v : Value) (x : Tm) (w : World) (h : RTm w w.heap.size v x) (hn : x.d.length ≤ 1048576) : Calls Try.prog 24 #[v] w (RetV w (.tuple #[.int .i64 (shareSays x).1, .bool (shareSays x).2])) := by
  obtain ⟨s, rfl, h⟩ := h
  have H1 := Lib.hid fun W (hb : Below w.heap.size w W) => implTimed_any s x W ((h.below hb).more hb.size) hn
  have H2 := Lib.hid fun (hp : tmOk x = true) W (hb : Below w.heap.size w W) => freeShare_any s x W ((h.below hb).more hb.size) (tmOk_pre hp)
  cases hg : tmOk x
  · rw [show shareSays x = (0, false) from by simp [shareSays, hg]]
    rw [hg] at H1
    clear hg H2
    obtain ⟨t, k, d⟩ := x
    simp only [TmV] at *
    obtain ⟨A, c, rfl, hlc, hc⟩ := h
    clear hc
    have hW : Below w.heap.size w (w.alloc (.cells #[.int .i64 t, .int .i64 k, .slice A d.length c] 27)) := (Below.refl _ _).alloc (Nat.le_refl _) _
    go_enter Try.func24, Try.ntmps24
    go_wp2_with fail
    refine (H1.out _ hW).mono ?_; rintro e w1 ⟨rfl, hb⟩
    go_wp2_with fail
    go_ret2
    exact ⟨rfl, hW.trans (hb.mono hW.size)⟩
  rw [show shareSays x = (x.t - usedT x, true) from by simp [shareSays, hg]]
  rw [hg] at H1
  have hin := tmOk_in hg
  have hu := usedT_in (tmOk_pre hg)
  have hU0 : 0 ≤ usedT x ∧ usedT x ≤ 2640 := by unfold usedT; omega
  have H2 := Lib.hid (H2.out hg)
  generalize usedT x = U at *
  clear hg
  obtain ⟨t, k, d⟩ := x
  simp only [TmV] at *
  obtain ⟨A, c, rfl, hlc, hc⟩ := h
  clear hc
  have hW : Below w.heap.size w (w.alloc (.cells #[.int .i64 t, .int .i64 k, .slice A d.length c] 27)) := (Below.refl _ _).alloc (Nat.le_refl _) _
  have hB := BK.made w 27 #[.int .i64 t, .int .i64 k, .slice A d.length c]
  go_enter Try.func24, Try.ntmps24
  go_wp2_with fail
  refine (H1.out _ hW).mono ?_; rintro e w1 ⟨rfl, hb1⟩
  have hbk := hB.step hb1
  have c0 := hbk.cell 0
  have c1 := hbk.cell 1
  have c2 := hbk.cell 2
  simp at c0 c1 c2
  have HT1 := Lib.hid (hW.trans (hb1.mono hW.size))
  clear hW hB hb1 hbk
  go_wp2_with fail
  refine (H2.out _ HT1.out).mono ?_; rintro e w2 ⟨rfl, hb2⟩
  go_wp2_with fail
  go_ret2
  exact ⟨rfl, HT1.out.trans (hb2.mono HT1.out.size)⟩
set_option maxHeartbeats 2000000 in
theorem implFixedWithin_any (v : Value) (x : Tm) (i n : Int) (w : World) (h : RTm w w.heap.size v x) (hn : x.d.length ≤ 1048576) (hi : (Lit.int .i64 i).wf = true) (hm : (Lit.int .i64 n).wf = true) :
    Calls Try.prog 26 #[v, .int .i64 i, .int .i64 n] w (RetV w (.tuple #[.int .i64 (fwSays x i n).1, .bool (fwSays x i n).2])) := by
  obtain ⟨s, rfl, h⟩ := h
  have hnI : (x.d.length : Int) ≤ 1048576 := by omega
  have H1 := Lib.hid fun W (hb : Below w.heap.size w W) => implTimed_any s x W ((h.below hb).more hb.size) hn
  have HS := Lib.hid fun w => isWithin_wi i 0 ((x.d.length : Int) - 1) w
  have HK := Lib.hid fun w => isWithin_wi n 0 100000 w
  have H2 := Lib.hid fun (hp : tmOk x = true) W (hb : Below w.heap.size w W) => implrotB_any s x W ((h.below hb).more hb.size) (tmOk_pre hp)
  cases hg : tmOk x
  · rw [show fwSays x i n = (0, false) from by simp [fwSays, hg]]
    rw [hg] at H1
    clear hg H2 HS HK
    obtain ⟨t, k, d⟩ := x
    simp only [TmV] at *
    obtain ⟨A, c, rfl, hlc, hc⟩ := h
    clear hc
    have hW : Below w.heap.size w (w.alloc (.cells #[.int .i64 t, .int .i64 k, .slice A d.length c] 27)) := (Below.refl _ _).alloc (Nat.le_refl _) _
    have hB := BK.made w 27 #[.int .i64 t, .int .i64 k, .slice A d.length c]
    go_enter Try.func26, Try.ntmps26
    go_wp2_with fail
    refine (H1.out _ hW).mono ?_; rintro e w1 ⟨rfl, hb1⟩
    have hbk := hB.step hb1
    have c0 := hbk.cell 0
    have c1 := hbk.cell 1
    have c2 := hbk.cell 2
    simp at c0 c1 c2
    have HT1 := Lib.hid (hW.trans (hb1.mono hW.size))
    clear hW hB hb1 hbk
    go_wp2_with fail
    go_ret2
    exact ⟨rfl, HT1.out⟩
  rw [hg] at H1
  have hin := tmOk_in hg
  cases hs : wi i 0 ((x.d.length : Int) - 1)
  · rw [show fwSays x i n = (0, false) from by simp [fwSays, hs]]
    rw [hs] at HS
    clear hg H2 hs HK
    obtain ⟨t, k, d⟩ := x
    simp only [TmV] at *
    obtain ⟨A, c, rfl, hlc, hc⟩ := h
    clear hc
    have hW : Below w.heap.size w (w.alloc (.cells #[.int .i64 t, .int .i64 k, .slice A d.length c] 27)) := (Below.refl _ _).alloc (Nat.le_refl _) _
    have hB := BK.made w 27 #[.int .i64 t, .int .i64 k, .slice A d.length c]
    go_enter Try.func26, Try.ntmps26
    go_wp2_with fail
    refine (H1.out _ hW).mono ?_; rintro e w1 ⟨rfl, hb1⟩
    have hbk := hB.step hb1
    have c0 := hbk.cell 0
    have c1 := hbk.cell 1
    have c2 := hbk.cell 2
    simp at c0 c1 c2
    have HT1 := Lib.hid (hW.trans (hb1.mono hW.size))
    clear hW hB hb1 hbk
    go_wp2_with fail
    refine (HS.out _).mono ?_; rintro e w_ ⟨rfl, rfl⟩
    go_wp2_with fail
    go_ret2
    exact ⟨rfl, HT1.out⟩
  rw [hs] at HS
  cases hk : wi n 0 100000
  · rw [show fwSays x i n = (0, false) from by simp [fwSays, hk]]
    rw [hk] at HK
    clear hg H2 hs hk
    obtain ⟨t, k, d⟩ := x
    simp only [TmV] at *
    obtain ⟨A, c, rfl, hlc, hc⟩ := h
    clear hc
    have hW : Below w.heap.size w (w.alloc (.cells #[.int .i64 t, .int .i64 k, .slice A d.length c] 27)) := (Below.refl _ _).alloc (Nat.le_refl _) _
    have hB := BK.made w 27 #[.int .i64 t, .int .i64 k, .slice A d.length c]
    go_enter Try.func26, Try.ntmps26
    go_wp2_with fail
    refine (H1.out _ hW).mono ?_; rintro e w1 ⟨rfl, hb1⟩
    have hbk := hB.step hb1
    have c0 := hbk.cell 0
    have c1 := hbk.cell 1
    have c2 := hbk.cell 2
    simp at c0 c1 c2
    have HT1 := Lib.hid (hW.trans (hb1.mono hW.size))
    clear hW hB hb1 hbk
    go_wp2_with fail
    refine (HS.out _).mono ?_; rintro e w_ ⟨rfl, rfl⟩
    go_wp2_with fail
    refine (HK.out _).mono ?_; rintro e w_ ⟨rfl, rfl⟩
    go_wp2_with fail
    go_ret2
    exact ⟨rfl, HT1.out⟩
  rw [hk] at HK
  rw [show fwSays x i n = (x.d.getD i.toNat 0 * (1 + n.tdiv (2 * x.t)), true) from by simp [fwSays, hg, hs, hk]]
  have hs2 : 0 ≤ i ∧ i ≤ (x.d.length : Int) - 1 := by simpa [wi] using hs
  have hk2 : 0 ≤ n ∧ n ≤ 100000 := by simpa [wi] using hk
  obtain ⟨j, rfl⟩ : ∃ j : Nat, i = (j : Int) := ⟨i.toNat, by omega⟩
  rw [Int.toNat_natCast]
  have hj : j < x.d.length := by omega
  have hy2 := okAll_at hin.2.2.2.1 j hj
  have H2 := Lib.hid (H2.out hg)
  have ht2 : 0 ≤ n.tdiv (2 * x.t) ∧ n.tdiv (2 * x.t) ≤ 100000 := by
    rw [Int.tdiv_eq_ediv_of_nonneg hk2.1]
    have p := Int.ediv_nonneg hk2.1 (show 0 ≤ 2 * x.t by omega)
    have q : n / (2 * x.t) ≤ n := Int.ediv_le_self _ hk2.1
    omega
  have hne : 2 * x.t ≠ 0 := by omega
  have hq2 : n / (2 * x.t) = n.tdiv (2 * x.t) := (Int.tdiv_eq_ediv_of_nonneg hk2.1).symm
  have hpr := mul_in9 hy2 (show 0 ≤ 1 + n.tdiv (2 * x.t) ∧ 1 + n.tdiv (2 * x.t) ≤ 100001 by omega)
  have e0 : IntKind.i64.wrap (2 * x.t) = 2 * x.t := IntWalk.i64_in _ (by omega)
  have e1 : IntKind.i64.wrap (1 + n.tdiv (2 * x.t)) = 1 + n.tdiv (2 * x.t) := IntWalk.i64_in _ (by omega)
  have e2 : IntKind.i64.wrap (x.d.getD j 0 * (1 + n.tdiv (2 * x.t))) = x.d.getD j 0 * (1 + n.tdiv (2 * x.t)) := IntWalk.i64_in _ (by omega)
  obtain ⟨q, hq⟩ : ∃ q, q = n.tdiv (2 * x.t) := ⟨_, rfl⟩
  have hq3 : n.tdiv (2 * x.t) = q := hq.symm
  have e3 : IntKind.i64.wrap q = q := IntWalk.i64_in _ (by omega)
  rw [← hq] at ht2 hq2 hpr e1 e2 ⊢
  clear hg hs hk hq hm hi
  obtain ⟨t, k, d⟩ := x
  simp only [TmV] at *
  obtain ⟨A, c, rfl, hlc, hc⟩ := h
  have HC := Lib.hid hc
  clear hc
  obtain ⟨b, off, rfl, hbB, hcell⟩ := HC.out (by omega)
  have hcx := hcell j (by omega)
  generalize hy : d.getD j 0 = y at *
  have HBB := Lib.hid hbB
  have p0 := BK.made w 27 #[.int .i64 t, .int .i64 k, .slice (some ⟨b, off, none⟩) d.length c]
  have hW : Below w.heap.size w (w.alloc (.cells #[.int .i64 t, .int .i64 k, .slice (some ⟨b, off, none⟩) d.length c] 27)) := (Below.refl _ _).alloc (Nat.le_refl _) _
  obtain ⟨w0, hw0⟩ : ∃ w0, w0 = (w.alloc (.cells #[.int .i64 t, .int .i64 k, .slice (some ⟨b, off, none⟩) d.length c] 27)) := ⟨_, rfl⟩
  rw [← hw0] at p0 hW
  have HCL : Hid (∀ W, Below w0.heap.size w0 W → W.cell? ⟨w.heap.size, 0, none⟩ = some (.int .i64 t) ∧ W.cell? ⟨w.heap.size, 1, none⟩ = some (.int .i64 k) ∧ W.cell? ⟨w.heap.size, 2, none⟩ = some (.slice (some ⟨b, off, none⟩) d.length c)) := by
    show ∀ W, _
    intro W hb
    have p1 := p0.step hb
    have c0 := p1.cell 0
    have c1 := p1.cell 1
    have c2 := p1.cell 2
    simp at c0 c1 c2
    exact ⟨c0, c1, c2⟩
  have HW := Lib.hid hW
  have HW0 := Lib.hid hw0
  obtain ⟨c0, c1, c2⟩ := HCL.out w0 (Below.refl _ _)
  have hd9 : Below w0.heap.size w0 w0 := Below.refl _ _
  have hd : Below w0.heap.size w0 w0.drew := (Below.refl _ _).drew
  clear p0 hW hw0

  have HCX : Hid (∀ W, Below w0.heap.size w0 W → W.cell? ⟨b, off + j, none⟩ = some (.int .i64 y)) := fun W hb => ((HW.out.trans (hb.mono HW.out.size)).cell (p := ⟨b, off + j, none⟩) HBB.out).trans hcx
  have HA1 : Hid (∀ W, Below w0.heap.size w0 W → Calls Try.prog 64 #[.agg #[.int .i64 t, .int .i64 k, .slice (some ⟨b, off, none⟩) d.length c]] W fun e W' => e = .returned (.int .i64 (2 * t)) ∧ Below w0.heap.size w0 W') := fun W hb => (H2.out W (HW.out.trans (hb.mono HW.out.size))).mono fun _ _ ⟨he, hb'⟩ => ⟨he, hb.trans (hb'.mono hb.size)⟩
  clear H2 hcell c0 c1 c2
  go_enter Try.func26, Try.ntmps26
  go_wp2_with fail
  refine (H1.out _ (by rw [← HW0.out]; exact HW.out)).mono ?_; rintro e w1 ⟨rfl, hb1⟩
  rw [← HW0.out] at hb1
  obtain ⟨x0, x1, x2⟩ := HCL.out _ hb1
  have x3 := HCX.out _ hb1
  clear hcx
  go_wp2_with fail
  refine (HS.out _).mono ?_; rintro e w_ ⟨rfl, rfl⟩
  go_wp2_with fail
  refine (HK.out _).mono ?_; rintro e w_ ⟨rfl, rfl⟩
  go_upto_region 3 with fail
  go_region_held3 (fun w' => w'.cell? ⟨w.heap.size, 0, none⟩ = some (.int .i64 t) ∧ w'.cell? ⟨w.heap.size, 1, none⟩ = some (.int .i64 k) ∧ w'.cell? ⟨w.heap.size, 2, none⟩ = some (.slice (some ⟨b, off, none⟩) d.length c) ∧ w'.cell? ⟨b, off + j, none⟩ = some (.int .i64 y)) (with_reducible first | exact ⟨x0, x1, x2, x3⟩ | (refine ⟨?_, ?_, ?_, ?_⟩ <;> assumption) | go_keep) (first
    | (go_at_call 64; (with_reducible refine (HA1.out _ (by first | assumption | exact hb1.drew)).mono ?_); rintro e w7 ⟨rfl, hb7⟩; obtain ⟨d0, d1, d2⟩ := HCL.out _ hb7; have d3 := HCX.out _ hb7))
  · go_wp2_with fail
    go_ret2
    exact ⟨rfl, HW.out.trans (hb7.mono HW.out.size)⟩
theorem specIsTimedRing_any (v : Value) (x : Tm) (w : World) (h : RTm w w.heap.size v x) (hn : x.d.length ≤ 1048576) : Calls Try.prog 17 #[v] w (RetV w (.bool (tmOk x))) := by
  obtain ⟨s, rfl, h⟩ := h
  have H1 := Lib.hid fun W (hb : Below w.heap.size w W) => boTimed_any s x W ((h.below hb).more hb.size) hn
  obtain ⟨t, k, d⟩ := x
  simp only [TmV] at *
  obtain ⟨A, c, rfl, hlc, hc⟩ := h
  clear hc
  have hW : Below w.heap.size w (w.alloc (.cells #[.int .i64 t, .int .i64 k, .slice A d.length c] 27)) := (Below.refl _ _).alloc (Nat.le_refl _) _
  go_enter Try.func17, Try.ntmps17
  go_wp2_with fail
  refine (H1.out _ hW).mono ?_; rintro e w1 ⟨rfl, hb⟩
  go_wp2_with fail
  go_ret
  exact ⟨rfl, hW.trans (hb.mono hW.size)⟩

set_option maxHeartbeats 1000000 in
theorem specRotationBound_any (v : Value) (x : Tm) (w : World) (h : RTm w w.heap.size v x) (hn : x.d.length ≤ 1048576) : Calls Try.prog 21 #[v] w (RetV w (.tuple #[.int .i64 (rbSays x).1, .bool (rbSays x).2])) := by
  obtain ⟨s, rfl, h⟩ := h
  have H1 := Lib.hid fun W (hb : Below w.heap.size w W) => boTimed_any s x W ((h.below hb).more hb.size) hn
  have H2 : Hid (tmOk x = true → True) := fun _ => trivial
  cases hg : tmOk x
  · rw [show rbSays x = (0, false) from by simp [rbSays, hg]]
    rw [hg] at H1
    clear hg H2
    obtain ⟨t, k, d⟩ := x
    simp only [TmV] at *
    obtain ⟨A, c, rfl, hlc, hc⟩ := h
    clear hc
    have hW : Below w.heap.size w (w.alloc (.cells #[.int .i64 t, .int .i64 k, .slice A d.length c] 27)) := (Below.refl _ _).alloc (Nat.le_refl _) _
    go_enter Try.func21, Try.ntmps21
    go_wp2_with fail
    refine (H1.out _ hW).mono ?_; rintro e w1 ⟨rfl, hb⟩
    go_wp2_with fail
    go_ret2
    exact ⟨rfl, hW.trans (hb.mono hW.size)⟩
  rw [show rbSays x = (2 * x.t, true) from by simp [rbSays, hg]]
  rw [hg] at H1
  have hin := tmOk_in hg
  have hu := usedT_in (tmOk_pre hg)
  have hU0 : 0 ≤ usedT x ∧ usedT x ≤ 2640 := by unfold usedT; omega
  have H2 := Lib.hid (H2.out hg)
  generalize usedT x = U at *
  clear hg
  obtain ⟨t, k, d⟩ := x
  simp only [TmV] at *
  obtain ⟨A, c, rfl, hlc, hc⟩ := h
  clear hc
  have hW : Below w.heap.size w (w.alloc (.cells #[.int .i64 t, .int .i64 k, .slice A d.length c] 27)) := (Below.refl _ _).alloc (Nat.le_refl _) _
  have hB := BK.made w 27 #[.int .i64 t, .int .i64 k, .slice A d.length c]
  go_enter Try.func21, Try.ntmps21
  go_wp2_with fail
  refine (H1.out _ hW).mono ?_; rintro e w1 ⟨rfl, hb1⟩
  have hbk := hB.step hb1
  have c0 := hbk.cell 0
  have c1 := hbk.cell 1
  have c2 := hbk.cell 2
  simp at c0 c1 c2
  have HT1 := Lib.hid (hW.trans (hb1.mono hW.size))
  clear hW hB hb1 hbk
  go_wp2_with fail
  go_ret2
  exact ⟨rfl, HT1.out⟩
set_option maxHeartbeats 1000000 in
theorem specFreeShare_any (v : Value) (x : Tm) (w : World) (h : RTm w w.heap.size v x) (hn : x.d.length ≤ 1048576) : Calls Try.prog 23 #[v] w (RetV w (.tuple #[.int .i64 (shareSays x).1, .bool (shareSays x).2])) := by
  obtain ⟨s, rfl, h⟩ := h
  have H1 := Lib.hid fun W (hb : Below w.heap.size w W) => boTimed_any s x W ((h.below hb).more hb.size) hn
  have H2 := Lib.hid fun (hp : tmOk x = true) W (hb : Below w.heap.size w W) => boUsed_any s x W ((h.below hb).more hb.size) (tmOk_pre hp)
  cases hg : tmOk x
  · rw [show shareSays x = (0, false) from by simp [shareSays, hg]]
    rw [hg] at H1
    clear hg H2
    obtain ⟨t, k, d⟩ := x
    simp only [TmV] at *
    obtain ⟨A, c, rfl, hlc, hc⟩ := h
    clear hc
    have hW : Below w.heap.size w (w.alloc (.cells #[.int .i64 t, .int .i64 k, .slice A d.length c] 27)) := (Below.refl _ _).alloc (Nat.le_refl _) _
    go_enter Try.func23, Try.ntmps23
    go_wp2_with fail
    refine (H1.out _ hW).mono ?_; rintro e w1 ⟨rfl, hb⟩
    go_wp2_with fail
    go_ret2
    exact ⟨rfl, hW.trans (hb.mono hW.size)⟩
  rw [show shareSays x = (x.t - usedT x, true) from by simp [shareSays, hg]]
  rw [hg] at H1
  have hin := tmOk_in hg
  have hu := usedT_in (tmOk_pre hg)
  have hU0 : 0 ≤ usedT x ∧ usedT x ≤ 2640 := by unfold usedT; omega
  have H2 := Lib.hid (H2.out hg)
  generalize usedT x = U at *
  clear hg
  obtain ⟨t, k, d⟩ := x
  simp only [TmV] at *
  obtain ⟨A, c, rfl, hlc, hc⟩ := h
  clear hc
  have p0 := BK.made w 27 #[.int .i64 t, .int .i64 k, .slice A d.length c]
  have hW : Below w.heap.size w (w.alloc (.cells #[.int .i64 t, .int .i64 k, .slice A d.length c] 27)) := (Below.refl _ _).alloc (Nat.le_refl _) _
  obtain ⟨w0, hw0⟩ : ∃ w0, w0 = (w.alloc (.cells #[.int .i64 t, .int .i64 k, .slice A d.length c] 27)) := ⟨_, rfl⟩
  rw [← hw0] at p0 hW
  have HCL : Hid (∀ W, Below w0.heap.size w0 W → W.cell? ⟨w.heap.size, 0, none⟩ = some (.int .i64 t) ∧ W.cell? ⟨w.heap.size, 1, none⟩ = some (.int .i64 k) ∧ W.cell? ⟨w.heap.size, 2, none⟩ = some (.slice A d.length c)) := by
    show ∀ W, _
    intro W hb
    have p1 := p0.step hb
    have c0 := p1.cell 0
    have c1 := p1.cell 1
    have c2 := p1.cell 2
    simp at c0 c1 c2
    exact ⟨c0, c1, c2⟩
  have HW := Lib.hid hW
  have HW0 := Lib.hid hw0
  obtain ⟨c0, c1, c2⟩ := HCL.out w0 (Below.refl _ _)
  have hd9 : Below w0.heap.size w0 w0 := Below.refl _ _
  have hd : Below w0.heap.size w0 w0.drew := (Below.refl _ _).drew
  clear p0 hW hw0
  have HA1 : Hid (∀ W, Below w0.heap.size w0 W → Calls Try.prog 65 #[.agg #[.int .i64 t, .int .i64 k, .slice A d.length c]] W fun e W' => e = .returned (.int .i64 U) ∧ Below w0.heap.size w0 W') := fun W hb => (H2.out W (HW.out.trans (hb.mono HW.out.size))).mono fun _ _ ⟨he, hb'⟩ => ⟨he, hb.trans (hb'.mono hb.size)⟩
  have e2 : IntKind.i64.wrap (t - U) = t - U := IntWalk.i64_in _ (by omega)
  clear H2
  go_enter Try.func23, Try.ntmps23
  go_wp2_with fail
  refine (H1.out _ (by rw [← HW0.out]; exact HW.out)).mono ?_; rintro e w1 ⟨rfl, hb1⟩
  rw [← HW0.out] at hb1
  obtain ⟨x0, x1, x2⟩ := HCL.out _ hb1
  go_upto_region 3 with fail
  go_region_held3 (fun w' => w'.cell? ⟨w.heap.size, 0, none⟩ = some (.int .i64 t) ∧ w'.cell? ⟨w.heap.size, 1, none⟩ = some (.int .i64 k) ∧ w'.cell? ⟨w.heap.size, 2, none⟩ = some (.slice A d.length c)) (with_reducible first | exact ⟨x0, x1, x2⟩ | (refine ⟨?_, ?_, ?_⟩ <;> assumption) | go_keep) (first
    | (go_at_call 65; (with_reducible refine (HA1.out _ (by first | assumption | exact hb1.drew)).mono ?_); rintro e w7 ⟨rfl, hb7⟩; obtain ⟨d0, d1, d2⟩ := HCL.out _ hb7))
  · go_wp2_with fail
    go_ret2
    exact ⟨rfl, HW.out.trans (hb7.mono HW.out.size)⟩
set_option maxHeartbeats 2000000 in
theorem specFixedWithin_any (v : Value) (x : Tm) (i n : Int) (w : World) (h : RTm w w.heap.size v x) (hn : x.d.length ≤ 1048576) (hi : (Lit.int .i64 i).wf = true) (hm : (Lit.int .i64 n).wf = true) :
    Calls Try.prog 25 #[v, .int .i64 i, .int .i64 n] w (RetV w (.tuple #[.int .i64 (fwSays x i n).1, .bool (fwSays x i n).2])) := by
  obtain ⟨s, rfl, h⟩ := h
  have hnI : (x.d.length : Int) ≤ 1048576 := by omega
  have H1 := Lib.hid fun W (hb : Below w.heap.size w W) => boTimed_any s x W ((h.below hb).more hb.size) hn
  have HS := Lib.hid fun w => l1In_wi i 0 ((x.d.length : Int) - 1) w
  have HK := Lib.hid fun w => l1In_wi n 0 100000 w
  have H2 : Hid (tmOk x = true → True) := fun _ => trivial
  cases hg : tmOk x
  · rw [show fwSays x i n = (0, false) from by simp [fwSays, hg]]
    rw [hg] at H1
    clear hg H2 HS HK
    obtain ⟨t, k, d⟩ := x
    simp only [TmV] at *
    obtain ⟨A, c, rfl, hlc, hc⟩ := h
    clear hc
    have hW : Below w.heap.size w (w.alloc (.cells #[.int .i64 t, .int .i64 k, .slice A d.length c] 27)) := (Below.refl _ _).alloc (Nat.le_refl _) _
    have hB := BK.made w 27 #[.int .i64 t, .int .i64 k, .slice A d.length c]
    go_enter Try.func25, Try.ntmps25
    go_wp2_with fail
    refine (H1.out _ hW).mono ?_; rintro e w1 ⟨rfl, hb1⟩
    have hbk := hB.step hb1
    have c0 := hbk.cell 0
    have c1 := hbk.cell 1
    have c2 := hbk.cell 2
    simp at c0 c1 c2
    have HT1 := Lib.hid (hW.trans (hb1.mono hW.size))
    clear hW hB hb1 hbk
    go_wp2_with fail
    go_ret2
    exact ⟨rfl, HT1.out⟩
  rw [hg] at H1
  have hin := tmOk_in hg
  cases hs : wi i 0 ((x.d.length : Int) - 1)
  · rw [show fwSays x i n = (0, false) from by simp [fwSays, hs]]
    rw [hs] at HS
    clear hg H2 hs HK
    obtain ⟨t, k, d⟩ := x
    simp only [TmV] at *
    obtain ⟨A, c, rfl, hlc, hc⟩ := h
    clear hc
    have hW : Below w.heap.size w (w.alloc (.cells #[.int .i64 t, .int .i64 k, .slice A d.length c] 27)) := (Below.refl _ _).alloc (Nat.le_refl _) _
    have hB := BK.made w 27 #[.int .i64 t, .int .i64 k, .slice A d.length c]
    go_enter Try.func25, Try.ntmps25
    go_wp2_with fail
    refine (H1.out _ hW).mono ?_; rintro e w1 ⟨rfl, hb1⟩
    have hbk := hB.step hb1
    have c0 := hbk.cell 0
    have c1 := hbk.cell 1
    have c2 := hbk.cell 2
    simp at c0 c1 c2
    have HT1 := Lib.hid (hW.trans (hb1.mono hW.size))
    clear hW hB hb1 hbk
    go_wp2_with fail
    refine (HS.out _).mono ?_; rintro e w_ ⟨rfl, rfl⟩
    go_wp2_with fail
    go_ret2
    exact ⟨rfl, HT1.out⟩
  rw [hs] at HS
  cases hk : wi n 0 100000
  · rw [show fwSays x i n = (0, false) from by simp [fwSays, hk]]
    rw [hk] at HK
    clear hg H2 hs hk
    obtain ⟨t, k, d⟩ := x
    simp only [TmV] at *
    obtain ⟨A, c, rfl, hlc, hc⟩ := h
    clear hc
    have hW : Below w.heap.size w (w.alloc (.cells #[.int .i64 t, .int .i64 k, .slice A d.length c] 27)) := (Below.refl _ _).alloc (Nat.le_refl _) _
    have hB := BK.made w 27 #[.int .i64 t, .int .i64 k, .slice A d.length c]
    go_enter Try.func25, Try.ntmps25
    go_wp2_with fail
    refine (H1.out _ hW).mono ?_; rintro e w1 ⟨rfl, hb1⟩
    have hbk := hB.step hb1
    have c0 := hbk.cell 0
    have c1 := hbk.cell 1
    have c2 := hbk.cell 2
    simp at c0 c1 c2
    have HT1 := Lib.hid (hW.trans (hb1.mono hW.size))
    clear hW hB hb1 hbk
    go_wp2_with fail
    refine (HS.out _).mono ?_; rintro e w_ ⟨rfl, rfl⟩
    go_wp2_with fail
    refine (HK.out _).mono ?_; rintro e w_ ⟨rfl, rfl⟩
    go_wp2_with fail
    go_ret2
    exact ⟨rfl, HT1.out⟩
  rw [hk] at HK
  rw [show fwSays x i n = (x.d.getD i.toNat 0 * (1 + n.tdiv (2 * x.t)), true) from by simp [fwSays, hg, hs, hk]]
  have hs2 : 0 ≤ i ∧ i ≤ (x.d.length : Int) - 1 := by simpa [wi] using hs
  have hk2 : 0 ≤ n ∧ n ≤ 100000 := by simpa [wi] using hk
  obtain ⟨j, rfl⟩ : ∃ j : Nat, i = (j : Int) := ⟨i.toNat, by omega⟩
  rw [Int.toNat_natCast]
  have hj : j < x.d.length := by omega
  have hy2 := okAll_at hin.2.2.2.1 j hj
  have H2 := Lib.hid (H2.out hg)
  have ht2 : 0 ≤ n.tdiv (2 * x.t) ∧ n.tdiv (2 * x.t) ≤ 100000 := by
    rw [Int.tdiv_eq_ediv_of_nonneg hk2.1]
    have p := Int.ediv_nonneg hk2.1 (show 0 ≤ 2 * x.t by omega)
    have q : n / (2 * x.t) ≤ n := Int.ediv_le_self _ hk2.1
    omega
  have hne : 2 * x.t ≠ 0 := by omega
  have hq2 : n / (2 * x.t) = n.tdiv (2 * x.t) := (Int.tdiv_eq_ediv_of_nonneg hk2.1).symm
  have hpr := mul_in9 hy2 (show 0 ≤ 1 + n.tdiv (2 * x.t) ∧ 1 + n.tdiv (2 * x.t) ≤ 100001 by omega)
  have e0 : IntKind.i64.wrap (2 * x.t) = 2 * x.t := IntWalk.i64_in _ (by omega)
  have e1 : IntKind.i64.wrap (1 + n.tdiv (2 * x.t)) = 1 + n.tdiv (2 * x.t) := IntWalk.i64_in _ (by omega)
  have e2 : IntKind.i64.wrap (x.d.getD j 0 * (1 + n.tdiv (2 * x.t))) = x.d.getD j 0 * (1 + n.tdiv (2 * x.t)) := IntWalk.i64_in _ (by omega)
  obtain ⟨q, hq⟩ : ∃ q, q = n.tdiv (2 * x.t) := ⟨_, rfl⟩
  have hq3 : n.tdiv (2 * x.t) = q := hq.symm
  have e3 : IntKind.i64.wrap q = q := IntWalk.i64_in _ (by omega)
  rw [← hq] at ht2 hq2 hpr e1 e2 ⊢
  clear hg hs hk hq hm hi
  obtain ⟨t, k, d⟩ := x
  simp only [TmV] at *
  obtain ⟨A, c, rfl, hlc, hc⟩ := h
  have HC := Lib.hid hc
  clear hc
  have hW : Below w.heap.size w (w.alloc (.cells #[.int .i64 t, .int .i64 k, .slice A d.length c] 27)) := (Below.refl _ _).alloc (Nat.le_refl _) _
  have hB := BK.made w 27 #[.int .i64 t, .int .i64 k, .slice A d.length c]
  go_enter Try.func25, Try.ntmps25
  go_wp2_with fail
  refine (H1.out _ hW).mono ?_; rintro e w1 ⟨rfl, hb1⟩
  have hbk := hB.step hb1
  have c0 := hbk.cell 0
  have c1 := hbk.cell 1
  have c2 := hbk.cell 2
  simp at c0 c1 c2
  have HT1 := Lib.hid (hW.trans (hb1.mono hW.size))
  obtain ⟨b, off, rfl, hbB, hcell⟩ := HC.out (by omega)
  have hcx := (HT1.out.cell (p := ⟨b, off + j, none⟩) hbB).trans (hcell j (by omega))
  generalize d.getD j 0 = y at *
  clear hW hB hb1 hbk hcell
  go_wp2_with fail
  refine (HS.out _).mono ?_; rintro e w_ ⟨rfl, rfl⟩
  go_wp2_with fail
  refine (HK.out _).mono ?_; rintro e w_ ⟨rfl, rfl⟩
  go_wp2_with fail
  go_region
  go_wp2_with fail
  go_ret2
  exact ⟨rfl, by first | exact HT1.out | exact HT1.out.drew⟩
end Go.Proofs.Ytgkpdlicgllcoaa
