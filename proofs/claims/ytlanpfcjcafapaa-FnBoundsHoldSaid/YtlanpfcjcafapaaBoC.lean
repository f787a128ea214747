/-
  Chapter 9: the contracts of BucketBehind, both sides.
-/
import Derived.Test.YtlanpfcjcafapaaBoA
namespace Go.Proofs.Ytlanpfcjcafapaa
open Go.RowKit
set_option maxRecDepth 100000
set_option linter.unusedVariables false

set_option maxHeartbeats 1000000 in
theorem implBucketBehind_any (x : Sv) (y : Bu) (w : World) :
    Calls Try.prog 22 #[SvV x, BuV y] w (RetV w (.tuple #[BuV (bbhSays x y).1, .bool (bbhSays x y).2])) := by
  have H1 := Lib.hid fun w => implBacklogBound_any x y w
  have H2 := Lib.hid fun w => implDepth_any (y.d + y.r * x.l) w
  cases g1 : fitOk x y
  · rw [show bbhSays x y = (⟨0, 0⟩, false) from by simp [bbhSays, g1]]
    rw [show bkbSays x y = (0, false) from by simp [bkbSays, g1]] at H1
    clear H2 g1
    obtain ⟨xr, xl⟩ := x
    obtain ⟨yr, yd⟩ := y
    simp only [SvV, BuV] at *
    have hs1 : (w.alloc (.cells #[.int .i64 xr, .int .i64 xl] 25)).heap.size = w.heap.size + 1 := by simp
    have hs2 : ((w.alloc (.cells #[.int .i64 xr, .int .i64 xl] 25)).alloc (.cells #[.int .i64 yr, .int .i64 yd] 36)).heap.size = w.heap.size + 1 + 1 := by simp
    have p0 := ((BK.made w 25 #[.int .i64 xr, .int .i64 xl]).alloc (.cells #[.int .i64 yr, .int .i64 yd] 36)).alloc (.cells #[.int .i64 0, .int .i64 0] 36)
    have q0 := (BK.made (w.alloc (.cells #[.int .i64 xr, .int .i64 xl] 25)) 36 #[.int .i64 yr, .int .i64 yd]).alloc (.cells #[.int .i64 0, .int .i64 0] 36)
    rw [hs1] at q0
    have s0 := BK.made ((w.alloc (.cells #[.int .i64 xr, .int .i64 xl] 25)).alloc (.cells #[.int .i64 yr, .int .i64 yd] 36)) 36 #[.int .i64 0, .int .i64 0]
    rw [hs2] at s0
    have hW : Below w.heap.size w (((w.alloc (.cells #[.int .i64 xr, .int .i64 xl] 25)).alloc (.cells #[.int .i64 yr, .int .i64 yd] 36)).alloc (.cells #[.int .i64 0, .int .i64 0] 36)) := ((((Below.refl _ _).alloc (Nat.le_refl _) _).alloc (by rw [hs1]; omega) _).alloc (by rw [hs2]; omega) _)
    clear hs1 hs2
    have c0_p0 := p0.cell 0
    have c0_p1 := p0.cell 1
    have c0_q0 := q0.cell 0
    have c0_q1 := q0.cell 1
    have c0_s0 := s0.cell 0
    have c0_s1 := s0.cell 1
    have z0_0 := s0.free 0
    have z0_1 := s0.free 1
    simp at c0_p0 c0_p1 c0_q0 c0_q1 c0_s0 c0_s1
    go_enter Try.func22, Try.ntmps22
    go_wp2_with fail
    refine (H1.out _).mono ?_; rintro e w1 ⟨rfl, hb1⟩
    have t1 := hW.trans (hb1.mono hW.size)
    have p1 := p0.step hb1
    have q1 := q0.step hb1
    have s1 := s0.step hb1
    clear c0_p0 c0_p1 c0_q0 c0_q1 c0_s0 c0_s1 z0_0 z0_1 p0 q0 s0
    have c1_p0 := p1.cell 0
    have c1_p1 := p1.cell 1
    have c1_q0 := q1.cell 0
    have c1_q1 := q1.cell 1
    have c1_s0 := s1.cell 0
    have c1_s1 := s1.cell 1
    have z1_0 := s1.free 0
    have z1_1 := s1.free 1
    simp at c1_p0 c1_p1 c1_q0 c1_q1 c1_s0 c1_s1
    go_wp2_with fail
    have sF := (s1.put 0 (.int .i64 (0))).put 1 (.int .i64 (0))
    have e0 := sF.cell 0
    have e1 := sF.cell 1
    simp at e0 e1
    refine bodyPost_ret (v := .tuple #[.agg #[.int .i64 (0), .int .i64 (0)], .bool false]) (by simp [results, Try.results22, go_sem, e0, e1]) rfl ⟨rfl, ?_⟩
    exact (t1.setCell (p := ⟨w.heap.size + 1 + 1, 0, none⟩) (by simp <;> omega) _).setCell (p := ⟨w.heap.size + 1 + 1, 1, none⟩) (by simp <;> omega) _
  rw [show bkbSays x y = (y.d + y.r * x.l, true) from by simp [bkbSays, g1]] at H1
  cases g2 : wi (y.d + y.r * x.l) 1 1000
  · rw [show bbhSays x y = (⟨0, 0⟩, false) from by simp [bbhSays, g2]]
    rw [g2] at H2
    clear g1 g2
    obtain ⟨xr, xl⟩ := x
    obtain ⟨yr, yd⟩ := y
    simp only [SvV, BuV] at *
    generalize yd + yr * xl = D at *
    have hs1 : (w.alloc (.cells #[.int .i64 xr, .int .i64 xl] 25)).heap.size = w.heap.size + 1 := by simp
    have hs2 : ((w.alloc (.cells #[.int .i64 xr, .int .i64 xl] 25)).alloc (.cells #[.int .i64 yr, .int .i64 yd] 36)).heap.size = w.heap.size + 1 + 1 := by simp
    have p0 := ((BK.made w 25 #[.int .i64 xr, .int .i64 xl]).alloc (.cells #[.int .i64 yr, .int .i64 yd] 36)).alloc (.cells #[.int .i64 0, .int .i64 0] 36)
    have q0 := (BK.made (w.alloc (.cells #[.int .i64 xr, .int .i64 xl] 25)) 36 #[.int .i64 yr, .int .i64 yd]).alloc (.cells #[.int .i64 0, .int .i64 0] 36)
    rw [hs1] at q0
    have s0 := BK.made ((w.alloc (.cells #[.int .i64 xr, .int .i64 xl] 25)).alloc (.cells #[.int .i64 yr, .int .i64 yd] 36)) 36 #[.int .i64 0, .int .i64 0]
    rw [hs2] at s0
    have hW : Below w.heap.size w (((w.alloc (.cells #[.int .i64 xr, .int .i64 xl] 25)).alloc (.cells #[.int .i64 yr, .int .i64 yd] 36)).alloc (.cells #[.int .i64 0, .int .i64 0] 36)) := ((((Below.refl _ _).alloc (Nat.le_refl _) _).alloc (by rw [hs1]; omega) _).alloc (by rw [hs2]; omega) _)
    clear hs1 hs2
    have c0_p0 := p0.cell 0
    have c0_p1 := p0.cell 1
    have c0_q0 := q0.cell 0
    have c0_q1 := q0.cell 1
    have c0_s0 := s0.cell 0
    have c0_s1 := s0.cell 1
    have z0_0 := s0.free 0
    have z0_1 := s0.free 1
    simp at c0_p0 c0_p1 c0_q0 c0_q1 c0_s0 c0_s1
    go_enter Try.func22, Try.ntmps22
    go_wp2_with fail
    refine (H1.out _).mono ?_; rintro e w1 ⟨rfl, hb1⟩
    have t1 := hW.trans (hb1.mono hW.size)
    have p1 := p0.step hb1
    have q1 := q0.step hb1
    have s1 := s0.step hb1
    clear c0_p0 c0_p1 c0_q0 c0_q1 c0_s0 c0_s1 z0_0 z0_1 p0 q0 s0
    have c1_p0 := p1.cell 0
    have c1_p1 := p1.cell 1
    have c1_q0 := q1.cell 0
    have c1_q1 := q1.cell 1
    have c1_s0 := s1.cell 0
    have c1_s1 := s1.cell 1
    have z1_0 := s1.free 0
    have z1_1 := s1.free 1
    simp at c1_p0 c1_p1 c1_q0 c1_q1 c1_s0 c1_s1
    go_wp2_with fail
    refine (H2.out _).mono ?_; rintro e w_ ⟨rfl, rfl⟩
    go_wp2_with fail
    have sF := (s1.put 0 (.int .i64 (0))).put 1 (.int .i64 (0))
    have e0 := sF.cell 0
    have e1 := sF.cell 1
    simp at e0 e1
    refine bodyPost_ret (v := .tuple #[.agg #[.int .i64 (0), .int .i64 (0)], .bool false]) (by simp [results, Try.results22, go_sem, e0, e1]) rfl ⟨rfl, ?_⟩
    exact (t1.setCell (p := ⟨w.heap.size + 1 + 1, 0, none⟩) (by simp <;> omega) _).setCell (p := ⟨w.heap.size + 1 + 1, 1, none⟩) (by simp <;> omega) _
  · rw [show bbhSays x y = (⟨y.r, y.d + y.r * x.l⟩, true) from by simp [bbhSays, g1, g2]]
    rw [g2] at H2
    clear g1 g2
    obtain ⟨xr, xl⟩ := x
    obtain ⟨yr, yd⟩ := y
    simp only [SvV, BuV] at *
    generalize yd + yr * xl = D at *
    have hs1 : (w.alloc (.cells #[.int .i64 xr, .int .i64 xl] 25)).heap.size = w.heap.size + 1 := by simp
    have hs2 : ((w.alloc (.cells #[.int .i64 xr, .int .i64 xl] 25)).alloc (.cells #[.int .i64 yr, .int .i64 yd] 36)).heap.size = w.heap.size + 1 + 1 := by simp
    have p0 := ((BK.made w 25 #[.int .i64 xr, .int .i64 xl]).alloc (.cells #[.int .i64 yr, .int .i64 yd] 36)).alloc (.cells #[.int .i64 0, .int .i64 0] 36)
    have q0 := (BK.made (w.alloc (.cells #[.int .i64 xr, .int .i64 xl] 25)) 36 #[.int .i64 yr, .int .i64 yd]).alloc (.cells #[.int .i64 0, .int .i64 0] 36)
    rw [hs1] at q0
    have s0 := BK.made ((w.alloc (.cells #[.int .i64 xr, .int .i64 xl] 25)).alloc (.cells #[.int .i64 yr, .int .i64 yd] 36)) 36 #[.int .i64 0, .int .i64 0]
    rw [hs2] at s0
    have hW : Below w.heap.size w (((w.alloc (.cells #[.int .i64 xr, .int .i64 xl] 25)).alloc (.cells #[.int .i64 yr, .int .i64 yd] 36)).alloc (.cells #[.int .i64 0, .int .i64 0] 36)) := ((((Below.refl _ _).alloc (Nat.le_refl _) _).alloc (by rw [hs1]; omega) _).alloc (by rw [hs2]; omega) _)
    clear hs1 hs2
    have c0_p0 := p0.cell 0
    have c0_p1 := p0.cell 1
    have c0_q0 := q0.cell 0
    have c0_q1 := q0.cell 1
    have c0_s0 := s0.cell 0
    have c0_s1 := s0.cell 1
    have z0_0 := s0.free 0
    have z0_1 := s0.free 1
    simp at c0_p0 c0_p1 c0_q0 c0_q1 c0_s0 c0_s1
    go_enter Try.func22, Try.ntmps22
    go_wp2_with fail
    refine (H1.out _).mono ?_; rintro e w1 ⟨rfl, hb1⟩
    have t1 := hW.trans (hb1.mono hW.size)
    have p1 := p0.step hb1
    have q1 := q0.step hb1
    have s1 := s0.step hb1
    clear c0_p0 c0_p1 c0_q0 c0_q1 c0_s0 c0_s1 z0_0 z0_1 p0 q0 s0
    have c1_p0 := p1.cell 0
    have c1_p1 := p1.cell 1
    have c1_q0 := q1.cell 0
    have c1_q1 := q1.cell 1
    have c1_s0 := s1.cell 0
    have c1_s1 := s1.cell 1
    have z1_0 := s1.free 0
    have z1_1 := s1.free 1
    simp at c1_p0 c1_p1 c1_q0 c1_q1 c1_s0 c1_s1
    go_wp2_with fail
    refine (H2.out _).mono ?_; rintro e w_ ⟨rfl, rfl⟩
    go_wp2_with fail
    have sF := (s1.put 0 (.int .i64 (yr))).put 1 (.int .i64 (D))
    have e0 := sF.cell 0
    have e1 := sF.cell 1
    simp at e0 e1
    refine bodyPost_ret (v := .tuple #[.agg #[.int .i64 (yr), .int .i64 (D)], .bool true]) (by simp [results, Try.results22, go_sem, e0, e1]) rfl ⟨rfl, ?_⟩
    exact (t1.setCell (p := ⟨w.heap.size + 1 + 1, 0, none⟩) (by simp <;> omega) _).setCell (p := ⟨w.heap.size + 1 + 1, 1, none⟩) (by simp <;> omega) _
set_option maxHeartbeats 1000000 in
theorem specBucketBehind_any (x : Sv) (y : Bu) (w : World) :
    Calls Try.prog 26 #[SvV x, BuV y] w (RetV w (.tuple #[BuV (bbhSays x y).1, .bool (bbhSays x y).2])) := by
  have H1 := Lib.hid fun w => specFit_any x y w
  have H2 := Lib.hid fun w => shBucket_any ⟨y.r, y.d + y.r * x.l⟩ w
  cases g1 : fitOk x y
  · rw [show bbhSays x y = (⟨0, 0⟩, false) from by simp [bbhSays, g1]]
    rw [g1] at H1
    clear H2 g1
    obtain ⟨xr, xl⟩ := x
    obtain ⟨yr, yd⟩ := y
    simp only [SvV, BuV] at *
    have hs1 : (w.alloc (.cells #[.int .i64 xr, .int .i64 xl] 25)).heap.size = w.heap.size + 1 := by simp
    have hs2 : ((w.alloc (.cells #[.int .i64 xr, .int .i64 xl] 25)).alloc (.cells #[.int .i64 yr, .int .i64 yd] 36)).heap.size = w.heap.size + 1 + 1 := by simp
    have p0 := ((BK.made w 25 #[.int .i64 xr, .int .i64 xl]).alloc (.cells #[.int .i64 yr, .int .i64 yd] 36)).alloc (.cells #[.int .i64 0, .int .i64 0] 36)
    have q0 := (BK.made (w.alloc (.cells #[.int .i64 xr, .int .i64 xl] 25)) 36 #[.int .i64 yr, .int .i64 yd]).alloc (.cells #[.int .i64 0, .int .i64 0] 36)
    rw [hs1] at q0
    have s0 := BK.made ((w.alloc (.cells #[.int .i64 xr, .int .i64 xl] 25)).alloc (.cells #[.int .i64 yr, .int .i64 yd] 36)) 36 #[.int .i64 0, .int .i64 0]
    rw [hs2] at s0
    have hW : Below w.heap.size w (((w.alloc (.cells #[.int .i64 xr, .int .i64 xl] 25)).alloc (.cells #[.int .i64 yr, .int .i64 yd] 36)).alloc (.cells #[.int .i64 0, .int .i64 0] 36)) := ((((Below.refl _ _).alloc (Nat.le_refl _) _).alloc (by rw [hs1]; omega) _).alloc (by rw [hs2]; omega) _)
    clear hs1 hs2
    have c0_p0 := p0.cell 0
    have c0_p1 := p0.cell 1
    have c0_q0 := q0.cell 0
    have c0_q1 := q0.cell 1
    have c0_s0 := s0.cell 0
    have c0_s1 := s0.cell 1
    have z0_0 := s0.free 0
    have z0_1 := s0.free 1
    simp at c0_p0 c0_p1 c0_q0 c0_q1 c0_s0 c0_s1
    go_enter Try.func26, Try.ntmps26
    go_wp2_with fail
    refine (H1.out _).mono ?_; rintro e w1 ⟨rfl, hb1⟩
    have t1 := hW.trans (hb1.mono hW.size)
    have p1 := p0.step hb1
    have q1 := q0.step hb1
    have s1 := s0.step hb1
    clear c0_p0 c0_p1 c0_q0 c0_q1 c0_s0 c0_s1 z0_0 z0_1 p0 q0 s0
    have c1_p0 := p1.cell 0
    have c1_p1 := p1.cell 1
    have c1_q0 := q1.cell 0
    have c1_q1 := q1.cell 1
    have c1_s0 := s1.cell 0
    have c1_s1 := s1.cell 1
    have z1_0 := s1.free 0
    have z1_1 := s1.free 1
    simp at c1_p0 c1_p1 c1_q0 c1_q1 c1_s0 c1_s1
    go_wp2_with fail
    have sF := (s1.put 0 (.int .i64 (0))).put 1 (.int .i64 (0))
    have e0 := sF.cell 0
    have e1 := sF.cell 1
    simp at e0 e1
    refine bodyPost_ret (v := .tuple #[.agg #[.int .i64 (0), .int .i64 (0)], .bool false]) (by simp [results, Try.results26, go_sem, e0, e1]) rfl ⟨rfl, ?_⟩
    exact (t1.setCell (p := ⟨w.heap.size + 1 + 1, 0, none⟩) (by simp <;> omega) _).setCell (p := ⟨w.heap.size + 1 + 1, 1, none⟩) (by simp <;> omega) _
  have hv := fitOk_in g1
  have hm := mul_small (a := y.r) (b := x.l) hv.2.1.1.1 hv.2.1.1.2 hv.1.2.1 hv.1.2.2
  rw [g1] at H1
  have hbo : buOk ⟨y.r, y.d + y.r * x.l⟩ = wi (y.d + y.r * x.l) 1 1000 := by
    have h9 : wi y.r 1 100 = true := by simp [wi]; omega
    simp [buOk, h9]
  rw [hbo] at H2
  clear hbo
  cases g2 : wi (y.d + y.r * x.l) 1 1000
  · rw [show bbhSays x y = (⟨0, 0⟩, false) from by simp [bbhSays, g2]]
    rw [g2] at H2
    clear g1 g2
    obtain ⟨xr, xl⟩ := x
    obtain ⟨yr, yd⟩ := y
    simp only [SvV, BuV] at *
    have hs1 : (w.alloc (.cells #[.int .i64 xr, .int .i64 xl] 25)).heap.size = w.heap.size + 1 := by simp
    have hs2 : ((w.alloc (.cells #[.int .i64 xr, .int .i64 xl] 25)).alloc (.cells #[.int .i64 yr, .int .i64 yd] 36)).heap.size = w.heap.size + 1 + 1 := by simp
    have p0 := ((BK.made w 25 #[.int .i64 xr, .int .i64 xl]).alloc (.cells #[.int .i64 yr, .int .i64 yd] 36)).alloc (.cells #[.int .i64 0, .int .i64 0] 36)
    have q0 := (BK.made (w.alloc (.cells #[.int .i64 xr, .int .i64 xl] 25)) 36 #[.int .i64 yr, .int .i64 yd]).alloc (.cells #[.int .i64 0, .int .i64 0] 36)
    rw [hs1] at q0
    have s0 := BK.made ((w.alloc (.cells #[.int .i64 xr, .int .i64 xl] 25)).alloc (.cells #[.int .i64 yr, .int .i64 yd] 36)) 36 #[.int .i64 0, .int .i64 0]
    rw [hs2] at s0
    have hW : Below w.heap.size w (((w.alloc (.cells #[.int .i64 xr, .int .i64 xl] 25)).alloc (.cells #[.int .i64 yr, .int .i64 yd] 36)).alloc (.cells #[.int .i64 0, .int .i64 0] 36)) := ((((Below.refl _ _).alloc (Nat.le_refl _) _).alloc (by rw [hs1]; omega) _).alloc (by rw [hs2]; omega) _)
    clear hs1 hs2
    have c0_p0 := p0.cell 0
    have c0_p1 := p0.cell 1
    have c0_q0 := q0.cell 0
    have c0_q1 := q0.cell 1
    have c0_s0 := s0.cell 0
    have c0_s1 := s0.cell 1
    have z0_0 := s0.free 0
    have z0_1 := s0.free 1
    simp at c0_p0 c0_p1 c0_q0 c0_q1 c0_s0 c0_s1
    go_enter Try.func26, Try.ntmps26
    go_wp2_with fail
    refine (H1.out _).mono ?_; rintro e w1 ⟨rfl, hb1⟩
    have t1 := hW.trans (hb1.mono hW.size)
    have p1 := p0.step hb1
    have q1 := q0.step hb1
    have s1 := s0.step hb1
    clear c0_p0 c0_p1 c0_q0 c0_q1 c0_s0 c0_s1 z0_0 z0_1 p0 q0 s0
    have c1_p0 := p1.cell 0
    have c1_p1 := p1.cell 1
    have c1_q0 := q1.cell 0
    have c1_q1 := q1.cell 1
    have c1_s0 := s1.cell 0
    have c1_s1 := s1.cell 1
    have z1_0 := s1.free 0
    have z1_1 := s1.free 1
    simp at c1_p0 c1_p1 c1_q0 c1_q1 c1_s0 c1_s1
    go_wp2_with fail
    have hJ : Below w1.heap.size w1 (w1.alloc (.cells #[.int .i64 yr, .int .i64 (yd + yr * xl)] 36)) := (Below.refl _ _).alloc (Nat.le_refl _) _
    have j2 := BK.made w1 36 #[.int .i64 yr, .int .i64 (yd + yr * xl)]
    have tJ := t1.trans (hJ.mono t1.size)
    have pJ := p1.step hJ
    have qJ := q1.step hJ
    have sJ := s1.step hJ
    clear c1_p0 c1_p1 c1_q0 c1_q1 c1_s0 c1_s1 z1_0 z1_1 p1 q1 s1
    refine (H2.out _).mono ?_; rintro e w2 ⟨rfl, hb2⟩
    have t2 := tJ.trans (hb2.mono tJ.size)
    have p2 := pJ.step hb2
    have q2 := qJ.step hb2
    have s2 := sJ.step hb2
    have j3 := j2.step hb2
    have c2_3_0 := j3.cell 0
    have c2_3_1 := j3.cell 1
    simp at c2_3_0 c2_3_1
    clear hJ j2 tJ pJ qJ sJ
    have c2_p0 := p2.cell 0
    have c2_p1 := p2.cell 1
    have c2_q0 := q2.cell 0
    have c2_q1 := q2.cell 1
    have c2_s0 := s2.cell 0
    have c2_s1 := s2.cell 1
    have z2_0 := s2.free 0
    have z2_1 := s2.free 1
    simp at c2_p0 c2_p1 c2_q0 c2_q1 c2_s0 c2_s1
    go_wp2_with fail
    have sF := (s2.put 0 (.int .i64 (0))).put 1 (.int .i64 (0))
    have e0 := sF.cell 0
    have e1 := sF.cell 1
    simp at e0 e1
    refine bodyPost_ret (v := .tuple #[.agg #[.int .i64 (0), .int .i64 (0)], .bool false]) (by simp [results, Try.results26, go_sem, e0, e1]) rfl ⟨rfl, ?_⟩
    exact (t2.setCell (p := ⟨w.heap.size + 1 + 1, 0, none⟩) (by simp <;> omega) _).setCell (p := ⟨w.heap.size + 1 + 1, 1, none⟩) (by simp <;> omega) _
  · rw [show bbhSays x y = (⟨y.r, y.d + y.r * x.l⟩, true) from by simp [bbhSays, g1, g2]]
    rw [g2] at H2
    clear g1 g2
    obtain ⟨xr, xl⟩ := x
    obtain ⟨yr, yd⟩ := y
    simp only [SvV, BuV] at *
    have hs1 : (w.alloc (.cells #[.int .i64 xr, .int .i64 xl] 25)).heap.size = w.heap.size + 1 := by simp
    have hs2 : ((w.alloc (.cells #[.int .i64 xr, .int .i64 xl] 25)).alloc (.cells #[.int .i64 yr, .int .i64 yd] 36)).heap.size = w.heap.size + 1 + 1 := by simp
    have p0 := ((BK.made w 25 #[.int .i64 xr, .int .i64 xl]).alloc (.cells #[.int .i64 yr, .int .i64 yd] 36)).alloc (.cells #[.int .i64 0, .int .i64 0] 36)
    have q0 := (BK.made (w.alloc (.cells #[.int .i64 xr, .int .i64 xl] 25)) 36 #[.int .i64 yr, .int .i64 yd]).alloc (.cells #[.int .i64 0, .int .i64 0] 36)
    rw [hs1] at q0
    have s0 := BK.made ((w.alloc (.cells #[.int .i64 xr, .int .i64 xl] 25)).alloc (.cells #[.int .i64 yr, .int .i64 yd] 36)) 36 #[.int .i64 0, .int .i64 0]
    rw [hs2] at s0
    have hW : Below w.heap.size w (((w.alloc (.cells #[.int .i64 xr, .int .i64 xl] 25)).alloc (.cells #[.int .i64 yr, .int .i64 yd] 36)).alloc (.cells #[.int .i64 0, .int .i64 0] 36)) := ((((Below.refl _ _).alloc (Nat.le_refl _) _).alloc (by rw [hs1]; omega) _).alloc (by rw [hs2]; omega) _)
    clear hs1 hs2
    have c0_p0 := p0.cell 0
    have c0_p1 := p0.cell 1
    have c0_q0 := q0.cell 0
    have c0_q1 := q0.cell 1
    have c0_s0 := s0.cell 0
    have c0_s1 := s0.cell 1
    have z0_0 := s0.free 0
    have z0_1 := s0.free 1
    simp at c0_p0 c0_p1 c0_q0 c0_q1 c0_s0 c0_s1
    go_enter Try.func26, Try.ntmps26
    go_wp2_with fail
    refine (H1.out _).mono ?_; rintro e w1 ⟨rfl, hb1⟩
    have t1 := hW.trans (hb1.mono hW.size)
    have p1 := p0.step hb1
    have q1 := q0.step hb1
    have s1 := s0.step hb1
    clear c0_p0 c0_p1 c0_q0 c0_q1 c0_s0 c0_s1 z0_0 z0_1 p0 q0 s0
    have c1_p0 := p1.cell 0
    have c1_p1 := p1.cell 1
    have c1_q0 := q1.cell 0
    have c1_q1 := q1.cell 1
    have c1_s0 := s1.cell 0
    have c1_s1 := s1.cell 1
    have z1_0 := s1.free 0
    have z1_1 := s1.free 1
    simp at c1_p0 c1_p1 c1_q0 c1_q1 c1_s0 c1_s1
    go_wp2_with fail
    have hJ : Below w1.heap.size w1 (w1.alloc (.cells #[.int .i64 yr, .int .i64 (yd + yr * xl)] 36)) := (Below.refl _ _).alloc (Nat.le_refl _) _
    have j2 := BK.made w1 36 #[.int .i64 yr, .int .i64 (yd + yr * xl)]
    have tJ := t1.trans (hJ.mono t1.size)
    have pJ := p1.step hJ
    have qJ := q1.step hJ
    have sJ := s1.step hJ
    clear c1_p0 c1_p1 c1_q0 c1_q1 c1_s0 c1_s1 z1_0 z1_1 p1 q1 s1
    refine (H2.out _).mono ?_; rintro e w2 ⟨rfl, hb2⟩
    have t2 := tJ.trans (hb2.mono tJ.size)
    have p2 := pJ.step hb2
    have q2 := qJ.step hb2
    have s2 := sJ.step hb2
    have j3 := j2.step hb2
    have c2_3_0 := j3.cell 0
    have c2_3_1 := j3.cell 1
    simp at c2_3_0 c2_3_1
    clear hJ j2 tJ pJ qJ sJ
    have c2_p0 := p2.cell 0
    have c2_p1 := p2.cell 1
    have c2_q0 := q2.cell 0
    have c2_q1 := q2.cell 1
    have c2_s0 := s2.cell 0
    have c2_s1 := s2.cell 1
    have z2_0 := s2.free 0
    have z2_1 := s2.free 1
    simp at c2_p0 c2_p1 c2_q0 c2_q1 c2_s0 c2_s1
    go_wp2_with fail
    have sF := (s2.put 0 (.int .i64 (yr))).put 1 (.int .i64 (yd + yr * xl))
    have e0 := sF.cell 0
    have e1 := sF.cell 1
    simp at e0 e1
    refine bodyPost_ret (v := .tuple #[.agg #[.int .i64 (yr), .int .i64 (yd + yr * xl)], .bool true]) (by simp [results, Try.results26, go_sem, e0, e1]) rfl ⟨rfl, ?_⟩
    exact (t2.setCell (p := ⟨w.heap.size + 1 + 1, 0, none⟩) (by simp <;> omega) _).setCell (p := ⟨w.heap.size + 1 + 1, 1, none⟩) (by simp <;> omega) _
end Go.Proofs.Ytlanpfcjcafapaa
