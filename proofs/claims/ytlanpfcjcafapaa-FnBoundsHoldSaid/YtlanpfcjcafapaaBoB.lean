/-
  Chapter 9: the contracts of InRow and BucketBehind, both sides, and of the laws' equality of servers.
-/
import Derived.Test.YtlanpfcjcafapaaBoA
import Derived.Deep.RegionWith
namespace Go.Proofs.Ytlanpfcjcafapaa
open Go.RowKit
set_option maxRecDepth 100000
set_option linter.unusedVariables false
theorem BK.drewS {w : World} {g : Nat} {t : TypeId} {cs : Array Value} (h : BK w g t cs) : BK w.drew g t cs := h

set_option maxHeartbeats 1000000 in
theorem implInRow_any (x y : Sv) (w : World) :
    Calls Try.prog 28 #[SvV x, SvV y] w (RetV w (.tuple #[SvV (rowSays x y).1, .bool (rowSays x y).2])) := by
  have H1 := Lib.hid fun w => implServer_any x w
  have H2 := Lib.hid fun w => implServer_any y w
  have H3 := Lib.hid fun w => implServer_any (joinV x y) w
  cases g1 : svOk x
  · rw [show rowSays x y = (⟨0, 0⟩, false) from by simp [rowSays, g1]]
    rw [g1] at H1
    clear H2 H3 g1
    obtain ⟨xr, xl⟩ := x
    obtain ⟨yr, yl⟩ := y
    simp only [SvV] at *
    have hs1 : (w.alloc (.cells #[.int .i64 xr, .int .i64 xl] 25)).heap.size = w.heap.size + 1 := by simp
    have hs2 : ((w.alloc (.cells #[.int .i64 xr, .int .i64 xl] 25)).alloc (.cells #[.int .i64 yr, .int .i64 yl] 25)).heap.size = w.heap.size + 1 + 1 := by simp
    have p0 := ((BK.made w 25 #[.int .i64 xr, .int .i64 xl]).alloc (.cells #[.int .i64 yr, .int .i64 yl] 25)).alloc (.cells #[.int .i64 0, .int .i64 0] 25)
    have q0 := (BK.made (w.alloc (.cells #[.int .i64 xr, .int .i64 xl] 25)) 25 #[.int .i64 yr, .int .i64 yl]).alloc (.cells #[.int .i64 0, .int .i64 0] 25)
    rw [hs1] at q0
    have s0 := BK.made ((w.alloc (.cells #[.int .i64 xr, .int .i64 xl] 25)).alloc (.cells #[.int .i64 yr, .int .i64 yl] 25)) 25 #[.int .i64 0, .int .i64 0]
    rw [hs2] at s0
    have hW : Below w.heap.size w (((w.alloc (.cells #[.int .i64 xr, .int .i64 xl] 25)).alloc (.cells #[.int .i64 yr, .int .i64 yl] 25)).alloc (.cells #[.int .i64 0, .int .i64 0] 25)) := ((((Below.refl _ _).alloc (Nat.le_refl _) _).alloc (by rw [hs1]; omega) _).alloc (by rw [hs2]; omega) _)
    clear hs1 hs2
    have c0_p0 := p0.cell 0
    have c0_p1 := p0.cell 1
    have c0_q0 := q0.cell 0
    have c0_q1 := q0.cell 1
    have c0_s0 := s0.cell 0
    have c0_s1 := s0.cell 1
    have z0_0 := s0.free 0
    have z0_1 := s0.free 1
    simp at c0_p0 c0_p1 c0_q0 c0_q1 c0_s0 c0_s1
    skip
    go_enter Try.func28, Try.ntmps28
    go_wp2_with fail
    refine (H1.out _).mono ?_; rintro e w1 ⟨rfl, hb1⟩
    have t1 := hW.trans (hb1.mono hW.size)
    have p1 := p0.step hb1
    have q1 := q0.step hb1
    have s1 := s0.step hb1
    clear c0_p0 c0_p1 c0_q0 c0_q1 c0_s0 c0_s1 z0_0 z0_1 p0 q0 s0
    have c1_p0 := p1.cell 0
    have c1_p1 := p1.cell 1
    have c1_q0 := q1.cell 0
    have c1_q1 := q1.cell 1
    have c1_s0 := s1.cell 0
    have c1_s1 := s1.cell 1
    have z1_0 := s1.free 0
    have z1_1 := s1.free 1
    simp at c1_p0 c1_p1 c1_q0 c1_q1 c1_s0 c1_s1
    go_wp2_with fail
    have sF := (s1.put 0 (.int .i64 (0))).put 1 (.int .i64 (0))
    have e0 := sF.cell 0
    have e1 := sF.cell 1
    simp at e0 e1
    refine bodyPost_ret (v := .tuple #[.agg #[.int .i64 (0), .int .i64 (0)], .bool false]) (by simp [results, Try.results28, go_sem, e0, e1]) rfl ⟨rfl, ?_⟩
    exact (t1.setCell (p := ⟨w.heap.size + 1 + 1, 0, none⟩) (by simp <;> omega) _).setCell (p := ⟨w.heap.size + 1 + 1, 1, none⟩) (by simp <;> omega) _
  cases g2 : svOk y
  · rw [show rowSays x y = (⟨0, 0⟩, false) from by simp [rowSays, g2]]
    rw [g1] at H1
    rw [g2] at H2
    clear H3 g1 g2
    obtain ⟨xr, xl⟩ := x
    obtain ⟨yr, yl⟩ := y
    simp only [SvV] at *
    have hs1 : (w.alloc (.cells #[.int .i64 xr, .int .i64 xl] 25)).heap.size = w.heap.size + 1 := by simp
    have hs2 : ((w.alloc (.cells #[.int .i64 xr, .int .i64 xl] 25)).alloc (.cells #[.int .i64 yr, .int .i64 yl] 25)).heap.size = w.heap.size + 1 + 1 := by simp
    have p0 := ((BK.made w 25 #[.int .i64 xr, .int .i64 xl]).alloc (.cells #[.int .i64 yr, .int .i64 yl] 25)).alloc (.cells #[.int .i64 0, .int .i64 0] 25)
    have q0 := (BK.made (w.alloc (.cells #[.int .i64 xr, .int .i64 xl] 25)) 25 #[.int .i64 yr, .int .i64 yl]).alloc (.cells #[.int .i64 0, .int .i64 0] 25)
    rw [hs1] at q0
    have s0 := BK.made ((w.alloc (.cells #[.int .i64 xr, .int .i64 xl] 25)).alloc (.cells #[.int .i64 yr, .int .i64 yl] 25)) 25 #[.int .i64 0, .int .i64 0]
    rw [hs2] at s0
    have hW : Below w.heap.size w (((w.alloc (.cells #[.int .i64 xr, .int .i64 xl] 25)).alloc (.cells #[.int .i64 yr, .int .i64 yl] 25)).alloc (.cells #[.int .i64 0, .int .i64 0] 25)) := ((((Below.refl _ _).alloc (Nat.le_refl _) _).alloc (by rw [hs1]; omega) _).alloc (by rw [hs2]; omega) _)
    clear hs1 hs2
    have c0_p0 := p0.cell 0
    have c0_p1 := p0.cell 1
    have c0_q0 := q0.cell 0
    have c0_q1 := q0.cell 1
    have c0_s0 := s0.cell 0
    have c0_s1 := s0.cell 1
    have z0_0 := s0.free 0
    have z0_1 := s0.free 1
    simp at c0_p0 c0_p1 c0_q0 c0_q1 c0_s0 c0_s1
    skip
    go_enter Try.func28, Try.ntmps28
    go_wp2_with fail
    refine (H1.out _).mono ?_; rintro e w1 ⟨rfl, hb1⟩
    have t1 := hW.trans (hb1.mono hW.size)
    have p1 := p0.step hb1
    have q1 := q0.step hb1
    have s1 := s0.step hb1
    clear c0_p0 c0_p1 c0_q0 c0_q1 c0_s0 c0_s1 z0_0 z0_1 p0 q0 s0
    have c1_p0 := p1.cell 0
    have c1_p1 := p1.cell 1
    have c1_q0 := q1.cell 0
    have c1_q1 := q1.cell 1
    have c1_s0 := s1.cell 0
    have c1_s1 := s1.cell 1
    have z1_0 := s1.free 0
    have z1_1 := s1.free 1
    simp at c1_p0 c1_p1 c1_q0 c1_q1 c1_s0 c1_s1
    go_wp2_with fail
    refine (H2.out _).mono ?_; rintro e w2 ⟨rfl, hb2⟩
    have t2 := t1.trans (hb2.mono t1.size)
    have p2 := p1.step hb2
    have q2 := q1.step hb2
    have s2 := s1.step hb2
    clear c1_p0 c1_p1 c1_q0 c1_q1 c1_s0 c1_s1 z1_0 z1_1 p1 q1 s1
    have c2_p0 := p2.cell 0
    have c2_p1 := p2.cell 1
    have c2_q0 := q2.cell 0
    have c2_q1 := q2.cell 1
    have c2_s0 := s2.cell 0
    have c2_s1 := s2.cell 1
    have z2_0 := s2.free 0
    have z2_1 := s2.free 1
    simp at c2_p0 c2_p1 c2_q0 c2_q1 c2_s0 c2_s1
    go_wp2_with fail
    have sF := (s2.put 0 (.int .i64 (0))).put 1 (.int .i64 (0))
    have e0 := sF.cell 0
    have e1 := sF.cell 1
    simp at e0 e1
    refine bodyPost_ret (v := .tuple #[.agg #[.int .i64 (0), .int .i64 (0)], .bool false]) (by simp [results, Try.results28, go_sem, e0, e1]) rfl ⟨rfl, ?_⟩
    exact (t2.setCell (p := ⟨w.heap.size + 1 + 1, 0, none⟩) (by simp <;> omega) _).setCell (p := ⟨w.heap.size + 1 + 1, 1, none⟩) (by simp <;> omega) _
  have hin1 := svOk_in g1
  have hin2 := svOk_in g2
  cases g3 : svOk (joinV x y)
  · rw [show rowSays x y = (⟨0, 0⟩, false) from by simp [rowSays, g3]]
    rw [g1] at H1
    rw [g2] at H2
    rw [g3] at H3
    clear g1 g2 g3
    obtain ⟨xr, xl⟩ := x
    obtain ⟨yr, yl⟩ := y
    simp only [SvV, joinV] at *
    obtain ⟨m, hm⟩ : ∃ m, min xr yr = m := ⟨_, rfl⟩
    rw [hm] at H3
    have hm2 : (if yr < xr then yr else xr) = m := by split <;> omega
    have hs1 : (w.alloc (.cells #[.int .i64 xr, .int .i64 xl] 25)).heap.size = w.heap.size + 1 := by simp
    have hs2 : ((w.alloc (.cells #[.int .i64 xr, .int .i64 xl] 25)).alloc (.cells #[.int .i64 yr, .int .i64 yl] 25)).heap.size = w.heap.size + 1 + 1 := by simp
    have p0 := ((BK.made w 25 #[.int .i64 xr, .int .i64 xl]).alloc (.cells #[.int .i64 yr, .int .i64 yl] 25)).alloc (.cells #[.int .i64 0, .int .i64 0] 25)
    have q0 := (BK.made (w.alloc (.cells #[.int .i64 xr, .int .i64 xl] 25)) 25 #[.int .i64 yr, .int .i64 yl]).alloc (.cells #[.int .i64 0, .int .i64 0] 25)
    rw [hs1] at q0
    have s0 := BK.made ((w.alloc (.cells #[.int .i64 xr, .int .i64 xl] 25)).alloc (.cells #[.int .i64 yr, .int .i64 yl] 25)) 25 #[.int .i64 0, .int .i64 0]
    rw [hs2] at s0
    have hW : Below w.heap.size w (((w.alloc (.cells #[.int .i64 xr, .int .i64 xl] 25)).alloc (.cells #[.int .i64 yr, .int .i64 yl] 25)).alloc (.cells #[.int .i64 0, .int .i64 0] 25)) := ((((Below.refl _ _).alloc (Nat.le_refl _) _).alloc (by rw [hs1]; omega) _).alloc (by rw [hs2]; omega) _)
    clear hs1 hs2
    have c0_p0 := p0.cell 0
    have c0_p1 := p0.cell 1
    have c0_q0 := q0.cell 0
    have c0_q1 := q0.cell 1
    have c0_s0 := s0.cell 0
    have c0_s1 := s0.cell 1
    have z0_0 := s0.free 0
    have z0_1 := s0.free 1
    simp at c0_p0 c0_p1 c0_q0 c0_q1 c0_s0 c0_s1
    skip
    go_enter Try.func28, Try.ntmps28
    go_wp2_with fail
    refine (H1.out _).mono ?_; rintro e w1 ⟨rfl, hb1⟩
    have t1 := hW.trans (hb1.mono hW.size)
    have p1 := p0.step hb1
    have q1 := q0.step hb1
    have s1 := s0.step hb1
    clear c0_p0 c0_p1 c0_q0 c0_q1 c0_s0 c0_s1 z0_0 z0_1 p0 q0 s0
    have c1_p0 := p1.cell 0
    have c1_p1 := p1.cell 1
    have c1_q0 := q1.cell 0
    have c1_q1 := q1.cell 1
    have c1_s0 := s1.cell 0
    have c1_s1 := s1.cell 1
    have z1_0 := s1.free 0
    have z1_1 := s1.free 1
    simp at c1_p0 c1_p1 c1_q0 c1_q1 c1_s0 c1_s1
    go_wp2_with fail
    refine (H2.out _).mono ?_; rintro e w2 ⟨rfl, hb2⟩
    have t2 := t1.trans (hb2.mono t1.size)
    have p2 := p1.step hb2
    have q2 := q1.step hb2
    have s2 := s1.step hb2
    clear c1_p0 c1_p1 c1_q0 c1_q1 c1_s0 c1_s1 z1_0 z1_1 p1 q1 s1
    have c2_p0 := p2.cell 0
    have c2_p1 := p2.cell 1
    have c2_q0 := q2.cell 0
    have c2_q1 := q2.cell 1
    have c2_s0 := s2.cell 0
    have c2_s1 := s2.cell 1
    have z2_0 := s2.free 0
    have z2_1 := s2.free 1
    simp at c2_p0 c2_p1 c2_q0 c2_q1 c2_s0 c2_s1
    go_wp2_with fail
    have hJ : Below w2.heap.size w2 (w2.alloc (.cells #[.int .i64 m, .int .i64 (xl + yl)] 25)) := (Below.refl _ _).alloc (Nat.le_refl _) _
    have j2 := BK.made w2 25 #[.int .i64 m, .int .i64 (xl + yl)]
    have tJ := t2.trans (hJ.mono t2.size)
    have pJ := p2.step hJ
    have qJ := q2.step hJ
    have sJ := s2.step hJ
    clear c2_p0 c2_p1 c2_q0 c2_q1 c2_s0 c2_s1 z2_0 z2_1 p2 q2 s2
    refine (H3.out _).mono ?_; rintro e w3 ⟨rfl, hb3⟩
    have t3 := tJ.trans (hb3.mono tJ.size)
    have p3 := pJ.step hb3
    have q3 := qJ.step hb3
    have s3 := sJ.step hb3
    have j3 := j2.step hb3
    have c3_3_0 := j3.cell 0
    have c3_3_1 := j3.cell 1
    simp at c3_3_0 c3_3_1
    clear hJ j2 tJ pJ qJ sJ
    have c3_p0 := p3.cell 0
    have c3_p1 := p3.cell 1
    have c3_q0 := q3.cell 0
    have c3_q1 := q3.cell 1
    have c3_s0 := s3.cell 0
    have c3_s1 := s3.cell 1
    have z3_0 := s3.free 0
    have z3_1 := s3.free 1
    simp at c3_p0 c3_p1 c3_q0 c3_q1 c3_s0 c3_s1
    go_wp2_with fail
    have sF := (s3.put 0 (.int .i64 (0))).put 1 (.int .i64 (0))
    have e0 := sF.cell 0
    have e1 := sF.cell 1
    simp at e0 e1
    refine bodyPost_ret (v := .tuple #[.agg #[.int .i64 (0), .int .i64 (0)], .bool false]) (by simp [results, Try.results28, go_sem, e0, e1]) rfl ⟨rfl, ?_⟩
    exact (t3.setCell (p := ⟨w.heap.size + 1 + 1, 0, none⟩) (by simp <;> omega) _).setCell (p := ⟨w.heap.size + 1 + 1, 1, none⟩) (by simp <;> omega) _
  · rw [show rowSays x y = (joinV x y, true) from by simp [rowSays, g1, g2, g3]]
    rw [g1] at H1
    rw [g2] at H2
    rw [g3] at H3
    clear g1 g2 g3
    obtain ⟨xr, xl⟩ := x
    obtain ⟨yr, yl⟩ := y
    simp only [SvV, joinV] at *
    obtain ⟨m, hm⟩ : ∃ m, min xr yr = m := ⟨_, rfl⟩
    rw [hm] at H3 ⊢
    have hm2 : (if yr < xr then yr else xr) = m := by split <;> omega
    have hs1 : (w.alloc (.cells #[.int .i64 xr, .int .i64 xl] 25)).heap.size = w.heap.size + 1 := by simp
    have hs2 : ((w.alloc (.cells #[.int .i64 xr, .int .i64 xl] 25)).alloc (.cells #[.int .i64 yr, .int .i64 yl] 25)).heap.size = w.heap.size + 1 + 1 := by simp
    have p0 := ((BK.made w 25 #[.int .i64 xr, .int .i64 xl]).alloc (.cells #[.int .i64 yr, .int .i64 yl] 25)).alloc (.cells #[.int .i64 0, .int .i64 0] 25)
    have q0 := (BK.made (w.alloc (.cells #[.int .i64 xr, .int .i64 xl] 25)) 25 #[.int .i64 yr, .int .i64 yl]).alloc (.cells #[.int .i64 0, .int .i64 0] 25)
    rw [hs1] at q0
    have s0 := BK.made ((w.alloc (.cells #[.int .i64 xr, .int .i64 xl] 25)).alloc (.cells #[.int .i64 yr, .int .i64 yl] 25)) 25 #[.int .i64 0, .int .i64 0]
    rw [hs2] at s0
    have hW : Below w.heap.size w (((w.alloc (.cells #[.int .i64 xr, .int .i64 xl] 25)).alloc (.cells #[.int .i64 yr, .int .i64 yl] 25)).alloc (.cells #[.int .i64 0, .int .i64 0] 25)) := ((((Below.refl _ _).alloc (Nat.le_refl _) _).alloc (by rw [hs1]; omega) _).alloc (by rw [hs2]; omega) _)
    clear hs1 hs2
    have c0_p0 := p0.cell 0
    have c0_p1 := p0.cell 1
    have c0_q0 := q0.cell 0
    have c0_q1 := q0.cell 1
    have c0_s0 := s0.cell 0
    have c0_s1 := s0.cell 1
    have z0_0 := s0.free 0
    have z0_1 := s0.free 1
    simp at c0_p0 c0_p1 c0_q0 c0_q1 c0_s0 c0_s1
    skip
    go_enter Try.func28, Try.ntmps28
    go_wp2_with fail
    refine (H1.out _).mono ?_; rintro e w1 ⟨rfl, hb1⟩
    have t1 := hW.trans (hb1.mono hW.size)
    have p1 := p0.step hb1
    have q1 := q0.step hb1
    have s1 := s0.step hb1
    clear c0_p0 c0_p1 c0_q0 c0_q1 c0_s0 c0_s1 z0_0 z0_1 p0 q0 s0
    have c1_p0 := p1.cell 0
    have c1_p1 := p1.cell 1
    have c1_q0 := q1.cell 0
    have c1_q1 := q1.cell 1
    have c1_s0 := s1.cell 0
    have c1_s1 := s1.cell 1
    have z1_0 := s1.free 0
    have z1_1 := s1.free 1
    simp at c1_p0 c1_p1 c1_q0 c1_q1 c1_s0 c1_s1
    go_wp2_with fail
    refine (H2.out _).mono ?_; rintro e w2 ⟨rfl, hb2⟩
    have t2 := t1.trans (hb2.mono t1.size)
    have p2 := p1.step hb2
    have q2 := q1.step hb2
    have s2 := s1.step hb2
    clear c1_p0 c1_p1 c1_q0 c1_q1 c1_s0 c1_s1 z1_0 z1_1 p1 q1 s1
    have c2_p0 := p2.cell 0
    have c2_p1 := p2.cell 1
    have c2_q0 := q2.cell 0
    have c2_q1 := q2.cell 1
    have c2_s0 := s2.cell 0
    have c2_s1 := s2.cell 1
    have z2_0 := s2.free 0
    have z2_1 := s2.free 1
    simp at c2_p0 c2_p1 c2_q0 c2_q1 c2_s0 c2_s1
    go_wp2_with fail
    have hJ : Below w2.heap.size w2 (w2.alloc (.cells #[.int .i64 m, .int .i64 (xl + yl)] 25)) := (Below.refl _ _).alloc (Nat.le_refl _) _
    have j2 := BK.made w2 25 #[.int .i64 m, .int .i64 (xl + yl)]
    have tJ := t2.trans (hJ.mono t2.size)
    have pJ := p2.step hJ
    have qJ := q2.step hJ
    have sJ := s2.step hJ
    clear c2_p0 c2_p1 c2_q0 c2_q1 c2_s0 c2_s1 z2_0 z2_1 p2 q2 s2
    refine (H3.out _).mono ?_; rintro e w3 ⟨rfl, hb3⟩
    have t3 := tJ.trans (hb3.mono tJ.size)
    have p3 := pJ.step hb3
    have q3 := qJ.step hb3
    have s3 := sJ.step hb3
    have j3 := j2.step hb3
    have c3_3_0 := j3.cell 0
    have c3_3_1 := j3.cell 1
    simp at c3_3_0 c3_3_1
    clear hJ j2 tJ pJ qJ sJ
    have c3_p0 := p3.cell 0
    have c3_p1 := p3.cell 1
    have c3_q0 := q3.cell 0
    have c3_q1 := q3.cell 1
    have c3_s0 := s3.cell 0
    have c3_s1 := s3.cell 1
    have z3_0 := s3.free 0
    have z3_1 := s3.free 1
    simp at c3_p0 c3_p1 c3_q0 c3_q1 c3_s0 c3_s1
    go_wp2_with fail
    have sF := (s3.put 0 (.int .i64 (m))).put 1 (.int .i64 (xl + yl))
    have e0 := sF.cell 0
    have e1 := sF.cell 1
    simp at e0 e1
    refine bodyPost_ret (v := .tuple #[.agg #[.int .i64 (m), .int .i64 (xl + yl)], .bool true]) (by simp [results, Try.results28, go_sem, e0, e1]) rfl ⟨rfl, ?_⟩
    exact (t3.setCell (p := ⟨w.heap.size + 1 + 1, 0, none⟩) (by simp <;> omega) _).setCell (p := ⟨w.heap.size + 1 + 1, 1, none⟩) (by simp <;> omega) _
set_option maxHeartbeats 1000000 in
theorem specInRow_any (x y : Sv) (w : World) :
    Calls Try.prog 29 #[SvV x, SvV y] w (RetV w (.tuple #[SvV (rowSays x y).1, .bool (rowSays x y).2])) := by
  have H1 := Lib.hid fun w => boServer_any x w
  have H2 := Lib.hid fun w => boServer_any y w
  have H3 := Lib.hid fun w => boServer_any (joinV x y) w
  cases g1 : svOk x
  · rw [show rowSays x y = (⟨0, 0⟩, false) from by simp [rowSays, g1]]
    rw [g1] at H1
    clear H2 H3 g1
    obtain ⟨xr, xl⟩ := x
    obtain ⟨yr, yl⟩ := y
    simp only [SvV] at *
    have hs1 : (w.alloc (.cells #[.int .i64 xr, .int .i64 xl] 25)).heap.size = w.heap.size + 1 := by simp
    have hs2 : ((w.alloc (.cells #[.int .i64 xr, .int .i64 xl] 25)).alloc (.cells #[.int .i64 yr, .int .i64 yl] 25)).heap.size = w.heap.size + 1 + 1 := by simp
    have p0 := ((BK.made w 25 #[.int .i64 xr, .int .i64 xl]).alloc (.cells #[.int .i64 yr, .int .i64 yl] 25)).alloc (.cells #[.int .i64 0, .int .i64 0] 25)
    have q0 := (BK.made (w.alloc (.cells #[.int .i64 xr, .int .i64 xl] 25)) 25 #[.int .i64 yr, .int .i64 yl]).alloc (.cells #[.int .i64 0, .int .i64 0] 25)
    rw [hs1] at q0
    have s0 := BK.made ((w.alloc (.cells #[.int .i64 xr, .int .i64 xl] 25)).alloc (.cells #[.int .i64 yr, .int .i64 yl] 25)) 25 #[.int .i64 0, .int .i64 0]
    rw [hs2] at s0
    have hW : Below w.heap.size w (((w.alloc (.cells #[.int .i64 xr, .int .i64 xl] 25)).alloc (.cells #[.int .i64 yr, .int .i64 yl] 25)).alloc (.cells #[.int .i64 0, .int .i64 0] 25)) := ((((Below.refl _ _).alloc (Nat.le_refl _) _).alloc (by rw [hs1]; omega) _).alloc (by rw [hs2]; omega) _)
    clear hs1 hs2
    have c0_p0 := p0.cell 0
    have c0_p1 := p0.cell 1
    have c0_q0 := q0.cell 0
    have c0_q1 := q0.cell 1
    have c0_s0 := s0.cell 0
    have c0_s1 := s0.cell 1
    have z0_0 := s0.free 0
    have z0_1 := s0.free 1
    simp at c0_p0 c0_p1 c0_q0 c0_q1 c0_s0 c0_s1
    skip
    go_enter Try.func29, Try.ntmps29
    go_wp2_with fail
    refine (H1.out _).mono ?_; rintro e w1 ⟨rfl, hb1⟩
    have t1 := hW.trans (hb1.mono hW.size)
    have p1 := p0.step hb1
    have q1 := q0.step hb1
    have s1 := s0.step hb1
    clear c0_p0 c0_p1 c0_q0 c0_q1 c0_s0 c0_s1 z0_0 z0_1 p0 q0 s0
    have c1_p0 := p1.cell 0
    have c1_p1 := p1.cell 1
    have c1_q0 := q1.cell 0
    have c1_q1 := q1.cell 1
    have c1_s0 := s1.cell 0
    have c1_s1 := s1.cell 1
    have z1_0 := s1.free 0
    have z1_1 := s1.free 1
    simp at c1_p0 c1_p1 c1_q0 c1_q1 c1_s0 c1_s1
    go_wp2_with fail
    have sF := (s1.put 0 (.int .i64 (0))).put 1 (.int .i64 (0))
    have e0 := sF.cell 0
    have e1 := sF.cell 1
    simp at e0 e1
    refine bodyPost_ret (v := .tuple #[.agg #[.int .i64 (0), .int .i64 (0)], .bool false]) (by simp [results, Try.results29, go_sem, e0, e1]) rfl ⟨rfl, ?_⟩
    exact (t1.setCell (p := ⟨w.heap.size + 1 + 1, 0, none⟩) (by simp <;> omega) _).setCell (p := ⟨w.heap.size + 1 + 1, 1, none⟩) (by simp <;> omega) _
  cases g2 : svOk y
  · rw [show rowSays x y = (⟨0, 0⟩, false) from by simp [rowSays, g2]]
    rw [g1] at H1
    rw [g2] at H2
    clear H3 g1 g2
    obtain ⟨xr, xl⟩ := x
    obtain ⟨yr, yl⟩ := y
    simp only [SvV] at *
    have hs1 : (w.alloc (.cells #[.int .i64 xr, .int .i64 xl] 25)).heap.size = w.heap.size + 1 := by simp
    have hs2 : ((w.alloc (.cells #[.int .i64 xr, .int .i64 xl] 25)).alloc (.cells #[.int .i64 yr, .int .i64 yl] 25)).heap.size = w.heap.size + 1 + 1 := by simp
    have p0 := ((BK.made w 25 #[.int .i64 xr, .int .i64 xl]).alloc (.cells #[.int .i64 yr, .int .i64 yl] 25)).alloc (.cells #[.int .i64 0, .int .i64 0] 25)
    have q0 := (BK.made (w.alloc (.cells #[.int .i64 xr, .int .i64 xl] 25)) 25 #[.int .i64 yr, .int .i64 yl]).alloc (.cells #[.int .i64 0, .int .i64 0] 25)
    rw [hs1] at q0
    have s0 := BK.made ((w.alloc (.cells #[.int .i64 xr, .int .i64 xl] 25)).alloc (.cells #[.int .i64 yr, .int .i64 yl] 25)) 25 #[.int .i64 0, .int .i64 0]
    rw [hs2] at s0
    have hW : Below w.heap.size w (((w.alloc (.cells #[.int .i64 xr, .int .i64 xl] 25)).alloc (.cells #[.int .i64 yr, .int .i64 yl] 25)).alloc (.cells #[.int .i64 0, .int .i64 0] 25)) := ((((Below.refl _ _).alloc (Nat.le_refl _) _).alloc (by rw [hs1]; omega) _).alloc (by rw [hs2]; omega) _)
    clear hs1 hs2
    have c0_p0 := p0.cell 0
    have c0_p1 := p0.cell 1
    have c0_q0 := q0.cell 0
    have c0_q1 := q0.cell 1
    have c0_s0 := s0.cell 0
    have c0_s1 := s0.cell 1
    have z0_0 := s0.free 0
    have z0_1 := s0.free 1
    simp at c0_p0 c0_p1 c0_q0 c0_q1 c0_s0 c0_s1
    skip
    go_enter Try.func29, Try.ntmps29
    go_wp2_with fail
    refine (H1.out _).mono ?_; rintro e w1 ⟨rfl, hb1⟩
    have t1 := hW.trans (hb1.mono hW.size)
    have p1 := p0.step hb1
    have q1 := q0.step hb1
    have s1 := s0.step hb1
    clear c0_p0 c0_p1 c0_q0 c0_q1 c0_s0 c0_s1 z0_0 z0_1 p0 q0 s0
    have c1_p0 := p1.cell 0
    have c1_p1 := p1.cell 1
    have c1_q0 := q1.cell 0
    have c1_q1 := q1.cell 1
    have c1_s0 := s1.cell 0
    have c1_s1 := s1.cell 1
    have z1_0 := s1.free 0
    have z1_1 := s1.free 1
    simp at c1_p0 c1_p1 c1_q0 c1_q1 c1_s0 c1_s1
    go_wp2_with fail
    refine (H2.out _).mono ?_; rintro e w2 ⟨rfl, hb2⟩
    have t2 := t1.trans (hb2.mono t1.size)
    have p2 := p1.step hb2
    have q2 := q1.step hb2
    have s2 := s1.step hb2
    clear c1_p0 c1_p1 c1_q0 c1_q1 c1_s0 c1_s1 z1_0 z1_1 p1 q1 s1
    have c2_p0 := p2.cell 0
    have c2_p1 := p2.cell 1
    have c2_q0 := q2.cell 0
    have c2_q1 := q2.cell 1
    have c2_s0 := s2.cell 0
    have c2_s1 := s2.cell 1
    have z2_0 := s2.free 0
    have z2_1 := s2.free 1
    simp at c2_p0 c2_p1 c2_q0 c2_q1 c2_s0 c2_s1
    go_wp2_with fail
    have sF := (s2.put 0 (.int .i64 (0))).put 1 (.int .i64 (0))
    have e0 := sF.cell 0
    have e1 := sF.cell 1
    simp at e0 e1
    refine bodyPost_ret (v := .tuple #[.agg #[.int .i64 (0), .int .i64 (0)], .bool false]) (by simp [results, Try.results29, go_sem, e0, e1]) rfl ⟨rfl, ?_⟩
    exact (t2.setCell (p := ⟨w.heap.size + 1 + 1, 0, none⟩) (by simp <;> omega) _).setCell (p := ⟨w.heap.size + 1 + 1, 1, none⟩) (by simp <;> omega) _
  have hin1 := svOk_in g1
  have hin2 := svOk_in g2
  cases g3 : svOk (joinV x y)
  · rw [show rowSays x y = (⟨0, 0⟩, false) from by simp [rowSays, g3]]
    rw [g1] at H1
    rw [g2] at H2
    rw [g3] at H3
    clear g1 g2 g3
    obtain ⟨xr, xl⟩ := x
    obtain ⟨yr, yl⟩ := y
    simp only [SvV, joinV] at *
    obtain ⟨m, hm⟩ : ∃ m, min xr yr = m := ⟨_, rfl⟩
    rw [hm] at H3
    have hs1 : (w.alloc (.cells #[.int .i64 xr, .int .i64 xl] 25)).heap.size = w.heap.size + 1 := by simp
    have hs2 : ((w.alloc (.cells #[.int .i64 xr, .int .i64 xl] 25)).alloc (.cells #[.int .i64 yr, .int .i64 yl] 25)).heap.size = w.heap.size + 1 + 1 := by simp
    have p0 := ((BK.made w 25 #[.int .i64 xr, .int .i64 xl]).alloc (.cells #[.int .i64 yr, .int .i64 yl] 25)).alloc (.cells #[.int .i64 0, .int .i64 0] 25)
    have q0 := (BK.made (w.alloc (.cells #[.int .i64 xr, .int .i64 xl] 25)) 25 #[.int .i64 yr, .int .i64 yl]).alloc (.cells #[.int .i64 0, .int .i64 0] 25)
    rw [hs1] at q0
    have s0 := BK.made ((w.alloc (.cells #[.int .i64 xr, .int .i64 xl] 25)).alloc (.cells #[.int .i64 yr, .int .i64 yl] 25)) 25 #[.int .i64 0, .int .i64 0]
    rw [hs2] at s0
    have hW : Below w.heap.size w (((w.alloc (.cells #[.int .i64 xr, .int .i64 xl] 25)).alloc (.cells #[.int .i64 yr, .int .i64 yl] 25)).alloc (.cells #[.int .i64 0, .int .i64 0] 25)) := ((((Below.refl _ _).alloc (Nat.le_refl _) _).alloc (by rw [hs1]; omega) _).alloc (by rw [hs2]; omega) _)
    clear hs1 hs2
    have HLE := Lib.hid fun W => shLeast_any xr yr W
    rw [hm] at HLE
    have c0_p0 := p0.cell 0
    have c0_p1 := p0.cell 1
    have c0_q0 := q0.cell 0
    have c0_q1 := q0.cell 1
    have c0_s0 := s0.cell 0
    have c0_s1 := s0.cell 1
    have z0_0 := s0.free 0
    have z0_1 := s0.free 1
    simp at c0_p0 c0_p1 c0_q0 c0_q1 c0_s0 c0_s1
    clear hm
    go_enter Try.func29, Try.ntmps29
    go_wp2_with fail
    refine (H1.out _).mono ?_; rintro e w1 ⟨rfl, hb1⟩
    have t1 := hW.trans (hb1.mono hW.size)
    have p1 := p0.step hb1
    have q1 := q0.step hb1
    have s1 := s0.step hb1
    clear c0_p0 c0_p1 c0_q0 c0_q1 c0_s0 c0_s1 z0_0 z0_1 p0 q0 s0
    have c1_p0 := p1.cell 0
    have c1_p1 := p1.cell 1
    have c1_q0 := q1.cell 0
    have c1_q1 := q1.cell 1
    have c1_s0 := s1.cell 0
    have c1_s1 := s1.cell 1
    have z1_0 := s1.free 0
    have z1_1 := s1.free 1
    simp at c1_p0 c1_p1 c1_q0 c1_q1 c1_s0 c1_s1
    go_wp2_with fail
    refine (H2.out _).mono ?_; rintro e w2 ⟨rfl, hb2⟩
    have t2 := t1.trans (hb2.mono t1.size)
    have p2 := p1.step hb2
    have q2 := q1.step hb2
    have s2 := s1.step hb2
    clear c1_p0 c1_p1 c1_q0 c1_q1 c1_s0 c1_s1 z1_0 z1_1 p1 q1 s1
    have c2_p0 := p2.cell 0
    have c2_p1 := p2.cell 1
    have c2_q0 := q2.cell 0
    have c2_q1 := q2.cell 1
    have c2_s0 := s2.cell 0
    have c2_s1 := s2.cell 1
    have z2_0 := s2.free 0
    have z2_1 := s2.free 1
    simp at c2_p0 c2_p1 c2_q0 c2_q1 c2_s0 c2_s1
    have hwr : IntKind.i64.wrap (xl + yl) = xl + yl := IntWalk.i64_in _ (by omega)
    have HCL := Lib.hid fun W (hb : Below w2.heap.size w2 W) => (⟨(p2.step hb).cell 0, (p2.step hb).cell 1, (q2.step hb).cell 0, (q2.step hb).cell 1⟩ : W.cell? ⟨w.heap.size, 0, none⟩ = some (.int .i64 xr) ∧ W.cell? ⟨w.heap.size, 1, none⟩ = some (.int .i64 xl) ∧ W.cell? ⟨w.heap.size + 1, 0, none⟩ = some (.int .i64 yr) ∧ W.cell? ⟨w.heap.size + 1, 1, none⟩ = some (.int .i64 yl))
    have hz : Below w2.heap.size w2 w2 := Below.refl _ _
    have hd : Below w2.heap.size w2 w2.drew := (Below.refl _ _).drew
    obtain ⟨c4, c5, c6, c7⟩ := HCL.out _ (hz.alloc (Nat.le_refl _) (.cells #[.int .i64 0, .int .i64 0] 25))
    have HP2 := Lib.hid p2
    have HQ2 := Lib.hid q2
    have HS2 := Lib.hid s2
    have HT2 := Lib.hid t2
    clear p2 q2 s2 t2
    go_upto_region 3 with fail
    go_cut [6] (fun s6 wx => s6 = .pointer (some ⟨w2.heap.size, 0, none⟩) ∧ Hid (BK wx w2.heap.size 25 #[.int .i64 m, .int .i64 (xl + yl)]) ∧ Hid (Below w2.heap.size w2 wx))
    case first =>
      go_region_held3 (fun w' => w'.cell? ⟨w.heap.size, 0, none⟩ = some (.int .i64 xr) ∧ w'.cell? ⟨w.heap.size, 1, none⟩ = some (.int .i64 xl) ∧ w'.cell? ⟨w.heap.size + 1, 0, none⟩ = some (.int .i64 yr) ∧ w'.cell? ⟨w.heap.size + 1, 1, none⟩ = some (.int .i64 yl)) (with_reducible first | exact ⟨c2_p0, c2_p1, c2_q0, c2_q1⟩ | exact ⟨c4, c5, c6, c7⟩ | (refine ⟨?_, ?_, ?_, ?_⟩ <;> assumption) | go_keep) (first
        | (go_at_call 81; (with_reducible refine (HLE.out _).mono ?_); rintro e w_ ⟨rfl, rfl⟩))
      all_goals
        go_wp2_with fail
        go_meet
        first
          | exact ⟨rfl, BK.made w2 _ _, hz.alloc (Nat.le_refl _) _⟩
          | exact ⟨rfl, BK.made w2.drew _ _, hd.alloc (Nat.le_refl _) _⟩
          | exact ⟨rfl, BK.drewS (BK.made w2 _ _), (hz.alloc (Nat.le_refl _) _).drew⟩
          | exact ⟨rfl, BK.drewS (((BK.made w2 _ _).put 0 _).put 1 _), (((hz.alloc (Nat.le_refl _) _).setCell (p := ⟨w2.heap.size, 0, none⟩) (Nat.le_refl _) _).setCell (p := ⟨w2.heap.size, 1, none⟩) (Nat.le_refl _) _).drew⟩
          | exact ⟨rfl, ((BK.made w2.drew _ _).put 0 _).put 1 _, ((hd.alloc (Nat.le_refl _) _).setCell (p := ⟨w2.heap.size, 0, none⟩) (Nat.le_refl _) _).setCell (p := ⟨w2.heap.size, 1, none⟩) (Nat.le_refl _) _⟩
    case rest =>
    rename World => W
    obtain ⟨rfl, HJ2, HJ⟩ := hcut
    have hJ := HJ.out
    have j2 := HJ2.out
    have p2 := HP2.out
    have q2 := HQ2.out
    have s2 := HS2.out
    have t2 := HT2.out
    clear c4 c5 c6 c7 hz hd
    have cJ0 := j2.cell 0
    have cJ1 := j2.cell 1
    simp at cJ0 cJ1
    go_wp2_with fail
    have tJ := t2.trans (hJ.mono t2.size)
    have pJ := p2.step hJ
    have qJ := q2.step hJ
    have sJ := s2.step hJ
    clear c2_p0 c2_p1 c2_q0 c2_q1 c2_s0 c2_s1 z2_0 z2_1 p2 q2 s2
    refine (H3.out _).mono ?_; rintro e w3 ⟨rfl, hb3⟩
    have t3 := tJ.trans (hb3.mono tJ.size)
    have p3 := pJ.step hb3
    have q3 := qJ.step hb3
    have s3 := sJ.step hb3
    have j3 := j2.step hb3
    have c3_3_0 := j3.cell 0
    have c3_3_1 := j3.cell 1
    simp at c3_3_0 c3_3_1
    clear hJ j2 tJ pJ qJ sJ
    have c3_p0 := p3.cell 0
    have c3_p1 := p3.cell 1
    have c3_q0 := q3.cell 0
    have c3_q1 := q3.cell 1
    have c3_s0 := s3.cell 0
    have c3_s1 := s3.cell 1
    have z3_0 := s3.free 0
    have z3_1 := s3.free 1
    simp at c3_p0 c3_p1 c3_q0 c3_q1 c3_s0 c3_s1
    go_wp2_with fail
    have sF := (s3.put 0 (.int .i64 (0))).put 1 (.int .i64 (0))
    have e0 := sF.cell 0
    have e1 := sF.cell 1
    simp at e0 e1
    refine bodyPost_ret (v := .tuple #[.agg #[.int .i64 (0), .int .i64 (0)], .bool false]) (by simp [results, Try.results29, go_sem, e0, e1]) rfl ⟨rfl, ?_⟩
    exact (t3.setCell (p := ⟨w.heap.size + 1 + 1, 0, none⟩) (by simp <;> omega) _).setCell (p := ⟨w.heap.size + 1 + 1, 1, none⟩) (by simp <;> omega) _
  · rw [show rowSays x y = (joinV x y, true) from by simp [rowSays, g1, g2, g3]]
    rw [g1] at H1
    rw [g2] at H2
    rw [g3] at H3
    clear g1 g2 g3
    obtain ⟨xr, xl⟩ := x
    obtain ⟨yr, yl⟩ := y
    simp only [SvV, joinV] at *
    obtain ⟨m, hm⟩ : ∃ m, min xr yr = m := ⟨_, rfl⟩
    rw [hm] at H3 ⊢
    have hs1 : (w.alloc (.cells #[.int .i64 xr, .int .i64 xl] 25)).heap.size = w.heap.size + 1 := by simp
    have hs2 : ((w.alloc (.cells #[.int .i64 xr, .int .i64 xl] 25)).alloc (.cells #[.int .i64 yr, .int .i64 yl] 25)).heap.size = w.heap.size + 1 + 1 := by simp
    have p0 := ((BK.made w 25 #[.int .i64 xr, .int .i64 xl]).alloc (.cells #[.int .i64 yr, .int .i64 yl] 25)).alloc (.cells #[.int .i64 0, .int .i64 0] 25)
    have q0 := (BK.made (w.alloc (.cells #[.int .i64 xr, .int .i64 xl] 25)) 25 #[.int .i64 yr, .int .i64 yl]).alloc (.cells #[.int .i64 0, .int .i64 0] 25)
    rw [hs1] at q0
    have s0 := BK.made ((w.alloc (.cells #[.int .i64 xr, .int .i64 xl] 25)).alloc (.cells #[.int .i64 yr, .int .i64 yl] 25)) 25 #[.int .i64 0, .int .i64 0]
    rw [hs2] at s0
    have hW : Below w.heap.size w (((w.alloc (.cells #[.int .i64 xr, .int .i64 xl] 25)).alloc (.cells #[.int .i64 yr, .int .i64 yl] 25)).alloc (.cells #[.int .i64 0, .int .i64 0] 25)) := ((((Below.refl _ _).alloc (Nat.le_refl _) _).alloc (by rw [hs1]; omega) _).alloc (by rw [hs2]; omega) _)
    clear hs1 hs2
    have HLE := Lib.hid fun W => shLeast_any xr yr W
    rw [hm] at HLE
    have c0_p0 := p0.cell 0
    have c0_p1 := p0.cell 1
    have c0_q0 := q0.cell 0
    have c0_q1 := q0.cell 1
    have c0_s0 := s0.cell 0
    have c0_s1 := s0.cell 1
    have z0_0 := s0.free 0
    have z0_1 := s0.free 1
    simp at c0_p0 c0_p1 c0_q0 c0_q1 c0_s0 c0_s1
    clear hm
    go_enter Try.func29, Try.ntmps29
    go_wp2_with fail
    refine (H1.out _).mono ?_; rintro e w1 ⟨rfl, hb1⟩
    have t1 := hW.trans (hb1.mono hW.size)
    have p1 := p0.step hb1
    have q1 := q0.step hb1
    have s1 := s0.step hb1
    clear c0_p0 c0_p1 c0_q0 c0_q1 c0_s0 c0_s1 z0_0 z0_1 p0 q0 s0
    have c1_p0 := p1.cell 0
    have c1_p1 := p1.cell 1
    have c1_q0 := q1.cell 0
    have c1_q1 := q1.cell 1
    have c1_s0 := s1.cell 0
    have c1_s1 := s1.cell 1
    have z1_0 := s1.free 0
    have z1_1 := s1.free 1
    simp at c1_p0 c1_p1 c1_q0 c1_q1 c1_s0 c1_s1
    go_wp2_with fail
    refine (H2.out _).mono ?_; rintro e w2 ⟨rfl, hb2⟩
    have t2 := t1.trans (hb2.mono t1.size)
    have p2 := p1.step hb2
    have q2 := q1.step hb2
    have s2 := s1.step hb2
    clear c1_p0 c1_p1 c1_q0 c1_q1 c1_s0 c1_s1 z1_0 z1_1 p1 q1 s1
    have c2_p0 := p2.cell 0
    have c2_p1 := p2.cell 1
    have c2_q0 := q2.cell 0
    have c2_q1 := q2.cell 1
    have c2_s0 := s2.cell 0
    have c2_s1 := s2.cell 1
    have z2_0 := s2.free 0
    have z2_1 := s2.free 1
    simp at c2_p0 c2_p1 c2_q0 c2_q1 c2_s0 c2_s1
    have hwr : IntKind.i64.wrap (xl + yl) = xl + yl := IntWalk.i64_in _ (by omega)
    have HCL := Lib.hid fun W (hb : Below w2.heap.size w2 W) => (⟨(p2.step hb).cell 0, (p2.step hb).cell 1, (q2.step hb).cell 0, (q2.step hb).cell 1⟩ : W.cell? ⟨w.heap.size, 0, none⟩ = some (.int .i64 xr) ∧ W.cell? ⟨w.heap.size, 1, none⟩ = some (.int .i64 xl) ∧ W.cell? ⟨w.heap.size + 1, 0, none⟩ = some (.int .i64 yr) ∧ W.cell? ⟨w.heap.size + 1, 1, none⟩ = some (.int .i64 yl))
    have hz : Below w2.heap.size w2 w2 := Below.refl _ _
    have hd : Below w2.heap.size w2 w2.drew := (Below.refl _ _).drew
    obtain ⟨c4, c5, c6, c7⟩ := HCL.out _ (hz.alloc (Nat.le_refl _) (.cells #[.int .i64 0, .int .i64 0] 25))
    have HP2 := Lib.hid p2
    have HQ2 := Lib.hid q2
    have HS2 := Lib.hid s2
    have HT2 := Lib.hid t2
    clear p2 q2 s2 t2
    go_upto_region 3 with fail
    go_cut [6] (fun s6 wx => s6 = .pointer (some ⟨w2.heap.size, 0, none⟩) ∧ Hid (BK wx w2.heap.size 25 #[.int .i64 m, .int .i64 (xl + yl)]) ∧ Hid (Below w2.heap.size w2 wx))
    case first =>
      go_region_held3 (fun w' => w'.cell? ⟨w.heap.size, 0, none⟩ = some (.int .i64 xr) ∧ w'.cell? ⟨w.heap.size, 1, none⟩ = some (.int .i64 xl) ∧ w'.cell? ⟨w.heap.size + 1, 0, none⟩ = some (.int .i64 yr) ∧ w'.cell? ⟨w.heap.size + 1, 1, none⟩ = some (.int .i64 yl)) (with_reducible first | exact ⟨c2_p0, c2_p1, c2_q0, c2_q1⟩ | exact ⟨c4, c5, c6, c7⟩ | (refine ⟨?_, ?_, ?_, ?_⟩ <;> assumption) | go_keep) (first
        | (go_at_call 81; (with_reducible refine (HLE.out _).mono ?_); rintro e w_ ⟨rfl, rfl⟩))
      all_goals
        go_wp2_with fail
        go_meet
        first
          | exact ⟨rfl, BK.made w2 _ _, hz.alloc (Nat.le_refl _) _⟩
          | exact ⟨rfl, BK.made w2.drew _ _, hd.alloc (Nat.le_refl _) _⟩
          | exact ⟨rfl, BK.drewS (BK.made w2 _ _), (hz.alloc (Nat.le_refl _) _).drew⟩
          | exact ⟨rfl, BK.drewS (((BK.made w2 _ _).put 0 _).put 1 _), (((hz.alloc (Nat.le_refl _) _).setCell (p := ⟨w2.heap.size, 0, none⟩) (Nat.le_refl _) _).setCell (p := ⟨w2.heap.size, 1, none⟩) (Nat.le_refl _) _).drew⟩
          | exact ⟨rfl, ((BK.made w2.drew _ _).put 0 _).put 1 _, ((hd.alloc (Nat.le_refl _) _).setCell (p := ⟨w2.heap.size, 0, none⟩) (Nat.le_refl _) _).setCell (p := ⟨w2.heap.size, 1, none⟩) (Nat.le_refl _) _⟩
    case rest =>
    rename World => W
    obtain ⟨rfl, HJ2, HJ⟩ := hcut
    have hJ := HJ.out
    have j2 := HJ2.out
    have p2 := HP2.out
    have q2 := HQ2.out
    have s2 := HS2.out
    have t2 := HT2.out
    clear c4 c5 c6 c7 hz hd
    have cJ0 := j2.cell 0
    have cJ1 := j2.cell 1
    simp at cJ0 cJ1
    go_wp2_with fail
    have tJ := t2.trans (hJ.mono t2.size)
    have pJ := p2.step hJ
    have qJ := q2.step hJ
    have sJ := s2.step hJ
    clear c2_p0 c2_p1 c2_q0 c2_q1 c2_s0 c2_s1 z2_0 z2_1 p2 q2 s2
    refine (H3.out _).mono ?_; rintro e w3 ⟨rfl, hb3⟩
    have t3 := tJ.trans (hb3.mono tJ.size)
    have p3 := pJ.step hb3
    have q3 := qJ.step hb3
    have s3 := sJ.step hb3
    have j3 := j2.step hb3
    have c3_3_0 := j3.cell 0
    have c3_3_1 := j3.cell 1
    simp at c3_3_0 c3_3_1
    clear hJ j2 tJ pJ qJ sJ
    have c3_p0 := p3.cell 0
    have c3_p1 := p3.cell 1
    have c3_q0 := q3.cell 0
    have c3_q1 := q3.cell 1
    have c3_s0 := s3.cell 0
    have c3_s1 := s3.cell 1
    have z3_0 := s3.free 0
    have z3_1 := s3.free 1
    simp at c3_p0 c3_p1 c3_q0 c3_q1 c3_s0 c3_s1
    go_wp2_with fail
    have sF := (s3.put 0 (.int .i64 (m))).put 1 (.int .i64 (xl + yl))
    have e0 := sF.cell 0
    have e1 := sF.cell 1
    simp at e0 e1
    refine bodyPost_ret (v := .tuple #[.agg #[.int .i64 (m), .int .i64 (xl + yl)], .bool true]) (by simp [results, Try.results29, go_sem, e0, e1]) rfl ⟨rfl, ?_⟩
    exact (t3.setCell (p := ⟨w.heap.size + 1 + 1, 0, none⟩) (by simp <;> omega) _).setCell (p := ⟨w.heap.size + 1 + 1, 1, none⟩) (by simp <;> omega) _
end Go.Proofs.Ytlanpfcjcafapaa
