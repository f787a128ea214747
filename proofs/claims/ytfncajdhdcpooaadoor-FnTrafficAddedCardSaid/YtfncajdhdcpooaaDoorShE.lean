/-
  Chapter 8: the contracts of JoinBuckets, both sides, and of the laws' equality of buckets.
-/
import Derived.Test.YtfncajdhdcpooaaDoorShA
import Derived.Test.YtfncajdhdcpooaaDoorSBucket
namespace Go.Proofs.YtfncajdhdcpooaaDoor
open Go.RowKit
set_option maxRecDepth 100000
set_option linter.unusedVariables false

set_option maxHeartbeats 1000000 in
theorem implJoinBuckets_any (x y : Bu) (w : World) :
    Calls Tryd.prog 11 #[BuV x, BuV y] w (RetV w (.tuple #[BuV (joinSays x y).1, .bool (joinSays x y).2])) := by
  have H1 := Lib.hid fun w => implBucket_any x w
  have H2 := Lib.hid fun w => implBucket_any y w
  have H3 := Lib.hid fun w => implBucket_any (joinB x y) w
  have hs1 : (w.alloc (.cells #[.int .i64 x.r, .int .i64 x.d] 32)).heap.size = w.heap.size + 1 := by simp
  have hs2 : ((w.alloc (.cells #[.int .i64 x.r, .int .i64 x.d] 32)).alloc (.cells #[.int .i64 y.r, .int .i64 y.d] 32)).heap.size = w.heap.size + 1 + 1 := by simp
  have p0 := ((BK.made w 32 #[.int .i64 x.r, .int .i64 x.d]).alloc (.cells #[.int .i64 y.r, .int .i64 y.d] 32)).alloc (.cells #[.int .i64 0, .int .i64 0] 32)
  have q0 := (BK.made (w.alloc (.cells #[.int .i64 x.r, .int .i64 x.d] 32)) 32 #[.int .i64 y.r, .int .i64 y.d]).alloc (.cells #[.int .i64 0, .int .i64 0] 32)
  have s0 := BK.made ((w.alloc (.cells #[.int .i64 x.r, .int .i64 x.d] 32)).alloc (.cells #[.int .i64 y.r, .int .i64 y.d] 32)) 32 #[.int .i64 0, .int .i64 0]
  have hW : Below w.heap.size w (((w.alloc (.cells #[.int .i64 x.r, .int .i64 x.d] 32)).alloc (.cells #[.int .i64 y.r, .int .i64 y.d] 32)).alloc (.cells #[.int .i64 0, .int .i64 0] 32)) := (((Below.refl _ _).alloc (Nat.le_refl _) _).alloc (by rw [hs1]; omega) _).alloc (by rw [hs2]; omega) _
  rw [hs1] at q0
  rw [hs2] at s0
  clear hs1 hs2
  cases g1 : buOk x
  · rw [show joinSays x y = (⟨0, 0⟩, false) from by simp [joinSays, g1]]
    rw [g1] at H1
    clear H2 H3 g1
    obtain ⟨xr, xd⟩ := x
    obtain ⟨yr, yd⟩ := y
    simp only [BuV] at *
    go_enter Tryd.func11, Tryd.ntmps11
    go_wp2_with fail
    refine (H1.out _).mono ?_; rintro e w1 ⟨rfl, hb1⟩
    have t1 := hW.trans (hb1.mono hW.size)
    have p1 := p0.step hb1
    have q1 := q0.step hb1
    have s1 := s0.step hb1
    have c1_0_0 := p1.cell 0
    have c1_0_1 := p1.cell 1
    have c1_1_0 := q1.cell 0
    have c1_1_1 := q1.cell 1
    have c1_2_0 := s1.cell 0
    have c1_2_1 := s1.cell 1
    have z1 := s1.free 0
    have y1 := s1.free 1
    simp at c1_0_0 c1_0_1 c1_1_0 c1_1_1 c1_2_0 c1_2_1
    go_wp2_with fail
    have sF := (s1.put 0 (.int .i64 (0))).put 1 (.int .i64 (0))
    have e0 := sF.cell 0
    have e1 := sF.cell 1
    simp at e0 e1
    refine bodyPost_ret (v := .tuple #[.agg #[.int .i64 (0), .int .i64 (0)], .bool false]) (by simp [results, Tryd.results11, go_sem, e0, e1]) rfl ⟨rfl, ?_⟩
    exact (t1.setCell (p := ⟨w.heap.size + 1 + 1, 0, none⟩) (by simp <;> omega) _).setCell (p := ⟨w.heap.size + 1 + 1, 1, none⟩) (by simp <;> omega) _
  cases g2 : buOk y
  · rw [show joinSays x y = (⟨0, 0⟩, false) from by simp [joinSays, g2]]
    rw [g1] at H1
    rw [g2] at H2
    clear H3 g1 g2
    obtain ⟨xr, xd⟩ := x
    obtain ⟨yr, yd⟩ := y
    simp only [BuV] at *
    go_enter Tryd.func11, Tryd.ntmps11
    go_wp2_with fail
    refine (H1.out _).mono ?_; rintro e w1 ⟨rfl, hb1⟩
    have t1 := hW.trans (hb1.mono hW.size)
    have p1 := p0.step hb1
    have q1 := q0.step hb1
    have s1 := s0.step hb1
    have c1_0_0 := p1.cell 0
    have c1_0_1 := p1.cell 1
    have c1_1_0 := q1.cell 0
    have c1_1_1 := q1.cell 1
    have c1_2_0 := s1.cell 0
    have c1_2_1 := s1.cell 1
    have z1 := s1.free 0
    have y1 := s1.free 1
    simp at c1_0_0 c1_0_1 c1_1_0 c1_1_1 c1_2_0 c1_2_1
    go_wp2_with fail
    refine (H2.out _).mono ?_; rintro e w2 ⟨rfl, hb2⟩
    have t2 := t1.trans (hb2.mono t1.size)
    have p2 := p1.step hb2
    have q2 := q1.step hb2
    have s2 := s1.step hb2
    clear c1_0_0 c1_0_1 c1_1_0 c1_1_1 c1_2_0 c1_2_1 z1 y1 p1 q1 s1
    have c2_0_0 := p2.cell 0
    have c2_0_1 := p2.cell 1
    have c2_1_0 := q2.cell 0
    have c2_1_1 := q2.cell 1
    have c2_2_0 := s2.cell 0
    have c2_2_1 := s2.cell 1
    have z2 := s2.free 0
    have y2 := s2.free 1
    simp at c2_0_0 c2_0_1 c2_1_0 c2_1_1 c2_2_0 c2_2_1
    go_wp2_with fail
    have sF := (s2.put 0 (.int .i64 (0))).put 1 (.int .i64 (0))
    have e0 := sF.cell 0
    have e1 := sF.cell 1
    simp at e0 e1
    refine bodyPost_ret (v := .tuple #[.agg #[.int .i64 (0), .int .i64 (0)], .bool false]) (by simp [results, Tryd.results11, go_sem, e0, e1]) rfl ⟨rfl, ?_⟩
    exact (t2.setCell (p := ⟨w.heap.size + 1 + 1, 0, none⟩) (by simp <;> omega) _).setCell (p := ⟨w.heap.size + 1 + 1, 1, none⟩) (by simp <;> omega) _
  have hin1 := buOk_in g1
  have hin2 := buOk_in g2
  cases g3 : buOk (joinB x y)
  · rw [show joinSays x y = (⟨0, 0⟩, false) from by simp [joinSays, g3]]
    rw [g1] at H1
    rw [g2] at H2
    rw [g3] at H3
    clear g1 g2 g3
    obtain ⟨xr, xd⟩ := x
    obtain ⟨yr, yd⟩ := y
    simp only [BuV, joinB] at *
    go_enter Tryd.func11, Tryd.ntmps11
    go_wp2_with fail
    refine (H1.out _).mono ?_; rintro e w1 ⟨rfl, hb1⟩
    have t1 := hW.trans (hb1.mono hW.size)
    have p1 := p0.step hb1
    have q1 := q0.step hb1
    have s1 := s0.step hb1
    have c1_0_0 := p1.cell 0
    have c1_0_1 := p1.cell 1
    have c1_1_0 := q1.cell 0
    have c1_1_1 := q1.cell 1
    have c1_2_0 := s1.cell 0
    have c1_2_1 := s1.cell 1
    have z1 := s1.free 0
    have y1 := s1.free 1
    simp at c1_0_0 c1_0_1 c1_1_0 c1_1_1 c1_2_0 c1_2_1
    go_wp2_with fail
    refine (H2.out _).mono ?_; rintro e w2 ⟨rfl, hb2⟩
    have t2 := t1.trans (hb2.mono t1.size)
    have p2 := p1.step hb2
    have q2 := q1.step hb2
    have s2 := s1.step hb2
    clear c1_0_0 c1_0_1 c1_1_0 c1_1_1 c1_2_0 c1_2_1 z1 y1 p1 q1 s1
    have c2_0_0 := p2.cell 0
    have c2_0_1 := p2.cell 1
    have c2_1_0 := q2.cell 0
    have c2_1_1 := q2.cell 1
    have c2_2_0 := s2.cell 0
    have c2_2_1 := s2.cell 1
    have z2 := s2.free 0
    have y2 := s2.free 1
    simp at c2_0_0 c2_0_1 c2_1_0 c2_1_1 c2_2_0 c2_2_1
    go_wp2_with fail
    have hJ : Below w2.heap.size w2 (w2.alloc (.cells #[.int .i64 (xr + yr), .int .i64 (xd + yd)] 32)) := (Below.refl _ _).alloc (Nat.le_refl _) _
    have j2 := BK.made w2 32 #[.int .i64 (xr + yr), .int .i64 (xd + yd)]
    have tJ := t2.trans (hJ.mono t2.size)
    have pJ := p2.step hJ
    have qJ := q2.step hJ
    have sJ := s2.step hJ
    clear c2_0_0 c2_0_1 c2_1_0 c2_1_1 c2_2_0 c2_2_1 z2 y2 p2 q2 s2
    refine (H3.out _).mono ?_; rintro e w3 ⟨rfl, hb3⟩
    have t3 := tJ.trans (hb3.mono tJ.size)
    have p3 := pJ.step hb3
    have q3 := qJ.step hb3
    have s3 := sJ.step hb3
    have j3 := j2.step hb3
    have c3_3_0 := j3.cell 0
    have c3_3_1 := j3.cell 1
    simp at c3_3_0 c3_3_1
    clear hJ j2 tJ pJ qJ sJ
    have c3_0_0 := p3.cell 0
    have c3_0_1 := p3.cell 1
    have c3_1_0 := q3.cell 0
    have c3_1_1 := q3.cell 1
    have c3_2_0 := s3.cell 0
    have c3_2_1 := s3.cell 1
    have z3 := s3.free 0
    have y3 := s3.free 1
    simp at c3_0_0 c3_0_1 c3_1_0 c3_1_1 c3_2_0 c3_2_1
    go_wp2_with fail
    have sF := (s3.put 0 (.int .i64 (0))).put 1 (.int .i64 (0))
    have e0 := sF.cell 0
    have e1 := sF.cell 1
    simp at e0 e1
    refine bodyPost_ret (v := .tuple #[.agg #[.int .i64 (0), .int .i64 (0)], .bool false]) (by simp [results, Tryd.results11, go_sem, e0, e1]) rfl ⟨rfl, ?_⟩
    exact (t3.setCell (p := ⟨w.heap.size + 1 + 1, 0, none⟩) (by simp <;> omega) _).setCell (p := ⟨w.heap.size + 1 + 1, 1, none⟩) (by simp <;> omega) _
  · rw [show joinSays x y = (joinB x y, true) from by simp [joinSays, g1, g2, g3]]
    rw [g1] at H1
    rw [g2] at H2
    rw [g3] at H3
    clear g1 g2 g3
    obtain ⟨xr, xd⟩ := x
    obtain ⟨yr, yd⟩ := y
    simp only [BuV, joinB] at *
    go_enter Tryd.func11, Tryd.ntmps11
    go_wp2_with fail
    refine (H1.out _).mono ?_; rintro e w1 ⟨rfl, hb1⟩
    have t1 := hW.trans (hb1.mono hW.size)
    have p1 := p0.step hb1
    have q1 := q0.step hb1
    have s1 := s0.step hb1
    have c1_0_0 := p1.cell 0
    have c1_0_1 := p1.cell 1
    have c1_1_0 := q1.cell 0
    have c1_1_1 := q1.cell 1
    have c1_2_0 := s1.cell 0
    have c1_2_1 := s1.cell 1
    have z1 := s1.free 0
    have y1 := s1.free 1
    simp at c1_0_0 c1_0_1 c1_1_0 c1_1_1 c1_2_0 c1_2_1
    go_wp2_with fail
    refine (H2.out _).mono ?_; rintro e w2 ⟨rfl, hb2⟩
    have t2 := t1.trans (hb2.mono t1.size)
    have p2 := p1.step hb2
    have q2 := q1.step hb2
    have s2 := s1.step hb2
    clear c1_0_0 c1_0_1 c1_1_0 c1_1_1 c1_2_0 c1_2_1 z1 y1 p1 q1 s1
    have c2_0_0 := p2.cell 0
    have c2_0_1 := p2.cell 1
    have c2_1_0 := q2.cell 0
    have c2_1_1 := q2.cell 1
    have c2_2_0 := s2.cell 0
    have c2_2_1 := s2.cell 1
    have z2 := s2.free 0
    have y2 := s2.free 1
    simp at c2_0_0 c2_0_1 c2_1_0 c2_1_1 c2_2_0 c2_2_1
    go_wp2_with fail
    have hJ : Below w2.heap.size w2 (w2.alloc (.cells #[.int .i64 (xr + yr), .int .i64 (xd + yd)] 32)) := (Below.refl _ _).alloc (Nat.le_refl _) _
    have j2 := BK.made w2 32 #[.int .i64 (xr + yr), .int .i64 (xd + yd)]
    have tJ := t2.trans (hJ.mono t2.size)
    have pJ := p2.step hJ
    have qJ := q2.step hJ
    have sJ := s2.step hJ
    clear c2_0_0 c2_0_1 c2_1_0 c2_1_1 c2_2_0 c2_2_1 z2 y2 p2 q2 s2
    refine (H3.out _).mono ?_; rintro e w3 ⟨rfl, hb3⟩
    have t3 := tJ.trans (hb3.mono tJ.size)
    have p3 := pJ.step hb3
    have q3 := qJ.step hb3
    have s3 := sJ.step hb3
    have j3 := j2.step hb3
    have c3_3_0 := j3.cell 0
    have c3_3_1 := j3.cell 1
    simp at c3_3_0 c3_3_1
    clear hJ j2 tJ pJ qJ sJ
    have c3_0_0 := p3.cell 0
    have c3_0_1 := p3.cell 1
    have c3_1_0 := q3.cell 0
    have c3_1_1 := q3.cell 1
    have c3_2_0 := s3.cell 0
    have c3_2_1 := s3.cell 1
    have z3 := s3.free 0
    have y3 := s3.free 1
    simp at c3_0_0 c3_0_1 c3_1_0 c3_1_1 c3_2_0 c3_2_1
    go_wp2_with fail
    have sF := (s3.put 0 (.int .i64 (xr + yr))).put 1 (.int .i64 (xd + yd))
    have e0 := sF.cell 0
    have e1 := sF.cell 1
    simp at e0 e1
    refine bodyPost_ret (v := .tuple #[.agg #[.int .i64 (xr + yr), .int .i64 (xd + yd)], .bool true]) (by simp [results, Tryd.results11, go_sem, e0, e1]) rfl ⟨rfl, ?_⟩
    exact (t3.setCell (p := ⟨w.heap.size + 1 + 1, 0, none⟩) (by simp <;> omega) _).setCell (p := ⟨w.heap.size + 1 + 1, 1, none⟩) (by simp <;> omega) _
set_option maxHeartbeats 1000000 in
theorem specJoinBuckets_any (x y : Bu) (w : World) :
    Calls Tryd.prog 12 #[BuV x, BuV y] w (RetV w (.tuple #[BuV (joinSays x y).1, .bool (joinSays x y).2])) := by
  have H1 := Lib.hid fun w => shBucket_any x w
  have H2 := Lib.hid fun w => shBucket_any y w
  have H3 := Lib.hid fun w => shBucket_any (joinB x y) w
  have hs1 : (w.alloc (.cells #[.int .i64 x.r, .int .i64 x.d] 32)).heap.size = w.heap.size + 1 := by simp
  have hs2 : ((w.alloc (.cells #[.int .i64 x.r, .int .i64 x.d] 32)).alloc (.cells #[.int .i64 y.r, .int .i64 y.d] 32)).heap.size = w.heap.size + 1 + 1 := by simp
  have p0 := ((BK.made w 32 #[.int .i64 x.r, .int .i64 x.d]).alloc (.cells #[.int .i64 y.r, .int .i64 y.d] 32)).alloc (.cells #[.int .i64 0, .int .i64 0] 32)
  have q0 := (BK.made (w.alloc (.cells #[.int .i64 x.r, .int .i64 x.d] 32)) 32 #[.int .i64 y.r, .int .i64 y.d]).alloc (.cells #[.int .i64 0, .int .i64 0] 32)
  have s0 := BK.made ((w.alloc (.cells #[.int .i64 x.r, .int .i64 x.d] 32)).alloc (.cells #[.int .i64 y.r, .int .i64 y.d] 32)) 32 #[.int .i64 0, .int .i64 0]
  have hW : Below w.heap.size w (((w.alloc (.cells #[.int .i64 x.r, .int .i64 x.d] 32)).alloc (.cells #[.int .i64 y.r, .int .i64 y.d] 32)).alloc (.cells #[.int .i64 0, .int .i64 0] 32)) := (((Below.refl _ _).alloc (Nat.le_refl _) _).alloc (by rw [hs1]; omega) _).alloc (by rw [hs2]; omega) _
  rw [hs1] at q0
  rw [hs2] at s0
  clear hs1 hs2
  cases g1 : buOk x
  · rw [show joinSays x y = (⟨0, 0⟩, false) from by simp [joinSays, g1]]
    rw [g1] at H1
    clear H2 H3 g1
    obtain ⟨xr, xd⟩ := x
    obtain ⟨yr, yd⟩ := y
    simp only [BuV] at *
    go_enter Tryd.func12, Tryd.ntmps12
    go_wp2_with fail
    refine (H1.out _).mono ?_; rintro e w1 ⟨rfl, hb1⟩
    have t1 := hW.trans (hb1.mono hW.size)
    have p1 := p0.step hb1
    have q1 := q0.step hb1
    have s1 := s0.step hb1
    have c1_0_0 := p1.cell 0
    have c1_0_1 := p1.cell 1
    have c1_1_0 := q1.cell 0
    have c1_1_1 := q1.cell 1
    have c1_2_0 := s1.cell 0
    have c1_2_1 := s1.cell 1
    have z1 := s1.free 0
    have y1 := s1.free 1
    simp at c1_0_0 c1_0_1 c1_1_0 c1_1_1 c1_2_0 c1_2_1
    go_wp2_with fail
    have sF := (s1.put 0 (.int .i64 (0))).put 1 (.int .i64 (0))
    have e0 := sF.cell 0
    have e1 := sF.cell 1
    simp at e0 e1
    refine bodyPost_ret (v := .tuple #[.agg #[.int .i64 (0), .int .i64 (0)], .bool false]) (by simp [results, Tryd.results12, go_sem, e0, e1]) rfl ⟨rfl, ?_⟩
    exact (t1.setCell (p := ⟨w.heap.size + 1 + 1, 0, none⟩) (by simp <;> omega) _).setCell (p := ⟨w.heap.size + 1 + 1, 1, none⟩) (by simp <;> omega) _
  cases g2 : buOk y
  · rw [show joinSays x y = (⟨0, 0⟩, false) from by simp [joinSays, g2]]
    rw [g1] at H1
    rw [g2] at H2
    clear H3 g1 g2
    obtain ⟨xr, xd⟩ := x
    obtain ⟨yr, yd⟩ := y
    simp only [BuV] at *
    go_enter Tryd.func12, Tryd.ntmps12
    go_wp2_with fail
    refine (H1.out _).mono ?_; rintro e w1 ⟨rfl, hb1⟩
    have t1 := hW.trans (hb1.mono hW.size)
    have p1 := p0.step hb1
    have q1 := q0.step hb1
    have s1 := s0.step hb1
    have c1_0_0 := p1.cell 0
    have c1_0_1 := p1.cell 1
    have c1_1_0 := q1.cell 0
    have c1_1_1 := q1.cell 1
    have c1_2_0 := s1.cell 0
    have c1_2_1 := s1.cell 1
    have z1 := s1.free 0
    have y1 := s1.free 1
    simp at c1_0_0 c1_0_1 c1_1_0 c1_1_1 c1_2_0 c1_2_1
    go_wp2_with fail
    refine (H2.out _).mono ?_; rintro e w2 ⟨rfl, hb2⟩
    have t2 := t1.trans (hb2.mono t1.size)
    have p2 := p1.step hb2
    have q2 := q1.step hb2
    have s2 := s1.step hb2
    clear c1_0_0 c1_0_1 c1_1_0 c1_1_1 c1_2_0 c1_2_1 z1 y1 p1 q1 s1
    have c2_0_0 := p2.cell 0
    have c2_0_1 := p2.cell 1
    have c2_1_0 := q2.cell 0
    have c2_1_1 := q2.cell 1
    have c2_2_0 := s2.cell 0
    have c2_2_1 := s2.cell 1
    have z2 := s2.free 0
    have y2 := s2.free 1
    simp at c2_0_0 c2_0_1 c2_1_0 c2_1_1 c2_2_0 c2_2_1
    go_wp2_with fail
    have sF := (s2.put 0 (.int .i64 (0))).put 1 (.int .i64 (0))
    have e0 := sF.cell 0
    have e1 := sF.cell 1
    simp at e0 e1
    refine bodyPost_ret (v := .tuple #[.agg #[.int .i64 (0), .int .i64 (0)], .bool false]) (by simp [results, Tryd.results12, go_sem, e0, e1]) rfl ⟨rfl, ?_⟩
    exact (t2.setCell (p := ⟨w.heap.size + 1 + 1, 0, none⟩) (by simp <;> omega) _).setCell (p := ⟨w.heap.size + 1 + 1, 1, none⟩) (by simp <;> omega) _
  have hin1 := buOk_in g1
  have hin2 := buOk_in g2
  cases g3 : buOk (joinB x y)
  · rw [show joinSays x y = (⟨0, 0⟩, false) from by simp [joinSays, g3]]
    rw [g1] at H1
    rw [g2] at H2
    rw [g3] at H3
    clear g1 g2 g3
    obtain ⟨xr, xd⟩ := x
    obtain ⟨yr, yd⟩ := y
    simp only [BuV, joinB] at *
    go_enter Tryd.func12, Tryd.ntmps12
    go_wp2_with fail
    refine (H1.out _).mono ?_; rintro e w1 ⟨rfl, hb1⟩
    have t1 := hW.trans (hb1.mono hW.size)
    have p1 := p0.step hb1
    have q1 := q0.step hb1
    have s1 := s0.step hb1
    have c1_0_0 := p1.cell 0
    have c1_0_1 := p1.cell 1
    have c1_1_0 := q1.cell 0
    have c1_1_1 := q1.cell 1
    have c1_2_0 := s1.cell 0
    have c1_2_1 := s1.cell 1
    have z1 := s1.free 0
    have y1 := s1.free 1
    simp at c1_0_0 c1_0_1 c1_1_0 c1_1_1 c1_2_0 c1_2_1
    go_wp2_with fail
    refine (H2.out _).mono ?_; rintro e w2 ⟨rfl, hb2⟩
    have t2 := t1.trans (hb2.mono t1.size)
    have p2 := p1.step hb2
    have q2 := q1.step hb2
    have s2 := s1.step hb2
    clear c1_0_0 c1_0_1 c1_1_0 c1_1_1 c1_2_0 c1_2_1 z1 y1 p1 q1 s1
    have c2_0_0 := p2.cell 0
    have c2_0_1 := p2.cell 1
    have c2_1_0 := q2.cell 0
    have c2_1_1 := q2.cell 1
    have c2_2_0 := s2.cell 0
    have c2_2_1 := s2.cell 1
    have z2 := s2.free 0
    have y2 := s2.free 1
    simp at c2_0_0 c2_0_1 c2_1_0 c2_1_1 c2_2_0 c2_2_1
    go_wp2_with fail
    have hJ : Below w2.heap.size w2 (w2.alloc (.cells #[.int .i64 (xr + yr), .int .i64 (xd + yd)] 32)) := (Below.refl _ _).alloc (Nat.le_refl _) _
    have j2 := BK.made w2 32 #[.int .i64 (xr + yr), .int .i64 (xd + yd)]
    have tJ := t2.trans (hJ.mono t2.size)
    have pJ := p2.step hJ
    have qJ := q2.step hJ
    have sJ := s2.step hJ
    clear c2_0_0 c2_0_1 c2_1_0 c2_1_1 c2_2_0 c2_2_1 z2 y2 p2 q2 s2
    refine (H3.out _).mono ?_; rintro e w3 ⟨rfl, hb3⟩
    have t3 := tJ.trans (hb3.mono tJ.size)
    have p3 := pJ.step hb3
    have q3 := qJ.step hb3
    have s3 := sJ.step hb3
    have j3 := j2.step hb3
    have c3_3_0 := j3.cell 0
    have c3_3_1 := j3.cell 1
    simp at c3_3_0 c3_3_1
    clear hJ j2 tJ pJ qJ sJ
    have c3_0_0 := p3.cell 0
    have c3_0_1 := p3.cell 1
    have c3_1_0 := q3.cell 0
    have c3_1_1 := q3.cell 1
    have c3_2_0 := s3.cell 0
    have c3_2_1 := s3.cell 1
    have z3 := s3.free 0
    have y3 := s3.free 1
    simp at c3_0_0 c3_0_1 c3_1_0 c3_1_1 c3_2_0 c3_2_1
    go_wp2_with fail
    have sF := (s3.put 0 (.int .i64 (0))).put 1 (.int .i64 (0))
    have e0 := sF.cell 0
    have e1 := sF.cell 1
    simp at e0 e1
    refine bodyPost_ret (v := .tuple #[.agg #[.int .i64 (0), .int .i64 (0)], .bool false]) (by simp [results, Tryd.results12, go_sem, e0, e1]) rfl ⟨rfl, ?_⟩
    exact (t3.setCell (p := ⟨w.heap.size + 1 + 1, 0, none⟩) (by simp <;> omega) _).setCell (p := ⟨w.heap.size + 1 + 1, 1, none⟩) (by simp <;> omega) _
  · rw [show joinSays x y = (joinB x y, true) from by simp [joinSays, g1, g2, g3]]
    rw [g1] at H1
    rw [g2] at H2
    rw [g3] at H3
    clear g1 g2 g3
    obtain ⟨xr, xd⟩ := x
    obtain ⟨yr, yd⟩ := y
    simp only [BuV, joinB] at *
    go_enter Tryd.func12, Tryd.ntmps12
    go_wp2_with fail
    refine (H1.out _).mono ?_; rintro e w1 ⟨rfl, hb1⟩
    have t1 := hW.trans (hb1.mono hW.size)
    have p1 := p0.step hb1
    have q1 := q0.step hb1
    have s1 := s0.step hb1
    have c1_0_0 := p1.cell 0
    have c1_0_1 := p1.cell 1
    have c1_1_0 := q1.cell 0
    have c1_1_1 := q1.cell 1
    have c1_2_0 := s1.cell 0
    have c1_2_1 := s1.cell 1
    have z1 := s1.free 0
    have y1 := s1.free 1
    simp at c1_0_0 c1_0_1 c1_1_0 c1_1_1 c1_2_0 c1_2_1
    go_wp2_with fail
    refine (H2.out _).mono ?_; rintro e w2 ⟨rfl, hb2⟩
    have t2 := t1.trans (hb2.mono t1.size)
    have p2 := p1.step hb2
    have q2 := q1.step hb2
    have s2 := s1.step hb2
    clear c1_0_0 c1_0_1 c1_1_0 c1_1_1 c1_2_0 c1_2_1 z1 y1 p1 q1 s1
    have c2_0_0 := p2.cell 0
    have c2_0_1 := p2.cell 1
    have c2_1_0 := q2.cell 0
    have c2_1_1 := q2.cell 1
    have c2_2_0 := s2.cell 0
    have c2_2_1 := s2.cell 1
    have z2 := s2.free 0
    have y2 := s2.free 1
    simp at c2_0_0 c2_0_1 c2_1_0 c2_1_1 c2_2_0 c2_2_1
    go_wp2_with fail
    have hJ : Below w2.heap.size w2 (w2.alloc (.cells #[.int .i64 (xr + yr), .int .i64 (xd + yd)] 32)) := (Below.refl _ _).alloc (Nat.le_refl _) _
    have j2 := BK.made w2 32 #[.int .i64 (xr + yr), .int .i64 (xd + yd)]
    have tJ := t2.trans (hJ.mono t2.size)
    have pJ := p2.step hJ
    have qJ := q2.step hJ
    have sJ := s2.step hJ
    clear c2_0_0 c2_0_1 c2_1_0 c2_1_1 c2_2_0 c2_2_1 z2 y2 p2 q2 s2
    refine (H3.out _).mono ?_; rintro e w3 ⟨rfl, hb3⟩
    have t3 := tJ.trans (hb3.mono tJ.size)
    have p3 := pJ.step hb3
    have q3 := qJ.step hb3
    have s3 := sJ.step hb3
    have j3 := j2.step hb3
    have c3_3_0 := j3.cell 0
    have c3_3_1 := j3.cell 1
    simp at c3_3_0 c3_3_1
    clear hJ j2 tJ pJ qJ sJ
    have c3_0_0 := p3.cell 0
    have c3_0_1 := p3.cell 1
    have c3_1_0 := q3.cell 0
    have c3_1_1 := q3.cell 1
    have c3_2_0 := s3.cell 0
    have c3_2_1 := s3.cell 1
    have z3 := s3.free 0
    have y3 := s3.free 1
    simp at c3_0_0 c3_0_1 c3_1_0 c3_1_1 c3_2_0 c3_2_1
    go_wp2_with fail
    have sF := (s3.put 0 (.int .i64 (xr + yr))).put 1 (.int .i64 (xd + yd))
    have e0 := sF.cell 0
    have e1 := sF.cell 1
    simp at e0 e1
    refine bodyPost_ret (v := .tuple #[.agg #[.int .i64 (xr + yr), .int .i64 (xd + yd)], .bool true]) (by simp [results, Tryd.results12, go_sem, e0, e1]) rfl ⟨rfl, ?_⟩
    exact (t3.setCell (p := ⟨w.heap.size + 1 + 1, 0, none⟩) (by simp <;> omega) _).setCell (p := ⟨w.heap.size + 1 + 1, 1, none⟩) (by simp <;> omega) _
end Go.Proofs.YtfncajdhdcpooaaDoor
