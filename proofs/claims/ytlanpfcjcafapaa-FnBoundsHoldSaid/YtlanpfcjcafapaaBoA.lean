/-
  Chapter 9: the contracts of the small functions of both sides: servers, servers for buckets, bounds, servers in a row, buckets behind.
-/
import Derived.Test.YtlanpfcjcafapaaShA
import Derived.Test.YtlanpfcjcafapaaMathBo
import Derived.Test.YtlanpfcjcafapaaSBucket
import Derived.Test.YtlanpfcjcafapaaSServer
namespace Go.Proofs.Ytlanpfcjcafapaa
open Go.RowKit
set_option maxRecDepth 100000
set_option linter.unusedVariables false

theorem implServer_any (x : Sv) (w : World) : Calls Try.prog 15 #[SvV x] w (RetV w (.bool (svOk x))) := by
  obtain ⟨r, l⟩ := x
  simp only [SvV]
  have hW : Below w.heap.size w (w.alloc (.cells #[.int .i64 r, .int .i64 l] 25)) := (Below.refl _ _).alloc (Nat.le_refl _) _
  have H1 : Hid (∀ w, Calls Try.prog 70 #[.int .i64 r] w fun e w' => e = .returned (.bool (wi r 1 100)) ∧ w = w') := fun w => implRate_any r w
  have H2 : Hid (∀ w, Calls Try.prog 71 #[.int .i64 l, .int .i64 0, .int .i64 20] w fun e w' => e = .returned (.bool (wi l 0 20)) ∧ w = w') := fun w => isWithin_wi l 0 20 w
  show Calls _ _ _ _ (RetV w (.bool (wi r 1 100 && wi l 0 20)))
  cases h1 : wi r 1 100
  · rw [h1] at H1
    clear h1
    go_enter Try.func15, Try.ntmps15
    go_wp2_with fail
    refine (H1.out _).mono ?_; rintro e w' ⟨rfl, rfl⟩
    go_wp2_with fail
    go_ret
    exact ⟨rfl, hW⟩
  · rw [h1] at H1
    clear h1
    go_enter Try.func15, Try.ntmps15
    go_wp2_with fail
    refine (H1.out _).mono ?_; rintro e w' ⟨rfl, rfl⟩
    go_wp2_with fail
    refine (H2.out _).mono ?_; rintro e w' ⟨rfl, rfl⟩
    go_wp2_with fail
    go_ret
    exact ⟨rfl, hW⟩
theorem boServer_any (x : Sv) (w : World) : Calls Try.prog 80 #[SvV x] w (RetV w (.bool (svOk x))) := by
  obtain ⟨r, l⟩ := x
  simp only [SvV]
  have hW : Below w.heap.size w (w.alloc (.cells #[.int .i64 r, .int .i64 l] 25)) := (Below.refl _ _).alloc (Nat.le_refl _) _
  have H1 : Hid (∀ w, Calls Try.prog 95 #[.int .i64 r] w fun e w' => e = .returned (.bool (wi r 1 100)) ∧ w = w') := fun w => specRate_any r w
  have H2 : Hid (∀ w, Calls Try.prog 85 #[.int .i64 l, .int .i64 0, .int .i64 20] w fun e w' => e = .returned (.bool (wi l 0 20)) ∧ w = w') := fun w => l1In_wi l 0 20 w
  show Calls _ _ _ _ (RetV w (.bool (wi r 1 100 && wi l 0 20)))
  cases h1 : wi r 1 100
  · rw [h1] at H1
    clear h1
    go_enter Try.func80, Try.ntmps80
    go_wp2_with fail
    refine (H1.out _).mono ?_; rintro e w' ⟨rfl, rfl⟩
    go_wp2_with fail
    go_ret
    exact ⟨rfl, hW⟩
  · rw [h1] at H1
    clear h1
    go_enter Try.func80, Try.ntmps80
    go_wp2_with fail
    refine (H1.out _).mono ?_; rintro e w' ⟨rfl, rfl⟩
    go_wp2_with fail
    refine (H2.out _).mono ?_; rintro e w' ⟨rfl, rfl⟩
    go_wp2_with fail
    go_ret
    exact ⟨rfl, hW⟩
theorem implIsServer_any (x : Sv) (w : World) : Calls Try.prog 15 #[SvV x] w (RetV w (.bool (svOk x))) := implServer_any x w
set_option maxHeartbeats 1000000 in
theorem implFit_any (x : Sv) (y : Bu) (w : World) : Calls Try.prog 75 #[SvV x, BuV y] w (RetV w (.bool (fitOk x y))) := by
  have H1 := Lib.hid fun w => implServer_any x w
  have H2 := Lib.hid fun w => implBucket_any y w
  cases g1 : svOk x
  · rw [show fitOk x y = false from by simp [fitOk, g1]]
    rw [g1] at H1
    clear H2 g1
    obtain ⟨xr, xl⟩ := x
    obtain ⟨yr, yd⟩ := y
    simp only [SvV, BuV] at *
    have hs1 : (w.alloc (.cells #[.int .i64 xr, .int .i64 xl] 25)).heap.size = w.heap.size + 1 := by simp
    have p0 := (BK.made w 25 #[.int .i64 xr, .int .i64 xl]).alloc (.cells #[.int .i64 yr, .int .i64 yd] 36)
    have q0 := BK.made (w.alloc (.cells #[.int .i64 xr, .int .i64 xl] 25)) 36 #[.int .i64 yr, .int .i64 yd]
    rw [hs1] at q0
    have hW : Below w.heap.size w ((w.alloc (.cells #[.int .i64 xr, .int .i64 xl] 25)).alloc (.cells #[.int .i64 yr, .int .i64 yd] 36)) := (((Below.refl _ _).alloc (Nat.le_refl _) _).alloc (by rw [hs1]; omega) _)
    clear hs1
    have c0_p0 := p0.cell 0
    have c0_p1 := p0.cell 1
    have c0_q0 := q0.cell 0
    have c0_q1 := q0.cell 1
    simp at c0_p0 c0_p1 c0_q0 c0_q1
    go_enter Try.func75, Try.ntmps75
    go_wp2_with fail
    refine (H1.out _).mono ?_; rintro e w1 ⟨rfl, hb1⟩
    have t1 := hW.trans (hb1.mono hW.size)
    have p1 := p0.step hb1
    have q1 := q0.step hb1
    clear c0_p0 c0_p1 c0_q0 c0_q1 p0 q0
    have c1_p0 := p1.cell 0
    have c1_p1 := p1.cell 1
    have c1_q0 := q1.cell 0
    have c1_q1 := q1.cell 1
    simp at c1_p0 c1_p1 c1_q0 c1_q1
    go_wp2_with fail
    go_ret
    exact ⟨by first | rfl | (simp; omega), t1⟩
  cases g2 : buOk y
  · rw [show fitOk x y = false from by simp [fitOk, g2]]
    rw [g1] at H1
    rw [g2] at H2
    clear g1 g2
    obtain ⟨xr, xl⟩ := x
    obtain ⟨yr, yd⟩ := y
    simp only [SvV, BuV] at *
    have hs1 : (w.alloc (.cells #[.int .i64 xr, .int .i64 xl] 25)).heap.size = w.heap.size + 1 := by simp
    have p0 := (BK.made w 25 #[.int .i64 xr, .int .i64 xl]).alloc (.cells #[.int .i64 yr, .int .i64 yd] 36)
    have q0 := BK.made (w.alloc (.cells #[.int .i64 xr, .int .i64 xl] 25)) 36 #[.int .i64 yr, .int .i64 yd]
    rw [hs1] at q0
    have hW : Below w.heap.size w ((w.alloc (.cells #[.int .i64 xr, .int .i64 xl] 25)).alloc (.cells #[.int .i64 yr, .int .i64 yd] 36)) := (((Below.refl _ _).alloc (Nat.le_refl _) _).alloc (by rw [hs1]; omega) _)
    clear hs1
    have c0_p0 := p0.cell 0
    have c0_p1 := p0.cell 1
    have c0_q0 := q0.cell 0
    have c0_q1 := q0.cell 1
    simp at c0_p0 c0_p1 c0_q0 c0_q1
    go_enter Try.func75, Try.ntmps75
    go_wp2_with fail
    refine (H1.out _).mono ?_; rintro e w1 ⟨rfl, hb1⟩
    have t1 := hW.trans (hb1.mono hW.size)
    have p1 := p0.step hb1
    have q1 := q0.step hb1
    clear c0_p0 c0_p1 c0_q0 c0_q1 p0 q0
    have c1_p0 := p1.cell 0
    have c1_p1 := p1.cell 1
    have c1_q0 := q1.cell 0
    have c1_q1 := q1.cell 1
    simp at c1_p0 c1_p1 c1_q0 c1_q1
    go_wp2_with fail
    refine (H2.out _).mono ?_; rintro e w2 ⟨rfl, hb2⟩
    have t2 := t1.trans (hb2.mono t1.size)
    have p2 := p1.step hb2
    have q2 := q1.step hb2
    clear c1_p0 c1_p1 c1_q0 c1_q1 p1 q1
    have c2_p0 := p2.cell 0
    have c2_p1 := p2.cell 1
    have c2_q0 := q2.cell 0
    have c2_q1 := q2.cell 1
    simp at c2_p0 c2_p1 c2_q0 c2_q1
    go_wp2_with fail
    go_ret
    exact ⟨by first | rfl | (simp; omega), t2⟩
  by_cases g3 : y.r ≤ x.r
  · rw [show fitOk x y = true from by simp [fitOk, g1, g2, g3]]
    rw [g1] at H1
    rw [g2] at H2
    clear g1 g2
    obtain ⟨xr, xl⟩ := x
    obtain ⟨yr, yd⟩ := y
    simp only [SvV, BuV] at *
    have hs1 : (w.alloc (.cells #[.int .i64 xr, .int .i64 xl] 25)).heap.size = w.heap.size + 1 := by simp
    have p0 := (BK.made w 25 #[.int .i64 xr, .int .i64 xl]).alloc (.cells #[.int .i64 yr, .int .i64 yd] 36)
    have q0 := BK.made (w.alloc (.cells #[.int .i64 xr, .int .i64 xl] 25)) 36 #[.int .i64 yr, .int .i64 yd]
    rw [hs1] at q0
    have hW : Below w.heap.size w ((w.alloc (.cells #[.int .i64 xr, .int .i64 xl] 25)).alloc (.cells #[.int .i64 yr, .int .i64 yd] 36)) := (((Below.refl _ _).alloc (Nat.le_refl _) _).alloc (by rw [hs1]; omega) _)
    clear hs1
    have c0_p0 := p0.cell 0
    have c0_p1 := p0.cell 1
    have c0_q0 := q0.cell 0
    have c0_q1 := q0.cell 1
    simp at c0_p0 c0_p1 c0_q0 c0_q1
    go_enter Try.func75, Try.ntmps75
    go_wp2_with fail
    refine (H1.out _).mono ?_; rintro e w1 ⟨rfl, hb1⟩
    have t1 := hW.trans (hb1.mono hW.size)
    have p1 := p0.step hb1
    have q1 := q0.step hb1
    clear c0_p0 c0_p1 c0_q0 c0_q1 p0 q0
    have c1_p0 := p1.cell 0
    have c1_p1 := p1.cell 1
    have c1_q0 := q1.cell 0
    have c1_q1 := q1.cell 1
    simp at c1_p0 c1_p1 c1_q0 c1_q1
    go_wp2_with fail
    refine (H2.out _).mono ?_; rintro e w2 ⟨rfl, hb2⟩
    have t2 := t1.trans (hb2.mono t1.size)
    have p2 := p1.step hb2
    have q2 := q1.step hb2
    clear c1_p0 c1_p1 c1_q0 c1_q1 p1 q1
    have c2_p0 := p2.cell 0
    have c2_p1 := p2.cell 1
    have c2_q0 := q2.cell 0
    have c2_q1 := q2.cell 1
    simp at c2_p0 c2_p1 c2_q0 c2_q1
    go_wp2_with fail
    go_ret
    exact ⟨by first | rfl | (simp; omega), t2⟩
  · rw [show fitOk x y = false from by simp [fitOk, g1, g2, g3]]
    rw [g1] at H1
    rw [g2] at H2
    clear g1 g2
    obtain ⟨xr, xl⟩ := x
    obtain ⟨yr, yd⟩ := y
    simp only [SvV, BuV] at *
    have hs1 : (w.alloc (.cells #[.int .i64 xr, .int .i64 xl] 25)).heap.size = w.heap.size + 1 := by simp
    have p0 := (BK.made w 25 #[.int .i64 xr, .int .i64 xl]).alloc (.cells #[.int .i64 yr, .int .i64 yd] 36)
    have q0 := BK.made (w.alloc (.cells #[.int .i64 xr, .int .i64 xl] 25)) 36 #[.int .i64 yr, .int .i64 yd]
    rw [hs1] at q0
    have hW : Below w.heap.size w ((w.alloc (.cells #[.int .i64 xr, .int .i64 xl] 25)).alloc (.cells #[.int .i64 yr, .int .i64 yd] 36)) := (((Below.refl _ _).alloc (Nat.le_refl _) _).alloc (by rw [hs1]; omega) _)
    clear hs1
    have c0_p0 := p0.cell 0
    have c0_p1 := p0.cell 1
    have c0_q0 := q0.cell 0
    have c0_q1 := q0.cell 1
    simp at c0_p0 c0_p1 c0_q0 c0_q1
    go_enter Try.func75, Try.ntmps75
    go_wp2_with fail
    refine (H1.out _).mono ?_; rintro e w1 ⟨rfl, hb1⟩
    have t1 := hW.trans (hb1.mono hW.size)
    have p1 := p0.step hb1
    have q1 := q0.step hb1
    clear c0_p0 c0_p1 c0_q0 c0_q1 p0 q0
    have c1_p0 := p1.cell 0
    have c1_p1 := p1.cell 1
    have c1_q0 := q1.cell 0
    have c1_q1 := q1.cell 1
    simp at c1_p0 c1_p1 c1_q0 c1_q1
    go_wp2_with fail
    refine (H2.out _).mono ?_; rintro e w2 ⟨rfl, hb2⟩
    have t2 := t1.trans (hb2.mono t1.size)
    have p2 := p1.step hb2
    have q2 := q1.step hb2
    clear c1_p0 c1_p1 c1_q0 c1_q1 p1 q1
    have c2_p0 := p2.cell 0
    have c2_p1 := p2.cell 1
    have c2_q0 := q2.cell 0
    have c2_q1 := q2.cell 1
    simp at c2_p0 c2_p1 c2_q0 c2_q1
    go_wp2_with fail
    go_ret
    exact ⟨by first | rfl | (simp; omega), t2⟩
set_option maxHeartbeats 1000000 in
theorem specFit_any (x : Sv) (y : Bu) (w : World) : Calls Try.prog 78 #[SvV x, BuV y] w (RetV w (.bool (fitOk x y))) := by
  have H1 := Lib.hid fun w => boServer_any x w
  have H2 := Lib.hid fun w => shBucket_any y w
  cases g1 : svOk x
  · rw [show fitOk x y = false from by simp [fitOk, g1]]
    rw [g1] at H1
    clear H2 g1
    obtain ⟨xr, xl⟩ := x
    obtain ⟨yr, yd⟩ := y
    simp only [SvV, BuV] at *
    have hs1 : (w.alloc (.cells #[.int .i64 xr, .int .i64 xl] 25)).heap.size = w.heap.size + 1 := by simp
    have p0 := (BK.made w 25 #[.int .i64 xr, .int .i64 xl]).alloc (.cells #[.int .i64 yr, .int .i64 yd] 36)
    have q0 := BK.made (w.alloc (.cells #[.int .i64 xr, .int .i64 xl] 25)) 36 #[.int .i64 yr, .int .i64 yd]
    rw [hs1] at q0
    have hW : Below w.heap.size w ((w.alloc (.cells #[.int .i64 xr, .int .i64 xl] 25)).alloc (.cells #[.int .i64 yr, .int .i64 yd] 36)) := (((Below.refl _ _).alloc (Nat.le_refl _) _).alloc (by rw [hs1]; omega) _)
    clear hs1
    have c0_p0 := p0.cell 0
    have c0_p1 := p0.cell 1
    have c0_q0 := q0.cell 0
    have c0_q1 := q0.cell 1
    simp at c0_p0 c0_p1 c0_q0 c0_q1
    go_enter Try.func78, Try.ntmps78
    go_wp2_with fail
    refine (H1.out _).mono ?_; rintro e w1 ⟨rfl, hb1⟩
    have t1 := hW.trans (hb1.mono hW.size)
    have p1 := p0.step hb1
    have q1 := q0.step hb1
    clear c0_p0 c0_p1 c0_q0 c0_q1 p0 q0
    have c1_p0 := p1.cell 0
    have c1_p1 := p1.cell 1
    have c1_q0 := q1.cell 0
    have c1_q1 := q1.cell 1
    simp at c1_p0 c1_p1 c1_q0 c1_q1
    go_wp2_with fail
    go_ret
    exact ⟨by first | rfl | (simp; omega), t1⟩
  cases g2 : buOk y
  · rw [show fitOk x y = false from by simp [fitOk, g2]]
    rw [g1] at H1
    rw [g2] at H2
    clear g1 g2
    obtain ⟨xr, xl⟩ := x
    obtain ⟨yr, yd⟩ := y
    simp only [SvV, BuV] at *
    have hs1 : (w.alloc (.cells #[.int .i64 xr, .int .i64 xl] 25)).heap.size = w.heap.size + 1 := by simp
    have p0 := (BK.made w 25 #[.int .i64 xr, .int .i64 xl]).alloc (.cells #[.int .i64 yr, .int .i64 yd] 36)
    have q0 := BK.made (w.alloc (.cells #[.int .i64 xr, .int .i64 xl] 25)) 36 #[.int .i64 yr, .int .i64 yd]
    rw [hs1] at q0
    have hW : Below w.heap.size w ((w.alloc (.cells #[.int .i64 xr, .int .i64 xl] 25)).alloc (.cells #[.int .i64 yr, .int .i64 yd] 36)) := (((Below.refl _ _).alloc (Nat.le_refl _) _).alloc (by rw [hs1]; omega) _)
    clear hs1
    have c0_p0 := p0.cell 0
    have c0_p1 := p0.cell 1
    have c0_q0 := q0.cell 0
    have c0_q1 := q0.cell 1
    simp at c0_p0 c0_p1 c0_q0 c0_q1
    go_enter Try.func78, Try.ntmps78
    go_wp2_with fail
    refine (H1.out _).mono ?_; rintro e w1 ⟨rfl, hb1⟩
    have t1 := hW.trans (hb1.mono hW.size)
    have p1 := p0.step hb1
    have q1 := q0.step hb1
    clear c0_p0 c0_p1 c0_q0 c0_q1 p0 q0
    have c1_p0 := p1.cell 0
    have c1_p1 := p1.cell 1
    have c1_q0 := q1.cell 0
    have c1_q1 := q1.cell 1
    simp at c1_p0 c1_p1 c1_q0 c1_q1
    go_wp2_with fail
    refine (H2.out _).mono ?_; rintro e w2 ⟨rfl, hb2⟩
    have t2 := t1.trans (hb2.mono t1.size)
    have p2 := p1.step hb2
    have q2 := q1.step hb2
    clear c1_p0 c1_p1 c1_q0 c1_q1 p1 q1
    have c2_p0 := p2.cell 0
    have c2_p1 := p2.cell 1
    have c2_q0 := q2.cell 0
    have c2_q1 := q2.cell 1
    simp at c2_p0 c2_p1 c2_q0 c2_q1
    go_wp2_with fail
    go_ret
    exact ⟨by first | rfl | (simp; omega), t2⟩
  by_cases g3 : y.r ≤ x.r
  · rw [show fitOk x y = true from by simp [fitOk, g1, g2, g3]]
    rw [g1] at H1
    rw [g2] at H2
    clear g1 g2
    obtain ⟨xr, xl⟩ := x
    obtain ⟨yr, yd⟩ := y
    simp only [SvV, BuV] at *
    have hs1 : (w.alloc (.cells #[.int .i64 xr, .int .i64 xl] 25)).heap.size = w.heap.size + 1 := by simp
    have p0 := (BK.made w 25 #[.int .i64 xr, .int .i64 xl]).alloc (.cells #[.int .i64 yr, .int .i64 yd] 36)
    have q0 := BK.made (w.alloc (.cells #[.int .i64 xr, .int .i64 xl] 25)) 36 #[.int .i64 yr, .int .i64 yd]
    rw [hs1] at q0
    have hW : Below w.heap.size w ((w.alloc (.cells #[.int .i64 xr, .int .i64 xl] 25)).alloc (.cells #[.int .i64 yr, .int .i64 yd] 36)) := (((Below.refl _ _).alloc (Nat.le_refl _) _).alloc (by rw [hs1]; omega) _)
    clear hs1
    have c0_p0 := p0.cell 0
    have c0_p1 := p0.cell 1
    have c0_q0 := q0.cell 0
    have c0_q1 := q0.cell 1
    simp at c0_p0 c0_p1 c0_q0 c0_q1
    go_enter Try.func78, Try.ntmps78
    go_wp2_with fail
    refine (H1.out _).mono ?_; rintro e w1 ⟨rfl, hb1⟩
    have t1 := hW.trans (hb1.mono hW.size)
    have p1 := p0.step hb1
    have q1 := q0.step hb1
    clear c0_p0 c0_p1 c0_q0 c0_q1 p0 q0
    have c1_p0 := p1.cell 0
    have c1_p1 := p1.cell 1
    have c1_q0 := q1.cell 0
    have c1_q1 := q1.cell 1
    simp at c1_p0 c1_p1 c1_q0 c1_q1
    go_wp2_with fail
    refine (H2.out _).mono ?_; rintro e w2 ⟨rfl, hb2⟩
    have t2 := t1.trans (hb2.mono t1.size)
    have p2 := p1.step hb2
    have q2 := q1.step hb2
    clear c1_p0 c1_p1 c1_q0 c1_q1 p1 q1
    have c2_p0 := p2.cell 0
    have c2_p1 := p2.cell 1
    have c2_q0 := q2.cell 0
    have c2_q1 := q2.cell 1
    simp at c2_p0 c2_p1 c2_q0 c2_q1
    go_wp2_with fail
    go_ret
    exact ⟨by first | rfl | (simp; omega), t2⟩
  · rw [show fitOk x y = false from by simp [fitOk, g1, g2, g3]]
    rw [g1] at H1
    rw [g2] at H2
    clear g1 g2
    obtain ⟨xr, xl⟩ := x
    obtain ⟨yr, yd⟩ := y
    simp only [SvV, BuV] at *
    have hs1 : (w.alloc (.cells #[.int .i64 xr, .int .i64 xl] 25)).heap.size = w.heap.size + 1 := by simp
    have p0 := (BK.made w 25 #[.int .i64 xr, .int .i64 xl]).alloc (.cells #[.int .i64 yr, .int .i64 yd] 36)
    have q0 := BK.made (w.alloc (.cells #[.int .i64 xr, .int .i64 xl] 25)) 36 #[.int .i64 yr, .int .i64 yd]
    rw [hs1] at q0
    have hW : Below w.heap.size w ((w.alloc (.cells #[.int .i64 xr, .int .i64 xl] 25)).alloc (.cells #[.int .i64 yr, .int .i64 yd] 36)) := (((Below.refl _ _).alloc (Nat.le_refl _) _).alloc (by rw [hs1]; omega) _)
    clear hs1
    have c0_p0 := p0.cell 0
    have c0_p1 := p0.cell 1
    have c0_q0 := q0.cell 0
    have c0_q1 := q0.cell 1
    simp at c0_p0 c0_p1 c0_q0 c0_q1
    go_enter Try.func78, Try.ntmps78
    go_wp2_with fail
    refine (H1.out _).mono ?_; rintro e w1 ⟨rfl, hb1⟩
    have t1 := hW.trans (hb1.mono hW.size)
    have p1 := p0.step hb1
    have q1 := q0.step hb1
    clear c0_p0 c0_p1 c0_q0 c0_q1 p0 q0
    have c1_p0 := p1.cell 0
    have c1_p1 := p1.cell 1
    have c1_q0 := q1.cell 0
    have c1_q1 := q1.cell 1
    simp at c1_p0 c1_p1 c1_q0 c1_q1
    go_wp2_with fail
    refine (H2.out _).mono ?_; rintro e w2 ⟨rfl, hb2⟩
    have t2 := t1.trans (hb2.mono t1.size)
    have p2 := p1.step hb2
    have q2 := q1.step hb2
    clear c1_p0 c1_p1 c1_q0 c1_q1 p1 q1
    have c2_p0 := p2.cell 0
    have c2_p1 := p2.cell 1
    have c2_q0 := q2.cell 0
    have c2_q1 := q2.cell 1
    simp at c2_p0 c2_p1 c2_q0 c2_q1
    go_wp2_with fail
    go_ret
    exact ⟨by first | rfl | (simp; omega), t2⟩
set_option maxHeartbeats 1000000 in
theorem implBacklogBound_any (x : Sv) (y : Bu) (w : World) : Calls Try.prog 20 #[SvV x, BuV y] w (RetV w (.tuple #[.int .i64 (bkbSays x y).1, .bool (bkbSays x y).2])) := by
  have H1 := Lib.hid fun w => implFit_any x y w
  cases g1 : fitOk x y
  · rw [show bkbSays x y = (0, false) from by simp [bkbSays, g1]]
    rw [g1] at H1
    clear g1
    obtain ⟨xr, xl⟩ := x
    obtain ⟨yr, yd⟩ := y
    simp only [SvV, BuV] at *
    have hs1 : (w.alloc (.cells #[.int .i64 xr, .int .i64 xl] 25)).heap.size = w.heap.size + 1 := by simp
    have p0 := (BK.made w 25 #[.int .i64 xr, .int .i64 xl]).alloc (.cells #[.int .i64 yr, .int .i64 yd] 36)
    have q0 := BK.made (w.alloc (.cells #[.int .i64 xr, .int .i64 xl] 25)) 36 #[.int .i64 yr, .int .i64 yd]
    rw [hs1] at q0
    have hW : Below w.heap.size w ((w.alloc (.cells #[.int .i64 xr, .int .i64 xl] 25)).alloc (.cells #[.int .i64 yr, .int .i64 yd] 36)) := (((Below.refl _ _).alloc (Nat.le_refl _) _).alloc (by rw [hs1]; omega) _)
    clear hs1
    have c0_p0 := p0.cell 0
    have c0_p1 := p0.cell 1
    have c0_q0 := q0.cell 0
    have c0_q1 := q0.cell 1
    simp at c0_p0 c0_p1 c0_q0 c0_q1
    go_enter Try.func20, Try.ntmps20
    go_wp2_with fail
    refine (H1.out _).mono ?_; rintro e w1 ⟨rfl, hb1⟩
    have t1 := hW.trans (hb1.mono hW.size)
    have p1 := p0.step hb1
    have q1 := q0.step hb1
    clear c0_p0 c0_p1 c0_q0 c0_q1 p0 q0
    have c1_p0 := p1.cell 0
    have c1_p1 := p1.cell 1
    have c1_q0 := q1.cell 0
    have c1_q1 := q1.cell 1
    simp at c1_p0 c1_p1 c1_q0 c1_q1
    go_wp2_with fail
    go_ret2
    exact ⟨rfl, t1⟩
  · rw [show bkbSays x y = (y.d + y.r * x.l, true) from by simp [bkbSays, g1]]
    rw [g1] at H1
    have hv := fitOk_in g1
    clear g1
    obtain ⟨xr, xl⟩ := x
    obtain ⟨yr, yd⟩ := y
    simp only [SvV, BuV] at *
    have hm := mul_small (a := yr) (b := xl) hv.2.1.1.1 hv.2.1.1.2 hv.1.2.1 hv.1.2.2
    have hs1 : (w.alloc (.cells #[.int .i64 xr, .int .i64 xl] 25)).heap.size = w.heap.size + 1 := by simp
    have p0 := (BK.made w 25 #[.int .i64 xr, .int .i64 xl]).alloc (.cells #[.int .i64 yr, .int .i64 yd] 36)
    have q0 := BK.made (w.alloc (.cells #[.int .i64 xr, .int .i64 xl] 25)) 36 #[.int .i64 yr, .int .i64 yd]
    rw [hs1] at q0
    have hW : Below w.heap.size w ((w.alloc (.cells #[.int .i64 xr, .int .i64 xl] 25)).alloc (.cells #[.int .i64 yr, .int .i64 yd] 36)) := (((Below.refl _ _).alloc (Nat.le_refl _) _).alloc (by rw [hs1]; omega) _)
    clear hs1
    have c0_p0 := p0.cell 0
    have c0_p1 := p0.cell 1
    have c0_q0 := q0.cell 0
    have c0_q1 := q0.cell 1
    simp at c0_p0 c0_p1 c0_q0 c0_q1
    go_enter Try.func20, Try.ntmps20
    go_wp2_with fail
    refine (H1.out _).mono ?_; rintro e w1 ⟨rfl, hb1⟩
    have t1 := hW.trans (hb1.mono hW.size)
    have p1 := p0.step hb1
    have q1 := q0.step hb1
    clear c0_p0 c0_p1 c0_q0 c0_q1 p0 q0
    have c1_p0 := p1.cell 0
    have c1_p1 := p1.cell 1
    have c1_q0 := q1.cell 0
    have c1_q1 := q1.cell 1
    simp at c1_p0 c1_p1 c1_q0 c1_q1
    go_wp2_with fail
    go_ret2
    exact ⟨congrArg (fun z => Ending.returned (.tuple #[.int .i64 z, .bool true])) (by first | exact hV | omega), by first | exact t1 | exact t1.drew⟩
set_option maxHeartbeats 1000000 in
theorem specBacklogBound_any (x : Sv) (y : Bu) (w : World) : Calls Try.prog 24 #[SvV x, BuV y] w (RetV w (.tuple #[.int .i64 (bkbSays x y).1, .bool (bkbSays x y).2])) := by
  have H1 := Lib.hid fun w => specFit_any x y w
  cases g1 : fitOk x y
  · rw [show bkbSays x y = (0, false) from by simp [bkbSays, g1]]
    rw [g1] at H1
    clear g1
    obtain ⟨xr, xl⟩ := x
    obtain ⟨yr, yd⟩ := y
    simp only [SvV, BuV] at *
    have hs1 : (w.alloc (.cells #[.int .i64 xr, .int .i64 xl] 25)).heap.size = w.heap.size + 1 := by simp
    have p0 := (BK.made w 25 #[.int .i64 xr, .int .i64 xl]).alloc (.cells #[.int .i64 yr, .int .i64 yd] 36)
    have q0 := BK.made (w.alloc (.cells #[.int .i64 xr, .int .i64 xl] 25)) 36 #[.int .i64 yr, .int .i64 yd]
    rw [hs1] at q0
    have hW : Below w.heap.size w ((w.alloc (.cells #[.int .i64 xr, .int .i64 xl] 25)).alloc (.cells #[.int .i64 yr, .int .i64 yd] 36)) := (((Below.refl _ _).alloc (Nat.le_refl _) _).alloc (by rw [hs1]; omega) _)
    clear hs1
    have c0_p0 := p0.cell 0
    have c0_p1 := p0.cell 1
    have c0_q0 := q0.cell 0
    have c0_q1 := q0.cell 1
    simp at c0_p0 c0_p1 c0_q0 c0_q1
    go_enter Try.func24, Try.ntmps24
    go_wp2_with fail
    refine (H1.out _).mono ?_; rintro e w1 ⟨rfl, hb1⟩
    have t1 := hW.trans (hb1.mono hW.size)
    have p1 := p0.step hb1
    have q1 := q0.step hb1
    clear c0_p0 c0_p1 c0_q0 c0_q1 p0 q0
    have c1_p0 := p1.cell 0
    have c1_p1 := p1.cell 1
    have c1_q0 := q1.cell 0
    have c1_q1 := q1.cell 1
    simp at c1_p0 c1_p1 c1_q0 c1_q1
    go_wp2_with fail
    go_ret2
    exact ⟨rfl, t1⟩
  · rw [show bkbSays x y = (y.d + y.r * x.l, true) from by simp [bkbSays, g1]]
    rw [g1] at H1
    have hv := fitOk_in g1
    clear g1
    obtain ⟨xr, xl⟩ := x
    obtain ⟨yr, yd⟩ := y
    simp only [SvV, BuV] at *
    have hm := mul_small (a := yr) (b := xl) hv.2.1.1.1 hv.2.1.1.2 hv.1.2.1 hv.1.2.2
    have hs1 : (w.alloc (.cells #[.int .i64 xr, .int .i64 xl] 25)).heap.size = w.heap.size + 1 := by simp
    have p0 := (BK.made w 25 #[.int .i64 xr, .int .i64 xl]).alloc (.cells #[.int .i64 yr, .int .i64 yd] 36)
    have q0 := BK.made (w.alloc (.cells #[.int .i64 xr, .int .i64 xl] 25)) 36 #[.int .i64 yr, .int .i64 yd]
    rw [hs1] at q0
    have hW : Below w.heap.size w ((w.alloc (.cells #[.int .i64 xr, .int .i64 xl] 25)).alloc (.cells #[.int .i64 yr, .int .i64 yd] 36)) := (((Below.refl _ _).alloc (Nat.le_refl _) _).alloc (by rw [hs1]; omega) _)
    clear hs1
    have c0_p0 := p0.cell 0
    have c0_p1 := p0.cell 1
    have c0_q0 := q0.cell 0
    have c0_q1 := q0.cell 1
    simp at c0_p0 c0_p1 c0_q0 c0_q1
    go_enter Try.func24, Try.ntmps24
    go_wp2_with fail
    refine (H1.out _).mono ?_; rintro e w1 ⟨rfl, hb1⟩
    have t1 := hW.trans (hb1.mono hW.size)
    have p1 := p0.step hb1
    have q1 := q0.step hb1
    clear c0_p0 c0_p1 c0_q0 c0_q1 p0 q0
    have c1_p0 := p1.cell 0
    have c1_p1 := p1.cell 1
    have c1_q0 := q1.cell 0
    have c1_q1 := q1.cell 1
    simp at c1_p0 c1_p1 c1_q0 c1_q1
    go_wp2_with fail
    go_ret2
    exact ⟨congrArg (fun z => Ending.returned (.tuple #[.int .i64 z, .bool true])) (by first | exact hV | omega), by first | exact t1 | exact t1.drew⟩
set_option maxHeartbeats 1000000 in
theorem implDelayBound_any (x : Sv) (y : Bu) (w : World) : Calls Try.prog 21 #[SvV x, BuV y] w (RetV w (.tuple #[.int .i64 (dlbSays x y).1, .bool (dlbSays x y).2])) := by
  have H1 := Lib.hid fun w => implFit_any x y w
  cases g1 : fitOk x y
  · rw [show dlbSays x y = (0, false) from by simp [dlbSays, g1]]
    rw [g1] at H1
    clear g1
    obtain ⟨xr, xl⟩ := x
    obtain ⟨yr, yd⟩ := y
    simp only [SvV, BuV] at *
    have hs1 : (w.alloc (.cells #[.int .i64 xr, .int .i64 xl] 25)).heap.size = w.heap.size + 1 := by simp
    have p0 := (BK.made w 25 #[.int .i64 xr, .int .i64 xl]).alloc (.cells #[.int .i64 yr, .int .i64 yd] 36)
    have q0 := BK.made (w.alloc (.cells #[.int .i64 xr, .int .i64 xl] 25)) 36 #[.int .i64 yr, .int .i64 yd]
    rw [hs1] at q0
    have hW : Below w.heap.size w ((w.alloc (.cells #[.int .i64 xr, .int .i64 xl] 25)).alloc (.cells #[.int .i64 yr, .int .i64 yd] 36)) := (((Below.refl _ _).alloc (Nat.le_refl _) _).alloc (by rw [hs1]; omega) _)
    clear hs1
    have c0_p0 := p0.cell 0
    have c0_p1 := p0.cell 1
    have c0_q0 := q0.cell 0
    have c0_q1 := q0.cell 1
    simp at c0_p0 c0_p1 c0_q0 c0_q1
    go_enter Try.func21, Try.ntmps21
    go_wp2_with fail
    refine (H1.out _).mono ?_; rintro e w1 ⟨rfl, hb1⟩
    have t1 := hW.trans (hb1.mono hW.size)
    have p1 := p0.step hb1
    have q1 := q0.step hb1
    clear c0_p0 c0_p1 c0_q0 c0_q1 p0 q0
    have c1_p0 := p1.cell 0
    have c1_p1 := p1.cell 1
    have c1_q0 := q1.cell 0
    have c1_q1 := q1.cell 1
    simp at c1_p0 c1_p1 c1_q0 c1_q1
    go_wp2_with fail
    go_ret2
    exact ⟨rfl, t1⟩
  · rw [show dlbSays x y = (x.l + (y.d + x.r - 1).tdiv x.r, true) from by simp [dlbSays, g1]]
    rw [g1] at H1
    have hv := fitOk_in g1
    clear g1
    obtain ⟨xr, xl⟩ := x
    obtain ⟨yr, yd⟩ := y
    simp only [SvV, BuV] at *
    have hm := mul_small (a := yr) (b := xl) hv.2.1.1.1 hv.2.1.1.2 hv.1.2.1 hv.1.2.2
    have ht := tdiv_small (a := yd + xr - 1) (b := xr) (by omega) (by omega) hv.1.1.1
    have hne : xr ≠ 0 := by omega
    have hq2 : (yd + xr - 1) / xr = (yd + xr - 1).tdiv xr := (Int.tdiv_eq_ediv_of_nonneg (by omega)).symm
    obtain ⟨V, hVV⟩ : ∃ V, V = (yd + xr - 1).tdiv xr := ⟨_, rfl⟩
    have hq3 : (yd + xr - 1).tdiv xr = V := hVV.symm
    rw [← hVV] at ht hq2 ⊢
    have e1 : IntKind.i64.wrap (xr - 1) = xr - 1 := IntWalk.i64_in _ (by omega)
    have hV : xl + V = xl + V := rfl
    clear hVV
    have hs1 : (w.alloc (.cells #[.int .i64 xr, .int .i64 xl] 25)).heap.size = w.heap.size + 1 := by simp
    have p0 := (BK.made w 25 #[.int .i64 xr, .int .i64 xl]).alloc (.cells #[.int .i64 yr, .int .i64 yd] 36)
    have q0 := BK.made (w.alloc (.cells #[.int .i64 xr, .int .i64 xl] 25)) 36 #[.int .i64 yr, .int .i64 yd]
    rw [hs1] at q0
    have hW : Below w.heap.size w ((w.alloc (.cells #[.int .i64 xr, .int .i64 xl] 25)).alloc (.cells #[.int .i64 yr, .int .i64 yd] 36)) := (((Below.refl _ _).alloc (Nat.le_refl _) _).alloc (by rw [hs1]; omega) _)
    clear hs1
    have c0_p0 := p0.cell 0
    have c0_p1 := p0.cell 1
    have c0_q0 := q0.cell 0
    have c0_q1 := q0.cell 1
    simp at c0_p0 c0_p1 c0_q0 c0_q1
    go_enter Try.func21, Try.ntmps21
    go_wp2_with fail
    refine (H1.out _).mono ?_; rintro e w1 ⟨rfl, hb1⟩
    have t1 := hW.trans (hb1.mono hW.size)
    have p1 := p0.step hb1
    have q1 := q0.step hb1
    clear c0_p0 c0_p1 c0_q0 c0_q1 p0 q0
    have c1_p0 := p1.cell 0
    have c1_p1 := p1.cell 1
    have c1_q0 := q1.cell 0
    have c1_q1 := q1.cell 1
    simp at c1_p0 c1_p1 c1_q0 c1_q1
    go_wp2_with fail
    go_region
    go_wp2_with fail
    go_ret2
    exact ⟨congrArg (fun z => Ending.returned (.tuple #[.int .i64 z, .bool true])) (by first | exact hV | omega), by first | exact t1 | exact t1.drew⟩
set_option maxHeartbeats 1000000 in
theorem specDelayBound_any (x : Sv) (y : Bu) (w : World) : Calls Try.prog 25 #[SvV x, BuV y] w (RetV w (.tuple #[.int .i64 (dlbSays x y).1, .bool (dlbSays x y).2])) := by
  have H1 := Lib.hid fun w => specFit_any x y w
  cases g1 : fitOk x y
  · rw [show dlbSays x y = (0, false) from by simp [dlbSays, g1]]
    rw [g1] at H1
    clear g1
    obtain ⟨xr, xl⟩ := x
    obtain ⟨yr, yd⟩ := y
    simp only [SvV, BuV] at *
    have hs1 : (w.alloc (.cells #[.int .i64 xr, .int .i64 xl] 25)).heap.size = w.heap.size + 1 := by simp
    have p0 := (BK.made w 25 #[.int .i64 xr, .int .i64 xl]).alloc (.cells #[.int .i64 yr, .int .i64 yd] 36)
    have q0 := BK.made (w.alloc (.cells #[.int .i64 xr, .int .i64 xl] 25)) 36 #[.int .i64 yr, .int .i64 yd]
    rw [hs1] at q0
    have hW : Below w.heap.size w ((w.alloc (.cells #[.int .i64 xr, .int .i64 xl] 25)).alloc (.cells #[.int .i64 yr, .int .i64 yd] 36)) := (((Below.refl _ _).alloc (Nat.le_refl _) _).alloc (by rw [hs1]; omega) _)
    clear hs1
    have c0_p0 := p0.cell 0
    have c0_p1 := p0.cell 1
    have c0_q0 := q0.cell 0
    have c0_q1 := q0.cell 1
    simp at c0_p0 c0_p1 c0_q0 c0_q1
    go_enter Try.func25, Try.ntmps25
    go_wp2_with fail
    refine (H1.out _).mono ?_; rintro e w1 ⟨rfl, hb1⟩
    have t1 := hW.trans (hb1.mono hW.size)
    have p1 := p0.step hb1
    have q1 := q0.step hb1
    clear c0_p0 c0_p1 c0_q0 c0_q1 p0 q0
    have c1_p0 := p1.cell 0
    have c1_p1 := p1.cell 1
    have c1_q0 := q1.cell 0
    have c1_q1 := q1.cell 1
    simp at c1_p0 c1_p1 c1_q0 c1_q1
    go_wp2_with fail
    go_ret2
    exact ⟨rfl, t1⟩
  · rw [show dlbSays x y = (x.l + (y.d + x.r - 1).tdiv x.r, true) from by simp [dlbSays, g1]]
    rw [g1] at H1
    have hv := fitOk_in g1
    clear g1
    obtain ⟨xr, xl⟩ := x
    obtain ⟨yr, yd⟩ := y
    simp only [SvV, BuV] at *
    have hm := mul_small (a := yr) (b := xl) hv.2.1.1.1 hv.2.1.1.2 hv.1.2.1 hv.1.2.2
    have ht := tdiv_small (a := yd + xr - 1) (b := xr) (by omega) (by omega) hv.1.1.1
    have hne : xr ≠ 0 := by omega
    have hq2 : (yd + xr - 1) / xr = (yd + xr - 1).tdiv xr := (Int.tdiv_eq_ediv_of_nonneg (by omega)).symm
    obtain ⟨V, hVV⟩ : ∃ V, V = (yd + xr - 1).tdiv xr := ⟨_, rfl⟩
    have hq3 : (yd + xr - 1).tdiv xr = V := hVV.symm
    rw [← hVV] at ht hq2 ⊢
    have e1 : IntKind.i64.wrap (xr - 1) = xr - 1 := IntWalk.i64_in _ (by omega)
    have hV : xl + V = xl + V := rfl
    clear hVV
    have hs1 : (w.alloc (.cells #[.int .i64 xr, .int .i64 xl] 25)).heap.size = w.heap.size + 1 := by simp
    have p0 := (BK.made w 25 #[.int .i64 xr, .int .i64 xl]).alloc (.cells #[.int .i64 yr, .int .i64 yd] 36)
    have q0 := BK.made (w.alloc (.cells #[.int .i64 xr, .int .i64 xl] 25)) 36 #[.int .i64 yr, .int .i64 yd]
    rw [hs1] at q0
    have hW : Below w.heap.size w ((w.alloc (.cells #[.int .i64 xr, .int .i64 xl] 25)).alloc (.cells #[.int .i64 yr, .int .i64 yd] 36)) := (((Below.refl _ _).alloc (Nat.le_refl _) _).alloc (by rw [hs1]; omega) _)
    clear hs1
    have c0_p0 := p0.cell 0
    have c0_p1 := p0.cell 1
    have c0_q0 := q0.cell 0
    have c0_q1 := q0.cell 1
    simp at c0_p0 c0_p1 c0_q0 c0_q1
    go_enter Try.func25, Try.ntmps25
    go_wp2_with fail
    refine (H1.out _).mono ?_; rintro e w1 ⟨rfl, hb1⟩
    have t1 := hW.trans (hb1.mono hW.size)
    have p1 := p0.step hb1
    have q1 := q0.step hb1
    clear c0_p0 c0_p1 c0_q0 c0_q1 p0 q0
    have c1_p0 := p1.cell 0
    have c1_p1 := p1.cell 1
    have c1_q0 := q1.cell 0
    have c1_q1 := q1.cell 1
    simp at c1_p0 c1_p1 c1_q0 c1_q1
    go_wp2_with fail
    go_region
    go_wp2_with fail
    go_ret2
    exact ⟨congrArg (fun z => Ending.returned (.tuple #[.int .i64 z, .bool true])) (by first | exact hV | omega), by first | exact t1 | exact t1.drew⟩
end Go.Proofs.Ytlanpfcjcafapaa
