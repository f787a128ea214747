/-
  The draws of servers, buckets and traffic together.
-/
import Derived.Test.YtlanpfcjcafapaaCurS
namespace Go.Proofs.Ytlanpfcjcafapaa
open Go.RowKit
set_option maxRecDepth 100000
set_option linter.unusedVariables false
theorem RB.more {w : World} {B B' : Nat} {v : Value} {n : Nat} (h : RB w B v n) (hB : B ≤ B') : RB w B' v n := by
  obtain ⟨A, c, hv, hlc, hc⟩ := h
  refine ⟨A, c, hv, hlc, fun hn => ?_⟩
  obtain ⟨b, off, hA, hbB, hcell⟩ := hc hn
  exact ⟨b, off, hA, by omega, hcell⟩

def RetDrawServedBy (w : World) (e : Ending) (w' : World) : Prop := ∃ (x0 : Sv) (u1 : Value) (l1 : List Int), e = .returned (.tuple #[SvV x0, u1]) ∧ l1.length ≤ 41 ∧ OI 3 w' w.heap.size w'.heap.size u1 l1 ∧ Below w.heap.size w w'
set_option maxHeartbeats 2000000 in
theorem drawServedBy_any (v : Value) (n : Nat) (w : World) (h : RB w w.heap.size v n) (hn : n ≤ 1048576) :
    Calls Try.prog 7 #[v] w (RetDrawServedBy w) := by
  have b0_0 := BK.made w 25 #[.int .i64 0, .int .i64 0]
  have hA : Below w.heap.size w (w.alloc (.cells #[.int .i64 0, .int .i64 0] 25)) := (Below.refl _ _).alloc (Nat.le_refl _) _
  have h0 := CurAt.made ((h.below hA).more hA.size)
  have eG : (w.alloc (.cells #[.int .i64 0, .int .i64 0] 25)).heap.size = w.heap.size + 1 := by simp
  rw [eG] at h0
  clear eG
  obtain ⟨A, c, rfl, hlc, hc⟩ := h
  clear hc
  have b0_0 := b0_0.alloc (.cells #[.slice A n c, .int .i64 0, .int .u64 0] 68)
  have t0 : Below w.heap.size w ((w.alloc (.cells #[.int .i64 0, .int .i64 0] 25)).alloc (.cells #[.slice A n c, .int .i64 0, .int .u64 0] 68)) := hA.alloc hA.size _
  have z0 : w.heap.size + 2 ≤ ((w.alloc (.cells #[.int .i64 0, .int .i64 0] 25)).alloc (.cells #[.slice A n c, .int .i64 0, .int .u64 0] 68)).heap.size := by simp
  clear hA
  go_enter Try.func7, Try.ntmps7
  go_wp2_with fail
  refine (curSv_any (w.heap.size + 1) _ n _ _ h0 (by omega) hn).mono ?_; rintro e w1 ⟨x0, rfl, h1, g1⟩
  obtain ⟨x0a, x0b⟩ := x0
  simp only [SvV]
  have z1 := g1.size
  have t1 := t0.trans (g1.below (B := w.heap.size) (by omega) (by omega))
  have b0_1 := b0_0.far g1 (.inl (by omega))
  clear b0_0 g1 h0
  go_wp2_with fail
  refine (curTr_any (w.heap.size + 1) _ n _ _ h1 (by omega) hn).mono ?_; rintro e w2 ⟨u1, l1, rfl, hl1, o1, h2, g2⟩
  have z2 := g2.size
  have t2 := t1.trans (g2.below (B := w.heap.size) (by omega) (by omega))
  have b0_2 := b0_1.far g2 (.inl (by omega))
  clear b0_1 g2 h1
  have c00 := b0_2.cell 0
  have f00 := b0_2.free 0
  have c01 := b0_2.cell 1
  have f01 := b0_2.free 1
  simp at c00 c01
  go_wp2_with fail
  have gz : Wr w.heap.size (w.heap.size + 1) w2 ((w2.setCell ⟨w.heap.size, 0, none⟩ (.int .i64 x0a)).setCell ⟨w.heap.size, 1, none⟩ (.int .i64 x0b)) := (((Wr.refl w.heap.size (w.heap.size + 1) w2).setCell (p := ⟨w.heap.size, 0, none⟩) (by simp) (by simp) (.int .i64 x0a)).setCell (p := ⟨w.heap.size, 1, none⟩) (by simp) (by simp) (.int .i64 x0b))
  refine bodyPost_ret (v := .tuple #[SvV ⟨x0a, x0b⟩, u1]) (by simp [results, Try.results7, go_sem, SvV, c00, c01]) rfl ⟨⟨x0a, x0b⟩, u1, l1, rfl, hl1, (o1.far gz (by omega)).wide (by omega) (by simp), t2.trans (gz.below (Nat.le_refl _) (by omega))⟩
def RetDrawBacklogBound (w : World) (e : Ending) (w' : World) : Prop := ∃ (x0 : Sv) (x1 : Bu), e = .returned (.tuple #[SvV x0, BuV x1]) ∧ Below w.heap.size w w'
set_option maxHeartbeats 2000000 in
theorem drawBacklogBound_any (v : Value) (n : Nat) (w : World) (h : RB w w.heap.size v n) (hn : n ≤ 1048576) :
    Calls Try.prog 16 #[v] w (RetDrawBacklogBound w) := by
  have b0_0 := BK.made w 25 #[.int .i64 0, .int .i64 0]
  have b1_0 := BK.made (w.alloc (.cells #[.int .i64 0, .int .i64 0] 25)) 36 #[.int .i64 0, .int .i64 0]
  rw [World.size_alloc] at b1_0
  have b0_0 := b0_0.alloc (.cells #[.int .i64 0, .int .i64 0] 36)
  have hA : Below w.heap.size w ((w.alloc (.cells #[.int .i64 0, .int .i64 0] 25)).alloc (.cells #[.int .i64 0, .int .i64 0] 36)) := ((Below.refl _ _).alloc (Nat.le_refl _) _).alloc (by simp) _
  have h0 := CurAt.made ((h.below hA).more hA.size)
  have eG : ((w.alloc (.cells #[.int .i64 0, .int .i64 0] 25)).alloc (.cells #[.int .i64 0, .int .i64 0] 36)).heap.size = w.heap.size + 1 + 1 := by simp
  rw [eG] at h0
  clear eG
  obtain ⟨A, c, rfl, hlc, hc⟩ := h
  clear hc
  have b0_0 := b0_0.alloc (.cells #[.slice A n c, .int .i64 0, .int .u64 0] 68)
  have b1_0 := b1_0.alloc (.cells #[.slice A n c, .int .i64 0, .int .u64 0] 68)
  have t0 : Below w.heap.size w (((w.alloc (.cells #[.int .i64 0, .int .i64 0] 25)).alloc (.cells #[.int .i64 0, .int .i64 0] 36)).alloc (.cells #[.slice A n c, .int .i64 0, .int .u64 0] 68)) := hA.alloc hA.size _
  have z0 : w.heap.size + 3 ≤ (((w.alloc (.cells #[.int .i64 0, .int .i64 0] 25)).alloc (.cells #[.int .i64 0, .int .i64 0] 36)).alloc (.cells #[.slice A n c, .int .i64 0, .int .u64 0] 68)).heap.size := by simp
  clear hA
  go_enter Try.func16, Try.ntmps16
  go_wp2_with fail
  refine (curSv_any (w.heap.size + 1 + 1) _ n _ _ h0 (by omega) hn).mono ?_; rintro e w1 ⟨x0, rfl, h1, g1⟩
  obtain ⟨x0a, x0b⟩ := x0
  simp only [SvV]
  have z1 := g1.size
  have t1 := t0.trans (g1.below (B := w.heap.size) (by omega) (by omega))
  have b0_1 := b0_0.far g1 (.inl (by omega))
  have b1_1 := b1_0.far g1 (.inl (by omega))
  clear b0_0 b1_0 g1 h0
  go_wp2_with fail
  refine (curBu_any (w.heap.size + 1 + 1) _ n _ _ h1 (by omega) hn).mono ?_; rintro e w2 ⟨x1, rfl, h2, g2⟩
  obtain ⟨x1a, x1b⟩ := x1
  simp only [BuV]
  have z2 := g2.size
  have t2 := t1.trans (g2.below (B := w.heap.size) (by omega) (by omega))
  have b0_2 := b0_1.far g2 (.inl (by omega))
  have b1_2 := b1_1.far g2 (.inl (by omega))
  clear b0_1 b1_1 g2 h1
  have c00 := b0_2.cell 0
  have f00 := b0_2.free 0
  have c01 := b0_2.cell 1
  have f01 := b0_2.free 1
  have c10 := b1_2.cell 0
  have f10 := b1_2.free 0
  have c11 := b1_2.cell 1
  have f11 := b1_2.free 1
  simp at c00 c01 c10 c11
  go_wp2_with fail
  have gz : Wr w.heap.size (w.heap.size + 2) w2 ((((w2.setCell ⟨w.heap.size, 0, none⟩ (.int .i64 x0a)).setCell ⟨w.heap.size, 1, none⟩ (.int .i64 x0b)).setCell ⟨w.heap.size + 1, 0, none⟩ (.int .i64 x1a)).setCell ⟨w.heap.size + 1, 1, none⟩ (.int .i64 x1b)) := (((((Wr.refl w.heap.size (w.heap.size + 2) w2).setCell (p := ⟨w.heap.size, 0, none⟩) (by simp) (by simp) (.int .i64 x0a)).setCell (p := ⟨w.heap.size, 1, none⟩) (by simp) (by simp) (.int .i64 x0b)).setCell (p := ⟨w.heap.size + 1, 0, none⟩) (by simp) (by simp) (.int .i64 x1a)).setCell (p := ⟨w.heap.size + 1, 1, none⟩) (by simp) (by simp) (.int .i64 x1b))
  refine bodyPost_ret (v := .tuple #[SvV ⟨x0a, x0b⟩, BuV ⟨x1a, x1b⟩]) (by simp [results, Try.results16, go_sem, BuV, SvV, c00, c01, c10, c11]) rfl ⟨⟨x0a, x0b⟩, ⟨x1a, x1b⟩, rfl, t2.trans (gz.below (Nat.le_refl _) (by omega))⟩
def RetDrawInRow (w : World) (e : Ending) (w' : World) : Prop := ∃ (x0 : Sv) (x1 : Sv), e = .returned (.tuple #[SvV x0, SvV x1]) ∧ Below w.heap.size w w'
set_option maxHeartbeats 2000000 in
theorem drawInRow_any (v : Value) (n : Nat) (w : World) (h : RB w w.heap.size v n) (hn : n ≤ 1048576) :
    Calls Try.prog 27 #[v] w (RetDrawInRow w) := by
  have b0_0 := BK.made w 25 #[.int .i64 0, .int .i64 0]
  have b1_0 := BK.made (w.alloc (.cells #[.int .i64 0, .int .i64 0] 25)) 25 #[.int .i64 0, .int .i64 0]
  rw [World.size_alloc] at b1_0
  have b0_0 := b0_0.alloc (.cells #[.int .i64 0, .int .i64 0] 25)
  have hA : Below w.heap.size w ((w.alloc (.cells #[.int .i64 0, .int .i64 0] 25)).alloc (.cells #[.int .i64 0, .int .i64 0] 25)) := ((Below.refl _ _).alloc (Nat.le_refl _) _).alloc (by simp) _
  have h0 := CurAt.made ((h.below hA).more hA.size)
  have eG : ((w.alloc (.cells #[.int .i64 0, .int .i64 0] 25)).alloc (.cells #[.int .i64 0, .int .i64 0] 25)).heap.size = w.heap.size + 1 + 1 := by simp
  rw [eG] at h0
  clear eG
  obtain ⟨A, c, rfl, hlc, hc⟩ := h
  clear hc
  have b0_0 := b0_0.alloc (.cells #[.slice A n c, .int .i64 0, .int .u64 0] 68)
  have b1_0 := b1_0.alloc (.cells #[.slice A n c, .int .i64 0, .int .u64 0] 68)
  have t0 : Below w.heap.size w (((w.alloc (.cells #[.int .i64 0, .int .i64 0] 25)).alloc (.cells #[.int .i64 0, .int .i64 0] 25)).alloc (.cells #[.slice A n c, .int .i64 0, .int .u64 0] 68)) := hA.alloc hA.size _
  have z0 : w.heap.size + 3 ≤ (((w.alloc (.cells #[.int .i64 0, .int .i64 0] 25)).alloc (.cells #[.int .i64 0, .int .i64 0] 25)).alloc (.cells #[.slice A n c, .int .i64 0, .int .u64 0] 68)).heap.size := by simp
  clear hA
  go_enter Try.func27, Try.ntmps27
  go_wp2_with fail
  refine (curSv_any (w.heap.size + 1 + 1) _ n _ _ h0 (by omega) hn).mono ?_; rintro e w1 ⟨x0, rfl, h1, g1⟩
  obtain ⟨x0a, x0b⟩ := x0
  simp only [SvV]
  have z1 := g1.size
  have t1 := t0.trans (g1.below (B := w.heap.size) (by omega) (by omega))
  have b0_1 := b0_0.far g1 (.inl (by omega))
  have b1_1 := b1_0.far g1 (.inl (by omega))
  clear b0_0 b1_0 g1 h0
  go_wp2_with fail
  refine (curSv_any (w.heap.size + 1 + 1) _ n _ _ h1 (by omega) hn).mono ?_; rintro e w2 ⟨x1, rfl, h2, g2⟩
  obtain ⟨x1a, x1b⟩ := x1
  simp only [SvV]
  have z2 := g2.size
  have t2 := t1.trans (g2.below (B := w.heap.size) (by omega) (by omega))
  have b0_2 := b0_1.far g2 (.inl (by omega))
  have b1_2 := b1_1.far g2 (.inl (by omega))
  clear b0_1 b1_1 g2 h1
  have c00 := b0_2.cell 0
  have f00 := b0_2.free 0
  have c01 := b0_2.cell 1
  have f01 := b0_2.free 1
  have c10 := b1_2.cell 0
  have f10 := b1_2.free 0
  have c11 := b1_2.cell 1
  have f11 := b1_2.free 1
  simp at c00 c01 c10 c11
  go_wp2_with fail
  have gz : Wr w.heap.size (w.heap.size + 2) w2 ((((w2.setCell ⟨w.heap.size, 0, none⟩ (.int .i64 x0a)).setCell ⟨w.heap.size, 1, none⟩ (.int .i64 x0b)).setCell ⟨w.heap.size + 1, 0, none⟩ (.int .i64 x1a)).setCell ⟨w.heap.size + 1, 1, none⟩ (.int .i64 x1b)) := (((((Wr.refl w.heap.size (w.heap.size + 2) w2).setCell (p := ⟨w.heap.size, 0, none⟩) (by simp) (by simp) (.int .i64 x0a)).setCell (p := ⟨w.heap.size, 1, none⟩) (by simp) (by simp) (.int .i64 x0b)).setCell (p := ⟨w.heap.size + 1, 0, none⟩) (by simp) (by simp) (.int .i64 x1a)).setCell (p := ⟨w.heap.size + 1, 1, none⟩) (by simp) (by simp) (.int .i64 x1b))
  refine bodyPost_ret (v := .tuple #[SvV ⟨x0a, x0b⟩, SvV ⟨x1a, x1b⟩]) (by simp [results, Try.results27, go_sem, SvV, c00, c01, c10, c11]) rfl ⟨⟨x0a, x0b⟩, ⟨x1a, x1b⟩, rfl, t2.trans (gz.below (Nat.le_refl _) (by omega))⟩
def RetDrawWorstTraffic (w : World) (e : Ending) (w' : World) : Prop := ∃ (x0 : Bu) (y1 : Int), e = .returned (.tuple #[BuV x0, .int .i64 y1]) ∧ (-1000 ≤ y1 ∧ y1 ≤ 1000) ∧ Below w.heap.size w w'
set_option maxHeartbeats 2000000 in
theorem drawWorstTraffic_any (v : Value) (n : Nat) (w : World) (h : RB w w.heap.size v n) (hn : n ≤ 1048576) :
    Calls Try.prog 30 #[v] w (RetDrawWorstTraffic w) := by
  have b0_0 := BK.made w 36 #[.int .i64 0, .int .i64 0]
  have hA : Below w.heap.size w (w.alloc (.cells #[.int .i64 0, .int .i64 0] 36)) := (Below.refl _ _).alloc (Nat.le_refl _) _
  have h0 := CurAt.made ((h.below hA).more hA.size)
  have eG : (w.alloc (.cells #[.int .i64 0, .int .i64 0] 36)).heap.size = w.heap.size + 1 := by simp
  rw [eG] at h0
  clear eG
  obtain ⟨A, c, rfl, hlc, hc⟩ := h
  clear hc
  have b0_0 := b0_0.alloc (.cells #[.slice A n c, .int .i64 0, .int .u64 0] 68)
  have t0 : Below w.heap.size w ((w.alloc (.cells #[.int .i64 0, .int .i64 0] 36)).alloc (.cells #[.slice A n c, .int .i64 0, .int .u64 0] 68)) := hA.alloc hA.size _
  have z0 : w.heap.size + 2 ≤ ((w.alloc (.cells #[.int .i64 0, .int .i64 0] 36)).alloc (.cells #[.slice A n c, .int .i64 0, .int .u64 0] 68)).heap.size := by simp
  clear hA
  go_enter Try.func30, Try.ntmps30
  go_wp2_with fail
  refine (one_any (w.heap.size + 1) _ n _ 10 _ h0 (by omega) hn (by omega) (by omega)).mono ?_; rintro e w1 ⟨bb, rfl, h1, g1⟩
  have z1 := g1.size
  have t1 := t0.trans (g1.below (B := w.heap.size) (by omega) (by omega))
  have b0_1 := b0_0.far g1 (.inl (by omega))
  clear b0_0 g1 h0
  cases bb
  · go_wp2_with fail
    refine (curBu_any (w.heap.size + 1) _ n _ _ h1 (by omega) hn).mono ?_; rintro e w2 ⟨x0, rfl, h2, g2⟩
    obtain ⟨x0a, x0b⟩ := x0
    simp only [BuV]
    have z2 := g2.size
    have t2 := t1.trans (g2.below (B := w.heap.size) (by omega) (by omega))
    have b0_2 := b0_1.far g2 (.inl (by omega))
    clear b0_1 g2 h1
    go_wp2_with fail
    refine (pick_any (w.heap.size + 1) _ n _ 15 _ h2 (by omega) hn (by omega) (by omega)).mono ?_; rintro e w3 ⟨y1, rfl, ya1, yb1, h3, g3⟩
    have z3 := g3.size
    have t3 := t2.trans (g3.below (B := w.heap.size) (by omega) (by omega))
    have b0_3 := b0_2.far g3 (.inl (by omega))
    clear b0_2 g3 h2
    have c00 := b0_3.cell 0
    have f00 := b0_3.free 0
    have c01 := b0_3.cell 1
    have f01 := b0_3.free 1
    simp at c00 c01
    go_wp2_with fail
    have gz : Wr w.heap.size (w.heap.size + 1) w3 ((w3.setCell ⟨w.heap.size, 0, none⟩ (.int .i64 x0a)).setCell ⟨w.heap.size, 1, none⟩ (.int .i64 x0b)) := (((Wr.refl w.heap.size (w.heap.size + 1) w3).setCell (p := ⟨w.heap.size, 0, none⟩) (by simp) (by simp) (.int .i64 x0a)).setCell (p := ⟨w.heap.size, 1, none⟩) (by simp) (by simp) (.int .i64 x0b))
    refine bodyPost_ret (v := .tuple #[BuV ⟨x0a, x0b⟩, .int .i64 y1]) (by simp [results, Try.results30, go_sem, BuV, c00, c01]) rfl ⟨⟨x0a, x0b⟩, y1, rfl, ⟨by omega, by omega⟩, t3.trans (gz.below (Nat.le_refl _) (by omega))⟩
  · go_wp2_with fail
    refine (curBu_any (w.heap.size + 1) _ n _ _ h1 (by omega) hn).mono ?_; rintro e w2 ⟨x0, rfl, h2, g2⟩
    obtain ⟨x0a, x0b⟩ := x0
    simp only [BuV]
    have z2 := g2.size
    have t2 := t1.trans (g2.below (B := w.heap.size) (by omega) (by omega))
    have b0_2 := b0_1.far g2 (.inl (by omega))
    clear b0_1 g2 h1
    go_wp2_with fail
    refine (among_any (w.heap.size + 1) _ n _ _ [-1, 0, 40, 41] _ (h2.below ((Below.refl _ _).alloc (Nat.le_refl _) _) (by omega)) (by omega) hn _ _ (litN [-1, 0, 40, 41] 4 _ rfl (by omega) rfl (by simp)) (by omega) (by simp) (by simp)).mono ?_; rintro e w3 ⟨j1, hj1, rfl, h3, g3⟩
    have gg3 := (Wr.of_below ((Below.refl _ _).alloc (Nat.le_refl _) _) (w.heap.size + 1) (w.heap.size + 1 + 1)).trans g3
    have yy1 : -1000 ≤ List.getD ([-1, 0, 40, 41] : List Int) j1 0 ∧ List.getD ([-1, 0, 40, 41] : List Int) j1 0 ≤ 1000 := by
      match j1, hj1 with
      | 0, _ => decide
      | 1, _ => decide
      | 2, _ => decide
      | 3, _ => decide
    generalize List.getD ([-1, 0, 40, 41] : List Int) j1 0 = y1 at yy1
    have z3 := gg3.size
    have t3 := t2.trans (gg3.below (B := w.heap.size) (by omega) (by omega))
    have b0_3 := b0_2.far gg3 (.inl (by omega))
    clear b0_2 gg3 g3 h2
    have c00 := b0_3.cell 0
    have f00 := b0_3.free 0
    have c01 := b0_3.cell 1
    have f01 := b0_3.free 1
    simp at c00 c01
    go_wp2_with fail
    have gz : Wr w.heap.size (w.heap.size + 1) w3 ((w3.setCell ⟨w.heap.size, 0, none⟩ (.int .i64 x0a)).setCell ⟨w.heap.size, 1, none⟩ (.int .i64 x0b)) := (((Wr.refl w.heap.size (w.heap.size + 1) w3).setCell (p := ⟨w.heap.size, 0, none⟩) (by simp) (by simp) (.int .i64 x0a)).setCell (p := ⟨w.heap.size, 1, none⟩) (by simp) (by simp) (.int .i64 x0b))
    refine bodyPost_ret (v := .tuple #[BuV ⟨x0a, x0b⟩, .int .i64 y1]) (by simp [results, Try.results30, go_sem, BuV, c00, c01]) rfl ⟨⟨x0a, x0b⟩, y1, rfl, yy1, t3.trans (gz.below (Nat.le_refl _) (by omega))⟩
def RetDrawShapeOf (w : World) (e : Ending) (w' : World) : Prop := ∃ (x0 : Bu) (u1 : Value) (l1 : List Int), e = .returned (.tuple #[BuV x0, u1]) ∧ l1.length ≤ 41 ∧ OI 3 w' w.heap.size w'.heap.size u1 l1 ∧ Below w.heap.size w w'
set_option maxHeartbeats 2000000 in
theorem drawShapeOf_any (v : Value) (n : Nat) (w : World) (h : RB w w.heap.size v n) (hn : n ≤ 1048576) :
    Calls Try.prog 49 #[v] w (RetDrawShapeOf w) := by
  have b0_0 := BK.made w 36 #[.int .i64 0, .int .i64 0]
  have hA : Below w.heap.size w (w.alloc (.cells #[.int .i64 0, .int .i64 0] 36)) := (Below.refl _ _).alloc (Nat.le_refl _) _
  have h0 := CurAt.made ((h.below hA).more hA.size)
  have eG : (w.alloc (.cells #[.int .i64 0, .int .i64 0] 36)).heap.size = w.heap.size + 1 := by simp
  rw [eG] at h0
  clear eG
  obtain ⟨A, c, rfl, hlc, hc⟩ := h
  clear hc
  have b0_0 := b0_0.alloc (.cells #[.slice A n c, .int .i64 0, .int .u64 0] 68)
  have t0 : Below w.heap.size w ((w.alloc (.cells #[.int .i64 0, .int .i64 0] 36)).alloc (.cells #[.slice A n c, .int .i64 0, .int .u64 0] 68)) := hA.alloc hA.size _
  have z0 : w.heap.size + 2 ≤ ((w.alloc (.cells #[.int .i64 0, .int .i64 0] 36)).alloc (.cells #[.slice A n c, .int .i64 0, .int .u64 0] 68)).heap.size := by simp
  clear hA
  go_enter Try.func49, Try.ntmps49
  go_wp2_with fail
  refine (curBu_any (w.heap.size + 1) _ n _ _ h0 (by omega) hn).mono ?_; rintro e w1 ⟨x0, rfl, h1, g1⟩
  obtain ⟨x0a, x0b⟩ := x0
  simp only [BuV]
  have z1 := g1.size
  have t1 := t0.trans (g1.below (B := w.heap.size) (by omega) (by omega))
  have b0_1 := b0_0.far g1 (.inl (by omega))
  clear b0_0 g1 h0
  go_wp2_with fail
  refine (curTr_any (w.heap.size + 1) _ n _ _ h1 (by omega) hn).mono ?_; rintro e w2 ⟨u1, l1, rfl, hl1, o1, h2, g2⟩
  have z2 := g2.size
  have t2 := t1.trans (g2.below (B := w.heap.size) (by omega) (by omega))
  have b0_2 := b0_1.far g2 (.inl (by omega))
  clear b0_1 g2 h1
  have c00 := b0_2.cell 0
  have f00 := b0_2.free 0
  have c01 := b0_2.cell 1
  have f01 := b0_2.free 1
  simp at c00 c01
  go_wp2_with fail
  have gz : Wr w.heap.size (w.heap.size + 1) w2 ((w2.setCell ⟨w.heap.size, 0, none⟩ (.int .i64 x0a)).setCell ⟨w.heap.size, 1, none⟩ (.int .i64 x0b)) := (((Wr.refl w.heap.size (w.heap.size + 1) w2).setCell (p := ⟨w.heap.size, 0, none⟩) (by simp) (by simp) (.int .i64 x0a)).setCell (p := ⟨w.heap.size, 1, none⟩) (by simp) (by simp) (.int .i64 x0b))
  refine bodyPost_ret (v := .tuple #[BuV ⟨x0a, x0b⟩, u1]) (by simp [results, Try.results49, go_sem, BuV, c00, c01]) rfl ⟨⟨x0a, x0b⟩, u1, l1, rfl, hl1, (o1.far gz (by omega)).wide (by omega) (by simp), t2.trans (gz.below (Nat.le_refl _) (by omega))⟩
end Go.Proofs.Ytlanpfcjcafapaa
