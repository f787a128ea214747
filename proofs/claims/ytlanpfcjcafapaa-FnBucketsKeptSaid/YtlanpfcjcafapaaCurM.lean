/-
  The draw of two buckets and traffic.
-/
import Derived.Test.YtlanpfcjcafapaaCurL
namespace Go.Proofs.Ytlanpfcjcafapaa
open Go.RowKit
set_option maxRecDepth 100000
set_option linter.unusedVariables false
def RetKept2 (w : World) (e : Ending) (w' : World) : Prop := ∃ (x y : Bu) (u : Value) (l : List Int), e = .returned (.tuple #[BuV x, BuV y, u]) ∧ l.length ≤ 100 ∧ OI 3 w' w.heap.size w'.heap.size u l ∧ Below w.heap.size w w'
set_option maxHeartbeats 4000000 in
theorem drawKeepsBoth_any (v : Value) (n : Nat) (w : World) (h : RB w w.heap.size v n) (hn : n ≤ 1048576) : Calls Try.prog 46 #[v] w (RetKept2 w) := by
  have bA := (BK.made w 36 #[.int .i64 0, .int .i64 0]).alloc (.cells #[.int .i64 0, .int .i64 0] 36)
  have bB := BK.made (w.alloc (.cells #[.int .i64 0, .int .i64 0] 36)) 36 #[.int .i64 0, .int .i64 0]
  rw [World.size_alloc] at bB
  have hA : Below w.heap.size w ((w.alloc (.cells #[.int .i64 0, .int .i64 0] 36)).alloc (.cells #[.int .i64 0, .int .i64 0] 36)) := ((Below.refl _ _).alloc (Nat.le_refl _) _).alloc (by simp) _
  have h0 := CurAt.made ((h.below hA).more hA.size)
  have eG : ((w.alloc (.cells #[.int .i64 0, .int .i64 0] 36)).alloc (.cells #[.int .i64 0, .int .i64 0] 36)).heap.size = w.heap.size + 1 + 1 := by simp
  rw [eG] at h0
  clear eG
  obtain ⟨A, c, rfl, hlc, hc⟩ := h
  clear hc
  have bA1 := bA.alloc (.cells #[.slice A n c, .int .i64 0, .int .u64 0] 68)
  have bB1 := bB.alloc (.cells #[.slice A n c, .int .i64 0, .int .u64 0] 68)
  have t0 : Below w.heap.size w (((w.alloc (.cells #[.int .i64 0, .int .i64 0] 36)).alloc (.cells #[.int .i64 0, .int .i64 0] 36)).alloc (.cells #[.slice A n c, .int .i64 0, .int .u64 0] 68)) := hA.alloc hA.size _
  have z0 : w.heap.size + 3 ≤ (((w.alloc (.cells #[.int .i64 0, .int .i64 0] 36)).alloc (.cells #[.int .i64 0, .int .i64 0] 36)).alloc (.cells #[.slice A n c, .int .i64 0, .int .u64 0] 68)).heap.size := by simp
  clear hA bA bB
  go_enter Try.func46, Try.ntmps46
  go_wp2_with fail
  refine (kept_any (w.heap.size + 1 + 1) _ n _ _ h0 (by omega) hn).mono ?_; rintro e w1 ⟨x, u, l, rfl, hl, o1, h1, g1⟩
  obtain ⟨xr, xd⟩ := x
  simp only [BuV]
  have z1 := g1.size
  have t1 := t0.trans (g1.below (B := w.heap.size) (by omega) (by omega))
  have bA2 := bA1.far g1 (.inl (by omega))
  have bB2 := bB1.far g1 (.inl (by omega))
  have hal : Below w1.heap.size w1 (w1.alloc (.cells #[.int .i64 xr, .int .i64 xd] 36)) := (Below.refl _ _).alloc (Nat.le_refl _) _
  have bG := BK.made w1 36 #[.int .i64 xr, .int .i64 xd]
  have bA3 := bA2.step hal
  have bB3 := bB2.step hal
  have h3 := h1.below hal h1.lt
  have o3 := o1.step hal
  have t3 := t1.trans (hal.mono t1.size)
  have z3 : w1.heap.size + 1 ≤ (w1.alloc (.cells #[.int .i64 xr, .int .i64 xd] 36)).heap.size := by simp
  clear bA1 bB1 bA2 bB2 g1 h0 t0 h1 o1 t1 hal
  go_upto_region 3 with fail
  have G6 : BK ((w1.alloc (.cells #[.int .i64 xr, .int .i64 xd] 36)).drewN 1) _ _ _ := bG
  have A6 : BK ((w1.alloc (.cells #[.int .i64 xr, .int .i64 xd] 36)).drewN 1) _ _ _ := bA3
  have B6 : BK ((w1.alloc (.cells #[.int .i64 xr, .int .i64 xd] 36)).drewN 1) _ _ _ := bB3
  have C6 : CurAt ((w1.alloc (.cells #[.int .i64 xr, .int .i64 xd] 36)).drewN 1) (w.heap.size + 1 + 1) (w.heap.size + 1 + 1) n _ := h3
  have O6 : OI 3 ((w1.alloc (.cells #[.int .i64 xr, .int .i64 xd] 36)).drewN 1) _ w1.heap.size u l := o3
  have T6 := below_drewN t3 1
  have k0 := G6.cell 0
  have k1 := G6.cell 1
  simp at k0 k1
  have Z6 : w1.heap.size + 1 ≤ ((w1.alloc (.cells #[.int .i64 xr, .int .i64 xd] 36)).drewN 1).heap.size := z3
  go_region_with (go_at_call 72; refine (curBu_any (w.heap.size + 1 + 1) _ n _ _ C6 (by omega) hn).mono ?_; rintro e w7 ⟨y, rfl, h7, g7⟩; obtain ⟨yr, yd⟩ := y; simp only [BuV]; have G7 := G6.far g7 (.inr (by omega)); have A7 := A6.far g7 (.inl (by omega)); have B7 := B6.far g7 (.inl (by omega)); have O7 := O6.far g7 (.inr (by omega)); have T7 := T6.trans (g7.below (B := w.heap.size) (by omega) (by omega)); have Z7 := g7.size; have m0 := G7.cell 0; have m1 := G7.cell 1; have a0 := A7.cell 0; have a1 := A7.cell 1; have a2 := A7.free 0; have a3 := A7.free 1; have b0 := B7.cell 0; have b1 := B7.cell 1; have b2 := B7.free 0; have b3 := B7.free 1; simp at m0 m1 a0 a1 b0 b1)
  all_goals
    go_wp2_with fail
    have gz : Wr w.heap.size (w.heap.size + 2) w7 ((((w7.setCell ⟨w.heap.size, 0, none⟩ (.int .i64 yr)).setCell ⟨w.heap.size, 1, none⟩ (.int .i64 yd)).setCell ⟨w.heap.size + 1, 0, none⟩ (.int .i64 xr)).setCell ⟨w.heap.size + 1, 1, none⟩ (.int .i64 xd)) := (((((Wr.refl w.heap.size (w.heap.size + 2) w7).setCell (p := ⟨w.heap.size, 0, none⟩) (by simp) (by simp) (.int .i64 yr)).setCell (p := ⟨w.heap.size, 1, none⟩) (by simp) (by simp) (.int .i64 yd)).setCell (p := ⟨w.heap.size + 1, 0, none⟩) (by simp) (by simp) (.int .i64 xr)).setCell (p := ⟨w.heap.size + 1, 1, none⟩) (by simp) (by simp) (.int .i64 xd))
    refine bodyPost_ret (v := .tuple #[BuV ⟨yr, yd⟩, BuV ⟨xr, xd⟩, u]) (by simp [results, Try.results46, go_sem, Act.put, BuV, a0, a1, b0, b1]) (by simp [Act.put]) ⟨⟨yr, yd⟩, ⟨xr, xd⟩, u, l, rfl, hl, (O7.far gz (.inr (by omega))).wide (by omega) (Nat.le_trans (by omega) gz.size), T7.trans (gz.below (Nat.le_refl _) (by omega))⟩
end Go.Proofs.Ytlanpfcjcafapaa
