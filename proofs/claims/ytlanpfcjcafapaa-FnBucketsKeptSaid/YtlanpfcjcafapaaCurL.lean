/-
  The draws of FnBucketsKept: rates and depths with traffic, buckets with traffic that keeps them.
-/
import Derived.Test.YtlanpfcjcafapaaCurK
import Derived.Deep.RegionWith
import Derived.Deep.DeepCutAuto
namespace Go.Proofs.Ytlanpfcjcafapaa
open Go.RowKit
set_option maxRecDepth 100000
set_option linter.unusedVariables false
theorem drawLeastRate_any (v : Value) (n : Nat) (w : World) (h : RB w w.heap.size v n) (hn : n ≤ 1048576) : Calls Try.prog 43 #[v] w (RetNTr w) := by
  have h0 := CurAt.made h
  obtain ⟨A, c, rfl, hlc, hc⟩ := h
  clear hc
  have t0 : Below w.heap.size w (w.alloc (.cells #[.slice A n c, .int .i64 0, .int .u64 0] 68)) := (Below.refl _ _).alloc (Nat.le_refl _) _
  have z0 : w.heap.size + 1 ≤ (w.alloc (.cells #[.slice A n c, .int .i64 0, .int .u64 0] 68)).heap.size := by simp
  go_enter Try.func43, Try.ntmps43
  go_wp2_with fail
  refine (one_any (w.heap.size) _ n _ 10 _ h0 (by omega) hn (by omega) (by omega)).mono ?_; rintro e w1 ⟨bb, rfl, h1, g1⟩
  have z1 := g1.size
  have t1 := t0.trans (g1.below (B := w.heap.size) (by omega) (by omega))
  clear g1 h0 t0
  cases bb
  · go_wp2_with fail
    refine (pick_any (w.heap.size) _ n _ 30 _ h1 (by omega) hn (by omega) (by omega)).mono ?_; rintro e w2 ⟨y, rfl, y0, y1, h2, g2⟩
    have z2 := g2.size
    have t2 := t1.trans (g2.below (B := w.heap.size) (by omega) (by omega))
    go_wp2_with fail
    refine (curTr_any (w.heap.size) _ n _ _ h2 (by omega) hn).mono ?_; rintro e w3 ⟨u, l, rfl, hl, o, h3, g3⟩
    have t3 := t2.trans (g3.below (B := w.heap.size) (by omega) (by omega))
    go_wp2_with fail
    go_ret2
    exact ⟨_, u, l, rfl, ⟨by omega, by omega⟩, hl, o.wide (by omega) (Nat.le_refl _), t3⟩
  · go_wp2_with fail
    refine (among_any (w.heap.size) _ n _ _ [0, 1000, 1001] _ (h1.below ((Below.refl _ _).alloc (Nat.le_refl _) _) (by omega)) (by omega) hn _ _ (litN [0, 1000, 1001] 3 _ rfl (by omega) rfl (by simp)) (by omega) (by simp) (by simp)).mono ?_; rintro e w2 ⟨j, hj, rfl, h2, g2'⟩
    have g2 := (Wr.of_below ((Below.refl _ _).alloc (Nat.le_refl _) _) (w.heap.size) (w.heap.size + 1)).trans g2'
    have yy : -1000 ≤ List.getD ([0, 1000, 1001] : List Int) j 0 ∧ List.getD ([0, 1000, 1001] : List Int) j 0 ≤ 2000 := by
      match j, hj with
      | 0, _ => decide
      | 1, _ => decide
      | 2, _ => decide
    generalize List.getD ([0, 1000, 1001] : List Int) j 0 = y at yy
    have z2 := g2.size
    have t2 := t1.trans (g2.below (B := w.heap.size) (by omega) (by omega))
    go_wp2_with fail
    refine (curTr_any (w.heap.size) _ n _ _ h2 (by omega) hn).mono ?_; rintro e w3 ⟨u, l, rfl, hl, o, h3, g3⟩
    have t3 := t2.trans (g3.below (B := w.heap.size) (by omega) (by omega))
    go_wp2_with fail
    go_ret2
    exact ⟨_, u, l, rfl, yy, hl, o.wide (by omega) (Nat.le_refl _), t3⟩

theorem drawLeastDepth_any (v : Value) (n : Nat) (w : World) (h : RB w w.heap.size v n) (hn : n ≤ 1048576) : Calls Try.prog 40 #[v] w (RetNTr w) := by
  have HA := Lib.hid (drawLeakOf_any v n w h hn)
  obtain ⟨A, c, rfl, hlc, hc⟩ := h
  clear hc
  go_enter Try.func40, Try.ntmps40
  go_wp2_with fail
  refine HA.out.mono ?_; rintro e w1 ⟨y, u, l, rfl, hy, hl, ho, hb⟩
  go_wp2_with fail
  go_ret2
  exact ⟨y, u, l, rfl, hy, hl, ho, hb⟩
def RetKept (w : World) (e : Ending) (w' : World) : Prop := ∃ (x : Bu) (u : Value) (l : List Int), e = .returned (.tuple #[BuV x, u]) ∧ l.length ≤ 100 ∧ OI 3 w' w.heap.size w'.heap.size u l ∧ Below w.heap.size w w'
set_option maxHeartbeats 2000000 in
theorem drawLevelsOf_any (v : Value) (n : Nat) (w : World) (h : RB w w.heap.size v n) (hn : n ≤ 1048576) : Calls Try.prog 33 #[v] w (RetKept w) := by
  have b0 := BK.made w 36 #[.int .i64 0, .int .i64 0]
  have hA : Below w.heap.size w (w.alloc (.cells #[.int .i64 0, .int .i64 0] 36)) := (Below.refl _ _).alloc (Nat.le_refl _) _
  have h0 := CurAt.made ((h.below hA).more hA.size)
  have eG : (w.alloc (.cells #[.int .i64 0, .int .i64 0] 36)).heap.size = w.heap.size + 1 := by simp
  rw [eG] at h0
  clear eG
  obtain ⟨A, c, rfl, hlc, hc⟩ := h
  clear hc
  have b1 := b0.alloc (.cells #[.slice A n c, .int .i64 0, .int .u64 0] 68)
  have t0 : Below w.heap.size w ((w.alloc (.cells #[.int .i64 0, .int .i64 0] 36)).alloc (.cells #[.slice A n c, .int .i64 0, .int .u64 0] 68)) := hA.alloc hA.size _
  have z0 : w.heap.size + 2 ≤ ((w.alloc (.cells #[.int .i64 0, .int .i64 0] 36)).alloc (.cells #[.slice A n c, .int .i64 0, .int .u64 0] 68)).heap.size := by simp
  clear hA b0
  go_enter Try.func33, Try.ntmps33
  go_wp2_with fail
  refine (kept_any (w.heap.size + 1) _ n _ _ h0 (by omega) hn).mono ?_; rintro e w1 ⟨x, u, l, rfl, hl, o1, h1, g1⟩
  obtain ⟨xr, xd⟩ := x
  simp only [BuV]
  have z1 := g1.size
  have t1 := t0.trans (g1.below (B := w.heap.size) (by omega) (by omega))
  have b2 := b1.far g1 (.inl (by omega))
  have c0 := b2.cell 0
  have c1 := b2.cell 1
  have f0 := b2.free 0
  have f1 := b2.free 1
  simp at c0 c1
  clear b1 g1 h0 t0
  go_wp2_with fail
  have gz : Wr w.heap.size (w.heap.size + 1) w1 ((w1.setCell ⟨w.heap.size, 0, none⟩ (.int .i64 xr)).setCell ⟨w.heap.size, 1, none⟩ (.int .i64 xd)) := ((Wr.refl _ _ _).setCell (p := ⟨w.heap.size, 0, none⟩) (Nat.le_refl _) (Nat.lt_succ_self _) _).setCell (p := ⟨w.heap.size, 1, none⟩) (Nat.le_refl _) (Nat.lt_succ_self _) _
  refine bodyPost_ret (v := .tuple #[BuV ⟨xr, xd⟩, u]) (by simp [results, Try.results33, go_sem, BuV, c0, c1]) rfl ⟨⟨xr, xd⟩, u, l, rfl, hl, (o1.far gz (.inr (by omega))).wide (by omega) gz.size, t1.trans (gz.below (Nat.le_refl _) (by omega))⟩
end Go.Proofs.Ytlanpfcjcafapaa
