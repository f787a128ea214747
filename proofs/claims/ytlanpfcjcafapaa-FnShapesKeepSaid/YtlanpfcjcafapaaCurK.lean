/-
  Buckets with traffic that keeps them, rates and depths with traffic, as the laws' inputs are drawn.
-/
import Derived.Test.YtlanpfcjcafapaaCurT
import Derived.Test.YtlanpfcjcafapaaShM
import Derived.Test.YtlanpfcjcafapaaShA
namespace Go.Proofs.Ytlanpfcjcafapaa
open Go.RowKit
set_option maxRecDepth 100000
set_option linter.unusedVariables false

def RetNTr (w : World) (e : Ending) (w' : World) : Prop := ∃ (y : Int) (u : Value) (l : List Int), e = .returned (.tuple #[.int .i64 y, u]) ∧ (-1000 ≤ y ∧ y ≤ 2000) ∧ l.length ≤ 41 ∧ OI 3 w' w.heap.size w'.heap.size u l ∧ Below w.heap.size w w'
theorem drawLeakOf_any (v : Value) (n : Nat) (w : World) (h : RB w w.heap.size v n) (hn : n ≤ 1048576) : Calls Try.prog 56 #[v] w (RetNTr w) := by
  have h0 := CurAt.made h
  obtain ⟨A, c, rfl, hlc, hc⟩ := h
  clear hc
  have t0 : Below w.heap.size w (w.alloc (.cells #[.slice A n c, .int .i64 0, .int .u64 0] 68)) := (Below.refl _ _).alloc (Nat.le_refl _) _
  have z0 : w.heap.size + 1 ≤ (w.alloc (.cells #[.slice A n c, .int .i64 0, .int .u64 0] 68)).heap.size := by simp
  go_enter Try.func56, Try.ntmps56
  go_wp2_with fail
  refine (one_any (w.heap.size) _ n _ 10 _ h0 (by omega) hn (by omega) (by omega)).mono ?_; rintro e w1 ⟨bb, rfl, h1, g1⟩
  have z1 := g1.size
  have t1 := t0.trans (g1.below (B := w.heap.size) (by omega) (by omega))
  clear g1 h0 t0
  cases bb
  · go_wp2_with fail
    refine (pick_any (w.heap.size) _ n _ 8 _ h1 (by omega) hn (by omega) (by omega)).mono ?_; rintro e w2 ⟨y, rfl, y0, y1, h2, g2⟩
    have z2 := g2.size
    have t2 := t1.trans (g2.below (B := w.heap.size) (by omega) (by omega))
    go_wp2_with fail
    refine (curTr_any (w.heap.size) _ n _ _ h2 (by omega) hn).mono ?_; rintro e w3 ⟨u, l, rfl, hl, o, h3, g3⟩
    have t3 := t2.trans (g3.below (B := w.heap.size) (by omega) (by omega))
    go_wp2_with fail
    go_ret2
    exact ⟨_, u, l, rfl, ⟨by omega, by omega⟩, hl, o.wide (by omega) (Nat.le_refl _), t3⟩
  · go_wp2_with fail
    refine (among_any (w.heap.size) _ n _ _ [0, 100, 101] _ (h1.below ((Below.refl _ _).alloc (Nat.le_refl _) _) (by omega)) (by omega) hn _ _ (litN [0, 100, 101] 3 _ rfl (by omega) rfl (by simp)) (by omega) (by simp) (by simp)).mono ?_; rintro e w2 ⟨j, hj, rfl, h2, g2'⟩
    have g2 := (Wr.of_below ((Below.refl _ _).alloc (Nat.le_refl _) _) (w.heap.size) (w.heap.size + 1)).trans g2'
    have yy : -1000 ≤ List.getD ([0, 100, 101] : List Int) j 0 ∧ List.getD ([0, 100, 101] : List Int) j 0 ≤ 2000 := by
      match j, hj with
      | 0, _ => decide
      | 1, _ => decide
      | 2, _ => decide
    generalize List.getD ([0, 100, 101] : List Int) j 0 = y at yy
    have z2 := g2.size
    have t2 := t1.trans (g2.below (B := w.heap.size) (by omega) (by omega))
    go_wp2_with fail
    refine (curTr_any (w.heap.size) _ n _ _ h2 (by omega) hn).mono ?_; rintro e w3 ⟨u, l, rfl, hl, o, h3, g3⟩
    have t3 := t2.trans (g3.below (B := w.heap.size) (by omega) (by omega))
    go_wp2_with fail
    go_ret2
    exact ⟨_, u, l, rfl, yy, hl, o.wide (by omega) (Nat.le_refl _), t3⟩

def RetKeptC (g B n k : Nat) (w : World) (e : Ending) (w' : World) : Prop :=
  ∃ (x : Bu) (u : Value) (l : List Int), e = .returned (.tuple #[BuV x, u]) ∧ l.length ≤ 100 ∧ OI 3 w' w.heap.size w'.heap.size u l ∧ CurAt w' g B n k ∧ Wr g (g + 1) w w'
set_option maxHeartbeats 4000000 in
theorem kept_any (g B n k : Nat) (w : World) (h : CurAt w g B n k) (hk : k ≤ 10000000) (hn : n ≤ 1048576) :
    Calls Try.prog 86 #[.pointer (some ⟨g, 0, none⟩)] w (RetKeptC g B n (k + 200) w) := by
  have hgw := h.lt
  have hBg : B ≤ g := h.1
  have bR := BK.made w 36 #[.int .i64 0, .int .i64 0]
  have h0 := h.below ((Below.refl _ _).alloc (Nat.le_refl _) (.cells #[.int .i64 0, .int .i64 0] 36)) hgw
  have g0 : Wr g (g + 1) w (w.alloc (.cells #[.int .i64 0, .int .i64 0] 36)) := Wr.of_below ((Below.refl _ _).alloc (Nat.le_refl _) _) _ _
  go_enter Try.func86, Try.ntmps86
  go_wp2_with fail
  refine (curBu_any g B n _ _ h0 (by omega) hn).mono ?_; rintro e w1 ⟨x, rfl, h1, g1⟩
  obtain ⟨xr, xd⟩ := x
  simp only [BuV]
  have bR1 := bR.far g1 (.inr (by omega))
  have z1 := g1.size
  go_wp2_with fail
  refine (curTr_any g B n _ _ h1 (by omega) hn).mono ?_; rintro e w2 ⟨u, l, rfl, hl, o, h2, g2⟩
  have bR2 := bR1.far g2 (.inr (by omega))
  have z2 := g2.size
  have hsz : w.heap.size + 1 ≤ w1.heap.size := by have := g1.size; simpa using this
  have gW2 := (g0.trans g1).trans g2
  have hal : Below w2.heap.size w2 (w2.alloc (.cells #[.int .i64 xr, .int .i64 xd] 36)) := (Below.refl _ _).alloc (Nat.le_refl _) _
  have bG3 := BK.made w2 36 #[.int .i64 xr, .int .i64 xd]
  have bR3 := bR2.step hal
  have o3 := o.step hal
  have h3 := h2.below hal h2.lt
  have gW3 := gW2.and_below hal (by omega)
  have z3 : w2.heap.size + 1 ≤ (w2.alloc (.cells #[.int .i64 xr, .int .i64 xd] 36)).heap.size := by simp
  have hlow : w.heap.size < w1.heap.size := by omega
  clear bR h0 g0 bR1 h1 g1 bR2 h2 g2 gW2 o hal
  have r3 := o3.ri.more (show w2.heap.size ≤ (w2.alloc (.cells #[.int .i64 xr, .int .i64 xd] 36)).heap.size by omega)
  go_wp2_with fail
  refine (shAsk_any ⟨xr, xd⟩ u l _ r3 (by omega)).mono ?_; rintro e w4 ⟨rfl, hb4⟩
  have bG4 := bG3.step hb4
  have bR4 := bR3.step hb4
  have o4 := o3.step hb4
  have h4 := h3.below hb4 h3.lt
  have gW4 := gW3.and_below hb4 gW3.size
  have z4 := hb4.size
  clear bG3 bR3 o3 h3 gW3 r3 hb4
  have d0 := bG4.cell 0
  have d1 := bG4.cell 1
  simp at d0 d1
  cases hA : askOk ⟨xr, xd⟩ l
  · clear d0 d1
    have bR9 := bR4
    have bG9 := bG4
    have c0 := bR9.cell 0
    have c1 := bR9.cell 1
    have f0 := bR9.free 0
    have f1 := bR9.free 1
    have e0 := bG9.cell 0
    have e1 := bG9.cell 1
    simp at c0 c1 e0 e1
    have HO9 := Lib.hid o4
    have HC9 := Lib.hid h4
    have HW9 := Lib.hid gW4
    have HS9 : Hid (w.heap.size + 1 ≤ w4.heap.size) := by show _ ≤ _; omega
    go_wp2_with fail
    have gz : Wr w.heap.size (w.heap.size + 1) w4 ((w4.setCell ⟨w.heap.size, 0, none⟩ (.int .i64 xr)).setCell ⟨w.heap.size, 1, none⟩ (.int .i64 xd)) := ((Wr.refl _ _ _).setCell (p := ⟨w.heap.size, 0, none⟩) (Nat.le_refl _) (Nat.lt_succ_self _) _).setCell (p := ⟨w.heap.size, 1, none⟩) (Nat.le_refl _) (Nat.lt_succ_self _) _
    refine bodyPost_ret (v := .tuple #[BuV ⟨xr, xd⟩, u]) (by simp [results, Try.results86, go_sem, BuV, c0, c1]) rfl ⟨⟨xr, xd⟩, _, _, rfl, by omega, (HO9.out.far gz (.inr (by omega))).wide (by omega) (Nat.le_trans (by omega) gz.size), (HC9.out.far gz (.inl hgw) (by have := hBg; omega)).more (by omega), HW9.out.and_below (lo := w.heap.size) (gz.below (B := w.heap.size) (Nat.le_refl _) (by have := HS9.out; omega)) (Nat.le_refl _)⟩
  have hq := askOk_in hA
  go_wp2_with fail
  refine (one_any g B n _ 2 _ h4 (by omega) hn (by omega) (by omega)).mono ?_; rintro e w5 ⟨bb, rfl, h5, g5⟩
  have bG5 := bG4.far g5 (.inr (by omega))
  have bR5 := bR4.far g5 (.inr (by omega))
  have o5 := o4.far g5 (.inr (by omega))
  have gW5 := gW4.trans g5
  have z5 := g5.size
  clear bG4 bR4 o4 h4 gW4 g5 d0 d1
  cases bb
  · skip
    have bR9 := bR5
    have bG9 := bG5
    have c0 := bR9.cell 0
    have c1 := bR9.cell 1
    have f0 := bR9.free 0
    have f1 := bR9.free 1
    have e0 := bG9.cell 0
    have e1 := bG9.cell 1
    simp at c0 c1 e0 e1
    have HO9 := Lib.hid o5
    have HC9 := Lib.hid h5
    have HW9 := Lib.hid gW5
    have HS9 : Hid (w.heap.size + 1 ≤ w5.heap.size) := by show _ ≤ _; omega
    go_wp2_with fail
    have gz : Wr w.heap.size (w.heap.size + 1) w5 ((w5.setCell ⟨w.heap.size, 0, none⟩ (.int .i64 xr)).setCell ⟨w.heap.size, 1, none⟩ (.int .i64 xd)) := ((Wr.refl _ _ _).setCell (p := ⟨w.heap.size, 0, none⟩) (Nat.le_refl _) (Nat.lt_succ_self _) _).setCell (p := ⟨w.heap.size, 1, none⟩) (Nat.le_refl _) (Nat.lt_succ_self _) _
    refine bodyPost_ret (v := .tuple #[BuV ⟨xr, xd⟩, u]) (by simp [results, Try.results86, go_sem, BuV, c0, c1]) rfl ⟨⟨xr, xd⟩, _, _, rfl, by omega, (HO9.out.far gz (.inr (by omega))).wide (by omega) (Nat.le_trans (by omega) gz.size), (HC9.out.far gz (.inl hgw) (by have := hBg; omega)).more (by omega), HW9.out.and_below (lo := w.heap.size) (gz.below (B := w.heap.size) (Nat.le_refl _) (by have := HS9.out; omega)) (Nat.le_refl _)⟩
  have r5 := o5.ri.more (show w2.heap.size ≤ w5.heap.size by omega)
  have d0 := bG5.cell 0
  have d1 := bG5.cell 1
  simp at d0 d1
  have HSD := Lib.hid (shSend_any u ⟨xr, xd⟩ l w5 r5 hq.1 hq.2)
  have HLN := outO_len ⟨xr, xd⟩ l
  generalize (outO ⟨xr, xd⟩ l (snRg ⟨xr, xd⟩ l)) = Y at HSD HLN
  obtain ⟨Y1, Y2⟩ := Y
  go_wp2_with fail
  refine HSD.out.mono ?_; rintro e w6 ⟨u1, u2, rfl, o1, _, hb6⟩
  have bG6 := bG5.step hb6
  have bR6 := bR5.step hb6
  have o6 := o5.step hb6
  have h6 := h5.below hb6 h5.lt
  have gW6 := gW5.and_below hb6 gW5.size
  have z6 := hb6.size
  clear bG5 bR5 o5 h5 gW5 r5 hb6 d0 d1 HSD
  obtain ⟨A1, c1_, rfl, _, _⟩ := o1.ri
  cases Y2
  · skip
    have bR9 := bR6
    have bG9 := bG6
    have c0 := bR9.cell 0
    have c1 := bR9.cell 1
    have f0 := bR9.free 0
    have f1 := bR9.free 1
    have e0 := bG9.cell 0
    have e1 := bG9.cell 1
    simp at c0 c1 e0 e1
    have HO9 := Lib.hid o6
    have HC9 := Lib.hid h6
    have HW9 := Lib.hid gW6
    have HS9 : Hid (w.heap.size + 1 ≤ w6.heap.size) := by show _ ≤ _; omega
    go_wp2_with fail
    have gz : Wr w.heap.size (w.heap.size + 1) w6 ((w6.setCell ⟨w.heap.size, 0, none⟩ (.int .i64 xr)).setCell ⟨w.heap.size, 1, none⟩ (.int .i64 xd)) := ((Wr.refl _ _ _).setCell (p := ⟨w.heap.size, 0, none⟩) (Nat.le_refl _) (Nat.lt_succ_self _) _).setCell (p := ⟨w.heap.size, 1, none⟩) (Nat.le_refl _) (Nat.lt_succ_self _) _
    refine bodyPost_ret (v := .tuple #[BuV ⟨xr, xd⟩, u]) (by simp [results, Try.results86, go_sem, BuV, c0, c1]) rfl ⟨⟨xr, xd⟩, _, _, rfl, by omega, (HO9.out.far gz (.inr (by omega))).wide (by omega) (Nat.le_trans (by omega) gz.size), (HC9.out.far gz (.inl hgw) (by have := hBg; omega)).more (by omega), HW9.out.and_below (lo := w.heap.size) (gz.below (B := w.heap.size) (Nat.le_refl _) (by have := HS9.out; omega)) (Nat.le_refl _)⟩
  have hY : (Y1.length : Int) ≤ 100 := by omega
  by_cases hL : (Y1.length : Int) ≤ 40
  · skip
    have bR9 := bR6
    have bG9 := bG6
    have c0 := bR9.cell 0
    have c1 := bR9.cell 1
    have f0 := bR9.free 0
    have f1 := bR9.free 1
    have e0 := bG9.cell 0
    have e1 := bG9.cell 1
    simp at c0 c1 e0 e1
    have HO9 := Lib.hid o1
    have HC9 := Lib.hid h6
    have HW9 := Lib.hid gW6
    have HS9 : Hid (w.heap.size + 1 ≤ w6.heap.size) := by show _ ≤ _; omega
    go_wp2_with fail
    have gz : Wr w.heap.size (w.heap.size + 1) w6 ((w6.setCell ⟨w.heap.size, 0, none⟩ (.int .i64 xr)).setCell ⟨w.heap.size, 1, none⟩ (.int .i64 xd)) := ((Wr.refl _ _ _).setCell (p := ⟨w.heap.size, 0, none⟩) (Nat.le_refl _) (Nat.lt_succ_self _) _).setCell (p := ⟨w.heap.size, 1, none⟩) (Nat.le_refl _) (Nat.lt_succ_self _) _
    refine bodyPost_ret (v := .tuple #[BuV ⟨xr, xd⟩, .slice A1 Y1.length c1_]) (by simp [results, Try.results86, go_sem, BuV, c0, c1]) rfl ⟨⟨xr, xd⟩, _, _, rfl, by omega, (HO9.out.far gz (.inr (by omega))).wide (by omega) (Nat.le_trans (by omega) gz.size), (HC9.out.far gz (.inl hgw) (by have := hBg; omega)).more (by omega), HW9.out.and_below (lo := w.heap.size) (gz.below (B := w.heap.size) (Nat.le_refl _) (by have := HS9.out; omega)) (Nat.le_refl _)⟩
  · skip
    have bR9 := bR6
    have bG9 := bG6
    have c0 := bR9.cell 0
    have c1 := bR9.cell 1
    have f0 := bR9.free 0
    have f1 := bR9.free 1
    have e0 := bG9.cell 0
    have e1 := bG9.cell 1
    simp at c0 c1 e0 e1
    have HO9 := Lib.hid o6
    have HC9 := Lib.hid h6
    have HW9 := Lib.hid gW6
    have HS9 : Hid (w.heap.size + 1 ≤ w6.heap.size) := by show _ ≤ _; omega
    go_wp2_with fail
    have gz : Wr w.heap.size (w.heap.size + 1) w6 ((w6.setCell ⟨w.heap.size, 0, none⟩ (.int .i64 xr)).setCell ⟨w.heap.size, 1, none⟩ (.int .i64 xd)) := ((Wr.refl _ _ _).setCell (p := ⟨w.heap.size, 0, none⟩) (Nat.le_refl _) (Nat.lt_succ_self _) _).setCell (p := ⟨w.heap.size, 1, none⟩) (Nat.le_refl _) (Nat.lt_succ_self _) _
    refine bodyPost_ret (v := .tuple #[BuV ⟨xr, xd⟩, u]) (by simp [results, Try.results86, go_sem, BuV, c0, c1]) rfl ⟨⟨xr, xd⟩, _, _, rfl, by omega, (HO9.out.far gz (.inr (by omega))).wide (by omega) (Nat.le_trans (by omega) gz.size), (HC9.out.far gz (.inl hgw) (by have := hBg; omega)).more (by omega), HW9.out.and_below (lo := w.heap.size) (gz.below (B := w.heap.size) (Nat.le_refl _) (by have := HS9.out; omega)) (Nat.le_refl _)⟩
end Go.Proofs.Ytlanpfcjcafapaa
