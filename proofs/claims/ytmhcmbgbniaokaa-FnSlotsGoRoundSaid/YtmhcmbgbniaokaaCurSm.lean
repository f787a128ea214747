/-
  The draws of FnSlotsGoRound.
-/
import Derived.Test.YtmhcmbgbniaokaaCurSl
namespace Go.Proofs.Ytmhcmbgbniaokaa
open Go.RowKit
set_option maxRecDepth 100000
set_option linter.unusedVariables false
theorem RB.wide9 {w : World} {B B' : Nat} {v : Value} {n : Nat} (h : RB w B v n) (hB : B ≤ B') : RB w B' v n := by
  obtain ⟨A, c, rfl, hlc, hc⟩ := h
  exact ⟨A, c, rfl, hlc, fun h => by obtain ⟨b, off, h1, h2, h3⟩ := hc h; exact ⟨b, off, h1, by omega, h3⟩⟩
def RetSdC (g B n k : Nat) (w : World) (e : Ending) (w' : World) : Prop :=
  ∃ (x : Sr) (u : Value) (l : List Ms), e = .returned (.tuple #[SrV x, u]) ∧ l.length ≤ 21 ∧ OMsS w' w.heap.size w'.heap.size u l ∧ CurAt w' g B n k ∧ Wr g (g + 1) w w'
set_option maxHeartbeats 4000000 in
theorem slotted_any (g B n k : Nat) (w : World) (h : CurAt w g B n k) (hk : k ≤ 10000000) (hn : n ≤ 1048576) :
    Calls Try.prog 37 #[.pointer (some ⟨g, 0, none⟩)] w (RetSdC g B n (k + 300) w) := by
  have hgw := h.lt
  have hBg : B ≤ g := h.1
  have bR := BK.made w 25 #[.int .i64 0, .bool false]
  have h0 := h.below ((Below.refl _ _).alloc (Nat.le_refl _) (.cells #[.int .i64 0, .bool false] 25)) hgw
  have g0 : Wr g (g + 1) w (w.alloc (.cells #[.int .i64 0, .bool false] 25)) := Wr.of_below ((Below.refl _ _).alloc (Nat.le_refl _) _) _ _
  go_enter Try.func37, Try.ntmps37
  go_wp2_with fail
  refine (curSl_any g B n _ _ h0 (by omega) hn).mono ?_; rintro e w1 ⟨x, rfl, h1, g1⟩
  obtain ⟨xn, xh⟩ := x
  simp only [SrV]
  have bR1 := bR.far g1 (.inr (by omega))
  have hlow : w.heap.size < w1.heap.size := bR1.1
  have hal : Below w1.heap.size w1 (w1.alloc (.cells #[.int .i64 xn, .bool xh] 25)) := (Below.refl _ _).alloc (Nat.le_refl _) _
  have bG2 := BK.made w1 25 #[.int .i64 xn, .bool xh]
  have bR2 := bR1.step hal
  have h2 := h1.below hal h1.lt
  have gW2 := (g0.trans g1).and_below hal (by omega)
  have hs2 := gW2.size
  clear bR bR1 h0 h1 g0 g1 hal
  go_upto_region 2 with fail
  have G3 : BK ((w1.alloc (.cells #[.int .i64 xn, .bool xh] 25)).drewN 1) _ _ _ := bG2
  have R3 : BK ((w1.alloc (.cells #[.int .i64 xn, .bool xh] 25)).drewN 1) _ _ _ := bR2
  have H3 : CurAt ((w1.alloc (.cells #[.int .i64 xn, .bool xh] 25)).drewN 1) g B n _ := h2
  have c0 := G3.cell 0
  have c1 := G3.cell 1
  simp at c0 c1
  go_region_with (go_at_call 48; refine (messages_any g B n _ ⟨xn, xh⟩ _ H3 (by omega) hn).mono ?_; rintro e w7 ⟨u, l, rfl, hl, o7, h7, g7⟩; have G7 := G3.far g7 (.inr (by omega)); have R7 := R3.far g7 (.inr (by omega)); have O7 := OK.wide (lo' := w.heap.size + 1) o7 (by simp; omega) (Nat.le_refl _); have W7 : Wr g (g + 1) w w7 := gW2.trans ⟨g7.os, g7.tape, g7.output, g7.size, g7.block⟩; have m0 := G7.cell 0; have m1 := G7.cell 1; have a0 := R7.cell 0; have a1 := R7.cell 1; have a2 := R7.free 0; have a3 := R7.free 1; simp at m0 m1 a0 a1)
  all_goals
    go_wp2_with fail
    have gz : Wr w.heap.size (w.heap.size + 1) w7 ((w7.setCell ⟨w.heap.size, 0, none⟩ (.int .i64 xn)).setCell ⟨w.heap.size, 1, none⟩ (.bool xh)) := ((Wr.refl _ _ _).setCell (p := ⟨w.heap.size, 0, none⟩) (Nat.le_refl _) (Nat.lt_succ_self _) _).setCell (p := ⟨w.heap.size, 1, none⟩) (Nat.le_refl _) (Nat.lt_succ_self _) _
    refine bodyPost_ret (v := .tuple #[SrV ⟨xn, xh⟩, u]) (by simp [results, Try.results37, go_sem, Act.put, SrV, a0, a1]) (by simp [Act.put]) ⟨⟨xn, xh⟩, u, l, rfl, hl, OK.wide (OK.far O7 gz (.inr (Nat.le_refl _))) (Nat.le_succ _) gz.size, (h7.far gz (.inl hgw) (by omega)).more (by omega), W7.and_below (lo := w.heap.size) (gz.below (B := w.heap.size) (Nat.le_refl _) (by have := R7.1; omega)) (Nat.le_refl _)⟩
def RetSd (w : World) (e : Ending) (w' : World) : Prop := ∃ (x : Sr) (u : Value) (l : List Ms), e = .returned (.tuple #[SrV x, u]) ∧ l.length ≤ 21 ∧ OMsS w' w.heap.size w'.heap.size u l ∧ Below w.heap.size w w'
set_option maxHeartbeats 2000000 in
theorem drawAreMessages_any (v : Value) (n : Nat) (w : World) (h : RB w w.heap.size v n) (hn : n ≤ 1048576) : Calls Try.prog 25 #[v] w (RetSd w) := by
  have b0 := BK.made w 25 #[.int .i64 0, .bool false]
  have hA : Below w.heap.size w (w.alloc (.cells #[.int .i64 0, .bool false] 25)) := (Below.refl _ _).alloc (Nat.le_refl _) _
  have h0 := CurAt.made (RB.wide9 (RB.below h hA) hA.size)
  have eG : (w.alloc (.cells #[.int .i64 0, .bool false] 25)).heap.size = w.heap.size + 1 := by simp
  rw [eG] at h0
  clear eG
  obtain ⟨A, c, rfl, hlc, hc⟩ := h
  clear hc
  have b1 := b0.alloc (.cells #[.slice A n c, .int .i64 0, .int .u64 0] 58)
  have t0 : Below w.heap.size w ((w.alloc (.cells #[.int .i64 0, .bool false] 25)).alloc (.cells #[.slice A n c, .int .i64 0, .int .u64 0] 58)) := hA.alloc hA.size _
  have z0 : w.heap.size + 2 ≤ ((w.alloc (.cells #[.int .i64 0, .bool false] 25)).alloc (.cells #[.slice A n c, .int .i64 0, .int .u64 0] 58)).heap.size := by simp
  clear hA b0
  go_enter Try.func25, Try.ntmps25
  go_wp2_with fail
  refine (slotted_any (w.heap.size + 1) _ n _ _ h0 (by omega) hn).mono ?_; rintro e w1 ⟨x, u, l, rfl, hl, o1, h1, g1⟩
  obtain ⟨xn, xh⟩ := x
  simp only [SrV]
  have z1 := g1.size
  have t1 := t0.trans (g1.below (B := w.heap.size) (by omega) (by omega))
  have b2 := b1.far g1 (.inl (by omega))
  have c0 := b2.cell 0
  have c1 := b2.cell 1
  have f0 := b2.free 0
  have f1 := b2.free 1
  simp at c0 c1
  have O1 := OK.wide (lo' := w.heap.size + 1) o1 (by omega) (Nat.le_refl _)
  clear b1 g1 h0 t0 o1
  go_wp2_with fail
  have gz : Wr w.heap.size (w.heap.size + 1) w1 ((w1.setCell ⟨w.heap.size, 0, none⟩ (.int .i64 xn)).setCell ⟨w.heap.size, 1, none⟩ (.bool xh)) := ((Wr.refl _ _ _).setCell (p := ⟨w.heap.size, 0, none⟩) (Nat.le_refl _) (Nat.lt_succ_self _) _).setCell (p := ⟨w.heap.size, 1, none⟩) (Nat.le_refl _) (Nat.lt_succ_self _) _
  refine bodyPost_ret (v := .tuple #[SrV ⟨xn, xh⟩, u]) (by simp [results, Try.results25, go_sem, SrV, c0, c1]) rfl ⟨⟨xn, xh⟩, u, l, rfl, hl, OK.wide (OK.far O1 gz (.inr (Nat.le_refl _))) (Nat.le_succ _) gz.size, t1.trans (gz.below (Nat.le_refl _) (by omega))⟩
set_option maxHeartbeats 2000000 in
theorem drawReadAt_any (v : Value) (n : Nat) (w : World) (h : RB w w.heap.size v n) (hn : n ≤ 1048576) : Calls Try.prog 5 #[v] w (RetSd w) := by
  have b0 := BK.made w 25 #[.int .i64 0, .bool false]
  have hA : Below w.heap.size w (w.alloc (.cells #[.int .i64 0, .bool false] 25)) := (Below.refl _ _).alloc (Nat.le_refl _) _
  have H := Lib.hid (drawAreMessages_any v n _ (RB.wide9 (RB.below h hA) hA.size) hn)
  have z0 : w.heap.size + 1 ≤ (w.alloc (.cells #[.int .i64 0, .bool false] 25)).heap.size := by simp
  go_enter Try.func5, Try.ntmps5
  go_wp2_with fail
  refine H.out.mono ?_; rintro e w1 ⟨x, u, l, rfl, hl, o1, hb1⟩
  obtain ⟨xn, xh⟩ := x
  simp only [SrV]
  have t1 := hA.trans (hb1.mono (by omega))
  have b2 := b0.step hb1
  have c0 := b2.cell 0
  have c1 := b2.cell 1
  have f0 := b2.free 0
  have f1 := b2.free 1
  simp at c0 c1
  have O1 := OK.wide (lo' := w.heap.size + 1) o1 (by omega) (Nat.le_refl _)
  have z1 := hb1.size
  clear b0 hA hb1 o1
  go_wp2_with fail
  have gz : Wr w.heap.size (w.heap.size + 1) w1 ((w1.setCell ⟨w.heap.size, 0, none⟩ (.int .i64 xn)).setCell ⟨w.heap.size, 1, none⟩ (.bool xh)) := ((Wr.refl _ _ _).setCell (p := ⟨w.heap.size, 0, none⟩) (Nat.le_refl _) (Nat.lt_succ_self _) _).setCell (p := ⟨w.heap.size, 1, none⟩) (Nat.le_refl _) (Nat.lt_succ_self _) _
  refine bodyPost_ret (v := .tuple #[SrV ⟨xn, xh⟩, u]) (by simp [results, Try.results5, go_sem, SrV, c0, c1]) rfl ⟨⟨xn, xh⟩, u, l, rfl, hl, OK.wide (OK.far O1 gz (.inr (Nat.le_refl _))) (Nat.le_succ _) gz.size, t1.trans (gz.below (Nat.le_refl _) (by omega))⟩
def RetSm (w : World) (e : Ending) (w' : World) : Prop := ∃ (x : Sr) (y : Ms), e = .returned (.tuple #[SrV x, MsV y]) ∧ Below w.heap.size w w'
set_option maxHeartbeats 8000000 in
theorem drawHopsOfMessage_any (v : Value) (n : Nat) (w : World) (h : RB w w.heap.size v n) (hn : n ≤ 1048576) : Calls Try.prog 23 #[v] w (RetSm w) := by
  have bA := (BK.made w 25 #[.int .i64 0, .bool false]).alloc (.cells #[.int .i64 0, .int .i64 0, .int .i64 0] 39)
  have bB := BK.made (w.alloc (.cells #[.int .i64 0, .bool false] 25)) 39 #[.int .i64 0, .int .i64 0, .int .i64 0]
  rw [World.size_alloc] at bB
  have hA : Below w.heap.size w ((w.alloc (.cells #[.int .i64 0, .bool false] 25)).alloc (.cells #[.int .i64 0, .int .i64 0, .int .i64 0] 39)) := ((Below.refl _ _).alloc (Nat.le_refl _) _).alloc (by simp) _
  have h0 := CurAt.made (RB.wide9 (RB.below h hA) hA.size)
  have eG : ((w.alloc (.cells #[.int .i64 0, .bool false] 25)).alloc (.cells #[.int .i64 0, .int .i64 0, .int .i64 0] 39)).heap.size = w.heap.size + 1 + 1 := by simp
  rw [eG] at h0
  clear eG
  obtain ⟨A, c, rfl, hlc, hc⟩ := h
  clear hc
  have bA1 := bA.alloc (.cells #[.slice A n c, .int .i64 0, .int .u64 0] 58)
  have bB1 := bB.alloc (.cells #[.slice A n c, .int .i64 0, .int .u64 0] 58)
  have t0 : Below w.heap.size w (((w.alloc (.cells #[.int .i64 0, .bool false] 25)).alloc (.cells #[.int .i64 0, .int .i64 0, .int .i64 0] 39)).alloc (.cells #[.slice A n c, .int .i64 0, .int .u64 0] 58)) := hA.alloc hA.size _
  have z0 : w.heap.size + 3 ≤ (((w.alloc (.cells #[.int .i64 0, .bool false] 25)).alloc (.cells #[.int .i64 0, .int .i64 0, .int .i64 0] 39)).alloc (.cells #[.slice A n c, .int .i64 0, .int .u64 0] 58)).heap.size := by simp
  clear hA bA bB
  go_enter Try.func23, Try.ntmps23
  go_wp2_with fail
  refine (slotted_any (w.heap.size + 1 + 1) _ n _ _ h0 (by omega) hn).mono ?_; rintro e w1 ⟨x, u, l, rfl, hl, o1, h1, g1⟩
  obtain ⟨xn, xh⟩ := x
  simp only [SrV]
  have z1 := g1.size
  have t1 := t0.trans (g1.below (B := w.heap.size) (by omega) (by omega))
  have bA2 := bA1.far g1 (.inl (by omega))
  have bB2 := bB1.far g1 (.inl (by omega))
  have hal : Below w1.heap.size w1 (w1.alloc (.cells #[.int .i64 xn, .bool xh] 25)) := (Below.refl _ _).alloc (Nat.le_refl _) _
  have bG := BK.made w1 25 #[.int .i64 xn, .bool xh]
  have bA3 := bA2.step hal
  have bB3 := bB2.step hal
  have h3 := h1.below hal h1.lt
  have o3 := OK.step o1 hal
  have t3 := t1.trans (hal.mono t1.size)
  have z3 : w1.heap.size + 1 ≤ (w1.alloc (.cells #[.int .i64 xn, .bool xh] 25)).heap.size := by simp
  clear bA1 bB1 bA2 bB2 g1 h0 t0 h1 o1 t1 hal
  obtain ⟨Au, cu, rfl, hfl, hlc2, hcu⟩ := id (OK.rk o3)
  have hl21 : (l.length : Int) ≤ 21 := by omega
  have G4 : BK ((w1.alloc (.cells #[.int .i64 xn, .bool xh] 25)).drewN 1) _ _ _ := bG
  have A4 : BK ((w1.alloc (.cells #[.int .i64 xn, .bool xh] 25)).drewN 1) _ _ _ := bA3
  have B4 : BK ((w1.alloc (.cells #[.int .i64 xn, .bool xh] 25)).drewN 1) _ _ _ := bB3
  have H4 : CurAt ((w1.alloc (.cells #[.int .i64 xn, .bool xh] 25)).drewN 1) (w.heap.size + 1 + 1) (w.heap.size + 1 + 1) n _ := h3
  have T4 := below_drewN t3 1
  have k0 := G4.cell 0
  have k1 := G4.cell 1
  simp at k0 k1
  have Z4 : w1.heap.size + 1 ≤ ((w1.alloc (.cells #[.int .i64 xn, .bool xh] 25)).drewN 1).heap.size := z3
  have O4 : OMsS ((w1.alloc (.cells #[.int .i64 xn, .bool xh] 25)).drewN 1) _ w1.heap.size (.slice Au l.length cu) l := o3
  by_cases hl0 : l.length = 0
  · rw [hl0]
    clear O4 o3 hcu hfl bG bA3 bB3 h3 t3
    go_upto_region 4 with fail
    go_region_with (first | (go_at_call 38; refine (pick_any (w.heap.size + 1 + 1) _ n _ 3 _ H4 (by omega) hn (by omega) (by omega)).mono ?_; clear H4; rintro e w7 ⟨y1, rfl, y10, y11, H7, g7⟩; have G7 := G4.far g7 (.inr (by omega)); have A7 := A4.far g7 (.inl (by omega)); have B7 := B4.far g7 (.inl (by omega)); have T7 := T4.trans (g7.below (B := w.heap.size) (by omega) (by omega)); have Z7 := g7.size; have n0 := G7.cell 0; have n1 := G7.cell 1; simp at n0 n1) | (go_at_call 38; refine (pick_any (w.heap.size + 1 + 1) _ n _ 3 _ H7 (by omega) hn (by omega) (by omega)).mono ?_; clear H7; rintro e w8 ⟨y2, rfl, y20, y21, H8, g8⟩; have G8 := G7.far g8 (.inr (by omega)); have A8 := A7.far g8 (.inl (by omega)); have B8 := B7.far g8 (.inl (by omega)); have T8 := T7.trans (g8.below (B := w.heap.size) (by omega) (by omega)); have m0 := G8.cell 0; have m1 := G8.cell 1; have a0 := A8.cell 0; have a1 := A8.cell 1; have a2 := A8.free 0; have a3 := A8.free 1; have b0 := B8.cell 0; have b1 := B8.cell 1; have b2 := B8.cell 2; have b3 := B8.free 0; have b4 := B8.free 1; have b5 := B8.free 2; simp at m0 m1 a0 a1 b0 b1 b2; have Z8 := g8.size))
    all_goals
      go_wp2_with fail
      have gz : Wr w.heap.size (w.heap.size + 2) w8 (((((w8.setCell ⟨w.heap.size, 0, none⟩ (.int .i64 xn)).setCell ⟨w.heap.size, 1, none⟩ (.bool xh)).setCell ⟨w.heap.size + 1, 0, none⟩ (.int .i64 y1)).setCell ⟨w.heap.size + 1, 1, none⟩ (.int .i64 0)).setCell ⟨w.heap.size + 1, 2, none⟩ (.int .i64 y2)) := ((((((Wr.refl w.heap.size (w.heap.size + 2) w8).setCell (p := ⟨w.heap.size, 0, none⟩) (by simp) (by simp) (.int .i64 xn)).setCell (p := ⟨w.heap.size, 1, none⟩) (by simp) (by simp) (.bool xh)).setCell (p := ⟨w.heap.size + 1, 0, none⟩) (by simp) (by simp) (.int .i64 y1)).setCell (p := ⟨w.heap.size + 1, 1, none⟩) (by simp) (by simp) (.int .i64 0)).setCell (p := ⟨w.heap.size + 1, 2, none⟩) (by simp) (by simp) (.int .i64 y2))
      refine bodyPost_ret (v := .tuple #[SrV ⟨xn, xh⟩, MsV ⟨y1, 0, y2⟩]) (by simp [results, Try.results23, go_sem, SrV, MsV, a0, a1, b0, b1, b2]) (by simp) ⟨⟨xn, xh⟩, ⟨y1, 0, y2⟩, rfl, T8.trans (gz.below (Nat.le_refl _) (by omega))⟩
  · have hlp : (0 : Int) < (l.length : Int) := by omega
    obtain ⟨_, _, _, hpa⟩ := RMsS.parts (l := l) (OK.rk O4)
    obtain ⟨bu, ou, rfl, hbu, _⟩ := hpa (by omega)
    have hbl : w.heap.size + 3 ≤ bu := by
      rcases id O4 with ⟨h9, _⟩ | ⟨g9, c9, hv9, hlo9, _⟩
      · omega
      · injection hv9 with e1 _ _
        injection e1 with e1
        injection e1 with e1
        omega
    have hne1 : ¬ (bu = w.heap.size) := by omega
    have hne2 : ¬ (w.heap.size = bu) := by omega
    have hne3 : ¬ (bu = w.heap.size + 1) := by omega
    have hne4 : ¬ (w.heap.size + 1 = bu) := by omega
    clear o3 hcu hfl bG bA3 bB3 h3 t3 hpa
    go_upto_region 5 with fail
    go_region_with (go_at_call 38; refine (pick_any (w.heap.size + 1 + 1) _ n _ (l.length : Int) _ H4 (by omega) hn (by omega) (by omega)).mono ?_; clear H4; rintro e w8 ⟨v, rfl, v0, v1, H8, g8⟩; obtain ⟨j, rfl⟩ := Int.eq_ofNat_of_zero_le v0; have hj : j < l.length := (by omega); have hjI : (j : Int) < (l.length : Int) := (by omega); have O8 := OK.far O4 g8 (.inr (by omega)); obtain ⟨_, _, _, hp8⟩ := RMsS.parts (l := l) (OK.rk O8); obtain ⟨bu', ou', hAu, _, hc8⟩ := hp8 (by omega); injection hAu with e9; injection e9 with e10 e11 _; subst e10; subst e11; obtain ⟨d0, d1, d2⟩ := hc8 j hj; generalize l[j]! = y at d0 d1 d2; obtain ⟨yt, yf, yo⟩ := y; simp only at d0 d1 d2; clear hc8 hp8 O8; have G8 := G4.far g8 (.inr (by omega)); have A8 := A4.far g8 (.inl (by omega)); have B8 := B4.far g8 (.inl (by omega)); have T8 := T4.trans (g8.below (B := w.heap.size) (by omega) (by omega)); have m0 := G8.cell 0; have m1 := G8.cell 1; have a0 := A8.cell 0; have a1 := A8.cell 1; have a2 := A8.free 0; have a3 := A8.free 1; have b0 := B8.cell 0; have b1 := B8.cell 1; have b2 := B8.cell 2; have b3 := B8.free 0; have b4 := B8.free 1; have b5 := B8.free 2; simp at m0 m1 a0 a1 b0 b1 b2; have Z8 := g8.size)
    all_goals
      go_wp2_with fail
      have gz : Wr w.heap.size (w.heap.size + 2) w8 (((((w8.setCell ⟨w.heap.size, 0, none⟩ (.int .i64 xn)).setCell ⟨w.heap.size, 1, none⟩ (.bool xh)).setCell ⟨w.heap.size + 1, 0, none⟩ (.int .i64 yt)).setCell ⟨w.heap.size + 1, 1, none⟩ (.int .i64 yf)).setCell ⟨w.heap.size + 1, 2, none⟩ (.int .i64 yo)) := ((((((Wr.refl w.heap.size (w.heap.size + 2) w8).setCell (p := ⟨w.heap.size, 0, none⟩) (by simp) (by simp) (.int .i64 xn)).setCell (p := ⟨w.heap.size, 1, none⟩) (by simp) (by simp) (.bool xh)).setCell (p := ⟨w.heap.size + 1, 0, none⟩) (by simp) (by simp) (.int .i64 yt)).setCell (p := ⟨w.heap.size + 1, 1, none⟩) (by simp) (by simp) (.int .i64 yf)).setCell (p := ⟨w.heap.size + 1, 2, none⟩) (by simp) (by simp) (.int .i64 yo))
      refine bodyPost_ret (v := .tuple #[SrV ⟨xn, xh⟩, MsV ⟨yt, yf, yo⟩]) (by simp [results, Try.results23, go_sem, SrV, MsV, a0, a1, b0, b1, b2]) (by simp) ⟨⟨xn, xh⟩, ⟨yt, yf, yo⟩, rfl, T8.trans (gz.below (Nat.le_refl _) (by omega))⟩
end Go.Proofs.Ytmhcmbgbniaokaa
