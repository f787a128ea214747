/-
  The contracts of the model's FrameOf.
-/
import Derived.Test.YtaokdocflbabjaaFrameOf
namespace Go.Proofs.Ytaokdocflbabjaa
open Go.RowKit
set_option maxRecDepth 100000

theorem l1Own_any (v : Value) (l : List Int) (w : World) (h : RI w w.heap.size v l) (hn : l.length ≤ 1048576) :
    Calls Try.prog 96 #[v] w (RetL 3 w l) := by
  have h0 := h
  have hsh := Lib.hid h.shape
  obtain ⟨A, c, rfl, hlc, hc⟩ := h
  clear hc
  obtain ⟨i0, hi, hz0, hz1, hz2⟩ := info_parts int_info
  have hb0 : Below w.heap.size w (w.alloc (.cells #[] 3)) := (Below.refl _ _).alloc (Nat.le_refl _) _
  have ha : Acc 3 (w.alloc (.cells #[] 3)) w.heap.size (.slice (some ⟨w.heap.size, 0, none⟩) 0 0) [] := World.ownsRow_made w #[] 0 (Nat.le_refl _) (by simp) rfl
  go_enter Try.func96, Try.ntmps96
  go_wp2_with (at_builtin; refine wpList_cat rfl (.tmp 3) (.tmp 4) 24 rfl 3 i0 Try.underlying24 hi hz0 hz1 hz2 w w.heap.size w.heap.size _ _ _ l rfl ha rfl (h0.below hb0) hsh.out (by simp; omega) hb0 hb0.size ?_; intro v2 w2 ha2 hb2)
  go_ret
  exact ⟨_, rfl, by simpa using ha2.oi, hb2⟩

set_option maxHeartbeats 2000000 in
theorem frOf_any (v : Value) (l : List Int) (w : World) (h : RI w w.heap.size v l) (hA : areB l = true) :
    Calls Try.prog 75 #[v] w (RetFB 3 w (frameOf l).1 (frameOf l).2) := by
  have h0 := h
  have hl := areB_len hA
  have hO := Lib.hid (areB_ok hA)
  have hb0 : Below w.heap.size w (w.alloc (.cells #[.int .i64 0, .int .i64 0, .int .i64 0, .slice none 0 0] 34)) := (Below.refl _ _).alloc (Nat.le_refl _) _
  have x0 := BK.made w 34 #[.int .i64 0, .int .i64 0, .int .i64 0, .slice none 0 0]
  have r1 := (h0.below hb0).more hb0.size
  have hz : (l.length : Int) ≤ 40 := by omega
  have HZ : Hid (∀ w5, BK w5 w.heap.size 34 #[.int .i64 0, .int .i64 0, .int .i64 0, .slice none 0 0] → Below w.heap.size w w5 →
      Below w.heap.size w ((((w5.setCell ⟨w.heap.size, 0, none⟩ (.int .i64 0)).setCell ⟨w.heap.size, 1, none⟩ (.int .i64 0)).setCell ⟨w.heap.size, 2, none⟩ (.int .i64 0)).setCell ⟨w.heap.size, 3, none⟩ (.slice none 0 0))) := by
    show ∀ w5, _
    intro w5 _ hb
    exact (((hb.setCell (p := ⟨w.heap.size, 0, none⟩) (by simp) _).setCell (p := ⟨w.heap.size, 1, none⟩) (by simp) _).setCell (p := ⟨w.heap.size, 2, none⟩) (by simp) _).setCell (p := ⟨w.heap.size, 3, none⟩) (by simp) _
  rcases Nat.lt_or_ge l.length 3 with h3 | h3
  · rw [frameOf_no (fun hk => by have := hk.2.1; omega)]
    obtain ⟨A, c, rfl, hlc, hc⟩ := h
    clear hc
    have h3' : (l.length : Int) < 3 := by omega
    go_enter Try.func75, Try.ntmps75
    go_wp2_with fail
    refine bodyPost_ret (v := .tuple #[frV frZero (.slice none 0 0), .bool false]) (by simp [results, Try.results75, go_sem, frV, frZero]) rfl ⟨_, rfl, of_zero _ _ _ _, ?_⟩
    exact hb0
  obtain ⟨A, c, rfl, hlc, hc⟩ := h
  obtain ⟨b1, off, rfl, hmid⟩ := h0.mid h3
  obtain ⟨b2, off2, he, hbB, hcell⟩ := hc (by omega)
  injection he with he
  injection he with he1 he2
  subst he1; subst he2
  have k0 := hcell 0 (by omega)
  have k1 := hcell 1 (by omega)
  rw [Nat.add_zero] at k0
  have y0 := okAll_at (areB_ok hA) 0 (by omega)
  have y1 := okAll_at (areB_ok hA) 1 (by omega)
  have hz3 : 3 ≤ (l.length : Int) := by omega
  have hz4 : (1 : Int) < (l.length : Int) := by omega
  have hz5 : (0 : Int) < (l.length : Int) := by omega
  have hz6 : 0 < l.length := by omega
  have hz7 : ¬ c = 2 := by omega
  have HM : Hid (mkF l = ⟨l.getD 0 0 / 16, l.getD 0 0 % 16, l.getD 1 0 / 32, (l.drop 2).take (l.length - 3)⟩) := rfl
  have hDl : ((l.drop 2).take (l.length - 3)).length = l.length - 3 := by simp; omega
  clear hc hcell
  have OKF : Hid (hasC l = true → l.getD 1 0 % 32 = (l.length : Int) - 3 → isFr (mkF l) = true → okF l) := by
    show _ → _
    exact fun q0 q1 q2 => ⟨hA, h3, q0, q1, q2⟩
  have OKN : Hid (okF l → hasC l = true ∧ l.getD 1 0 % 32 = (l.length : Int) - 3 ∧ isFr (mkF l) = true) := by
    show _ → _
    exact fun h => h.2.2
  rw [HM.out] at OKF OKN
  generalize (l.drop 2).take (l.length - 3) = D at hmid HM hDl OKF OKN
  have HDL := Lib.hid hDl
  have hD3 : D.length ≤ 37 := by omega
  clear hDl
  generalize l.getD 0 0 = p0 at k0 y0 HM OKF OKN
  generalize l.getD 1 0 = p1 at k1 y1 HM OKF OKN
  cases hC : hasC l
  · rw [frameOf_no (fun hk => by have := (OKN.out hk).1; rw [hC] at this; cases this)]
    go_enter Try.func75, Try.ntmps75
    go_wp2_with fail
    refine (frHas_yes _ l _ r1 hO.out (by omega) (by omega)).mono ?_; rintro e w1 ⟨rfl, hb1⟩
    have x1 := x0.step hb1
    have t1 := hb0.trans (hb1.mono hb0.size)
    have xa := x1.cell 0
    have xb := x1.cell 1
    have xc := x1.cell 2
    have xd := x1.cell 3
    have fa := x1.free 0
    have fb := x1.free 1
    have fc := x1.free 2
    have fd := x1.free 3
    simp at xa xb xc xd
    have hfin := HZ.out _ x1 t1
    clear hb0 hb1 x0 x1 t1 r1
    have HFIN := Lib.hid hfin
    clear hfin
    go_wp2_with fail
    refine bodyPost_ret (v := .tuple #[frV frZero (.slice none 0 0), .bool false]) (by simp [results, Try.results75, go_sem, frV, frZero, xa, xb, xc, xd]) rfl ⟨_, rfl, of_zero _ _ _ _, ?_⟩
    exact HFIN.out
  by_cases hq : p1 % 32 = (l.length : Int) - 3
  rotate_left
  · rw [frameOf_no (fun hk => hq (OKN.out hk).2.1)]
    have hne : (p1 % 32 == (l.length : Int) - 3) = false := beq_eq_false_iff_ne.2 hq
    have hne2 : (p1 % 32 != (l.length : Int) - 3) = true := bne_iff_ne.2 hq
    clear hq
    go_enter Try.func75, Try.ntmps75
    go_wp2_with fail
    refine (frHas_yes _ l _ r1 hO.out (by omega) (by omega)).mono ?_; rintro e w1 ⟨rfl, hb1⟩
    have x1 := x0.step hb1
    have t1 := hb0.trans (hb1.mono hb0.size)
    have j1 := (t1.cell (p := ⟨b1, off + 1, none⟩) hbB).trans k1
    have xa := x1.cell 0
    have xb := x1.cell 1
    have xc := x1.cell 2
    have xd := x1.cell 3
    have fa := x1.free 0
    have fb := x1.free 1
    have fc := x1.free 2
    have fd := x1.free 3
    simp at xa xb xc xd
    have hfin := HZ.out _ x1 t1
    clear hb0 hb1 x0 x1 t1 r1
    have HFIN := Lib.hid hfin
    clear hfin
    go_wp2_with fail
    refine bodyPost_ret (v := .tuple #[frV frZero (.slice none 0 0), .bool false]) (by simp [results, Try.results75, go_sem, frV, frZero, xa, xb, xc, xd]) rfl ⟨_, rfl, of_zero _ _ _ _, ?_⟩
    exact HFIN.out
  have hne : (p1 % 32 == (l.length : Int) - 3) = true := beq_iff_eq.2 hq
  have hne2 : (p1 % 32 != (l.length : Int) - 3) = false := by rw [bne, hne]; rfl
  have HQ := Lib.hid hq
  clear hq
  obtain ⟨X1, X2, hX⟩ : ∃ X1 X2, (X1, X2) = frameOf l := ⟨_, _, rfl⟩
  rw [← hX]
  show Calls _ _ _ _ (RetFB 3 w X1 X2)
  have HX := Lib.hid hX
  clear hX
  go_enter Try.func75, Try.ntmps75
  go_wp2_with fail
  refine (frHas_yes _ l _ r1 hO.out (by omega) (by omega)).mono ?_; rintro e w1 ⟨rfl, hb1⟩
  rw [hC]
  have x1 := x0.step hb1
  have t1 := hb0.trans (hb1.mono hb0.size)
  have j0 := (t1.cell (p := ⟨b1, off, none⟩) hbB).trans k0
  have j1 := (t1.cell (p := ⟨b1, off + 1, none⟩) hbB).trans k1
  have s1 := t1.size
  have l1 := x1.1
  clear r1 x0 hb0 hb1 k0 k1
  go_upto_region 3 with fail
  go_cut [4] (fun s7 wx => ∃ g s, s7 = .pointer (some ⟨g, 0, none⟩) ∧ BK wx g 34 #[.int .i64 (p0 / 16), .int .i64 (p0 % 16), .int .i64 (p1 / 32), s] ∧ OI 3 wx (w.heap.size + 1) wx.heap.size s D ∧ Below w1.heap.size w1 wx ∧ w1.heap.size ≤ g)
  case first =>
    have a0 := j0
    have a1 := j1
    have hd : w1.heap.size ≤ w1.drew.heap.size := Nat.le_refl _
    have hq := t1.size
    have hq1 : w.heap.size + 1 ≤ w1.heap.size := x1.1
    have e3 : l.length - 1 - 2 = l.length - 3 := by omega
    have n0 := World.new_ne w1 _ a0
    have n1 := World.new_ne w1 _ a1
    have R2 : RI w1.drew w1.drew.heap.size (.slice (some ⟨b1, off + 2, none⟩) (l.length - 1 - 2) (c - 2)) D := by rw [e3]; exact ((hmid.below t1).drewN 1).more hq
    have hm3 : D.length ≤ 1048576 := by omega
    have g1 : (2 : Int) ≤ (l.length : Int) - 1 := by omega
    have g2 : (l.length : Int) - 1 ≤ (c : Int) := by omega
    have e1 : ((l.length : Int) - 1).toNat = l.length - 1 := by omega
    have e2 : IntKind.i64.wrap ((l.length : Int) - 1) = (l.length : Int) - 1 := IntWalk.i64_in _ (by omega)
    have v0 : p0.tdiv 16 = p0 / 16 := Int.tdiv_eq_ediv_of_nonneg y0.1
    have v1 : p0.tmod 16 = p0 % 16 := Int.tmod_eq_emod_of_nonneg y0.1
    have v2 : p1.tdiv 32 = p1 / 32 := Int.tdiv_eq_ediv_of_nonneg y1.1
    have v3 : IntKind.i64.wrap (p0 / 16) = p0 / 16 := IntWalk.i64_in _ (by omega)
    have v4 : IntKind.i64.wrap (p1 / 32) = p1 / 32 := IntWalk.i64_in _ (by omega)
    clear e3
    have hbz : Below w1.heap.size w1 (w1.alloc (.cells #[.int .i64 0, .int .i64 0, .int .i64 0, .slice none 0 0] 34)) := (Below.refl _ _).alloc (Nat.le_refl _) _
    have bz := BK.made w1 34 #[.int .i64 0, .int .i64 0, .int .i64 0, .slice none 0 0]
    have R3 : RI (w1.alloc (.cells #[.int .i64 0, .int .i64 0, .int .i64 0, .slice none 0 0] 34)).drew (w1.alloc (.cells #[.int .i64 0, .int .i64 0, .int .i64 0, .slice none 0 0] 34)).drew.heap.size (.slice (some ⟨b1, off + 2, none⟩) (l.length - 1 - 2) (c - 2)) D := ((show RI w1 w1.heap.size _ _ from R2).step hbz (Nat.le_refl _)).more hbz.size
    have B3 : BK (w1.alloc (.cells #[.int .i64 0, .int .i64 0, .int .i64 0, .slice none 0 0] 34)).drew w1.heap.size 34 #[.int .i64 0, .int .i64 0, .int .i64 0, .slice none 0 0] := bz
    have h0 := (hbz.drew.cell (p := ⟨b1, off, none⟩) (by show b1 < _; omega)).trans j0
    have h1 := (hbz.drew.cell (p := ⟨b1, off + 1, none⟩) (by show b1 < _; omega)).trans j1
    have a0' : w1.drew.cell? ⟨b1, off, none⟩ = some (.int .i64 p0) := a0
    have a1' : w1.drew.cell? ⟨b1, off + 1, none⟩ = some (.int .i64 p1) := a1
    have hbz1 : b1 < (w1.alloc (.cells #[.int .i64 0, .int .i64 0, .int .i64 0, .slice none 0 0] 34)).drew.heap.size := Nat.lt_of_lt_of_le (show b1 < w1.heap.size by omega) hbz.size
    have HBZ := Lib.hid hbz
    have HB3 := Lib.hid B3
    clear hbz B3 bz
    go_region_held3 (fun w' => w'.cell? ⟨b1, off, none⟩ = some (.int .i64 p0) ∧ w'.cell? ⟨b1, off + 1, none⟩ = some (.int .i64 p1)) (with_reducible first | exact ⟨a0', a1'⟩ | exact ⟨h0, h1⟩ | (refine ⟨?_, ?_⟩ <;> assumption) | go_keep)
      (first
        | (go_at_call 96; (with_reducible refine (l1Own_any _ _ _ R2 hm3).mono ?_); rintro e w3 ⟨u, rfl, ho, hb3⟩; have d0 := (hb3.cell (p := ⟨b1, off, none⟩) (by show b1 < _; omega)).trans a0'; have d1 := (hb3.cell (p := ⟨b1, off + 1, none⟩) (by show b1 < _; omega)).trans a1'; have n30 := World.new_ne w3 _ d0; have n31 := World.new_ne w3 _ d1; obtain ⟨A3, c3, rfl, _, _⟩ := ho.ri)
        | (go_at_call 96; (with_reducible refine (l1Own_any _ _ _ R3 hm3).mono ?_); rintro e w3 ⟨u, rfl, ho, hb3⟩; have d0 := (hb3.cell (p := ⟨b1, off, none⟩) hbz1).trans h0; have d1 := (hb3.cell (p := ⟨b1, off + 1, none⟩) hbz1).trans h1; have z3 := HB3.out.step hb3; have q0 := z3.cell 0; have q1 := z3.cell 1; have q2 := z3.cell 2; have q3 := z3.cell 3; have r0 := z3.free 0; have r1 := z3.free 1; have r2 := z3.free 2; have r3 := z3.free 3; simp at q0 q1 q2 q3; obtain ⟨A3, c3, rfl, _, _⟩ := ho.ri))
    · go_wp2_with fail
      go_meet
      have q1 := hb3.size
      have hba : Below w3.heap.size w3 (w3.alloc (.cells #[.int .i64 (p0 / 16), .int .i64 (p0 % 16), .int .i64 (p1 / 32), .slice A3 D.length c3] 34)) := (Below.refl _ _).alloc (Nat.le_refl _) _
      have hb3' : Below w1.heap.size w1 w3 := (Below.refl _ _).drew.trans hb3
      exact ⟨_, _, rfl, BK.made w3 _ _, (ho.step hba).wide hq1 hba.size, hb3'.trans (hba.mono q1), q1⟩
    · go_wp2_with fail
      go_meet
      have q1 := hb3.size
      have z3 := HB3.out.step hb3
      have hb3' : Below w1.heap.size w1 w3 := HBZ.out.drew.trans (hb3.mono HBZ.out.size)
      have q2 : (w1.alloc (.cells #[.int .i64 0, .int .i64 0, .int .i64 0, .slice none 0 0] 34)).drew.heap.size = w1.heap.size + 1 := World.size_alloc _ _
      rw [q2] at ho q1
      have hwr := (((((Wr.refl w1.heap.size (w1.heap.size + 1) w3).setCell (p := ⟨w1.heap.size, 0, none⟩) (by simp) (by simp) (.int .i64 (p0 / 16))).setCell (p := ⟨w1.heap.size, 1, none⟩) (by simp) (by simp) (.int .i64 (p0 % 16))).setCell (p := ⟨w1.heap.size, 2, none⟩) (by simp) (by simp) (.int .i64 (p1 / 32))).setCell (p := ⟨w1.heap.size, 3, none⟩) (by simp) (by simp) (.slice A3 D.length c3))
      exact ⟨_, _, rfl, ((((z3.put 0 _).put 1 _).put 2 _).put 3 _), (ho.far hwr (.inr (Nat.le_refl _))).wide (by omega) hwr.size, hb3'.trans (hwr.below (Nat.le_refl _) (by omega)), Nat.le_refl _⟩
  case rest =>
    obtain ⟨g, s3, rfl, bg, og, hbx, hgl⟩ := hcut
    obtain ⟨A3, c3, rfl, _, _⟩ := og.ri
    have T := t1.trans (hbx.mono t1.size)
    have x2 := x1.step hbx
    have hnD : (⟨p0 / 16, p0 % 16, p1 / 32, D⟩ : Fr).d.length ≤ 1048576 := by show D.length ≤ _; omega
    have RFD : RF wc wc.heap.size (.agg #[.int .i64 (p0 / 16), .int .i64 (p0 % 16), .int .i64 (p1 / 32), .slice A3 D.length c3]) ⟨p0 / 16, p0 % 16, p1 / 32, D⟩ := ⟨_, rfl, og.ri⟩
    have u0 := bg.cell 0
    have u1 := bg.cell 1
    have u2 := bg.cell 2
    have u3 := bg.cell 3
    simp at u0 u1 u2 u3
    clear x1 t1 hbx j0 j1
    go_wp2_with fail
    refine (frGood_any _ ⟨p0 / 16, p0 % 16, p1 / 32, D⟩ _ RFD hnD).mono ?_; rintro e w5 ⟨rfl, hb5⟩
    have g5 := bg.step hb5
    have x5 := x2.step hb5
    have o5 := og.step hb5
    have t5 := T.trans (hb5.mono T.size)
    have s5 := hb5.size
    have ga := g5.cell 0
    have gb := g5.cell 1
    have gc := g5.cell 2
    have gd := g5.cell 3
    have xa := x5.cell 0
    have xb := x5.cell 1
    have xc := x5.cell 2
    have xd := x5.cell 3
    have fa := x5.free 0
    have fb := x5.free 1
    have fc := x5.free 2
    have fd := x5.free 3
    simp at ga gb gc gd xa xb xc xd
    cases hF : isFr ⟨p0 / 16, p0 % 16, p1 / 32, D⟩
    · have HXB : Hid (X1 = frZero ∧ X2 = false) := by
        have h5 := HX.out
        rw [frameOf_no (fun hk => by have h6 := (OKN.out hk).2.2; rw [hF] at h6; cases h6)] at h5
        injection h5 with h5 h6
        exact ⟨h5, h6⟩
      have HFIN := Lib.hid (HZ.out _ x5 t5)
      obtain ⟨rfl, rfl⟩ := HXB.out
      clear bg og RFD u0 u1 u2 u3 x2 T hb5 g5 x5 o5 t5
      go_wp2_with fail
      refine bodyPost_ret (v := .tuple #[frV frZero (.slice none 0 0), .bool false]) (by simp [results, Try.results75, go_sem, frV, frZero, xa, xb, xc, xd]) rfl ⟨_, rfl, of_zero _ _ _ _, ?_⟩
      exact HFIN.out
    · have HXB : Hid (X1 = ⟨p0 / 16, p0 % 16, p1 / 32, D⟩ ∧ X2 = true) := by
        have h5 := HX.out
        rw [frameOf_yes (OKF.out hC HQ.out hF), HM.out] at h5
        injection h5 with h5 h6
        exact ⟨h5, h6⟩
      have hwr := (((((Wr.refl w.heap.size (w.heap.size + 1) w5).setCell (p := ⟨w.heap.size, 0, none⟩) (by simp) (by simp) (.int .i64 (p0 / 16))).setCell (p := ⟨w.heap.size, 1, none⟩) (by simp) (by simp) (.int .i64 (p0 % 16))).setCell (p := ⟨w.heap.size, 2, none⟩) (by simp) (by simp) (.int .i64 (p1 / 32))).setCell (p := ⟨w.heap.size, 3, none⟩) (by simp) (by simp) (.slice A3 D.length c3))
      have HFO := Lib.hid ((o5.far hwr (.inr (Nat.le_refl _))).wide (lo' := w.heap.size) (by omega) (Nat.le_trans s5 hwr.size))
      have HFB := Lib.hid (t5.trans (hwr.below (Nat.le_refl _) (by have := t5.size; omega)))
      obtain ⟨rfl, rfl⟩ := HXB.out
      clear bg og RFD u0 u1 u2 u3 x2 T hb5 g5 x5 o5 t5 hwr
      go_wp2_with fail
      refine bodyPost_ret (v := .tuple #[frV ⟨p0 / 16, p0 % 16, p1 / 32, D⟩ (.slice A3 D.length c3), .bool true]) (by simp [results, Try.results75, go_sem, frV, xa, xb, xc, xd]) rfl ⟨_, rfl, ⟨_, rfl, HFO.out⟩, HFB.out⟩
theorem specFrameOf_any (v : Value) (l : List Int) (w : World) (h : RI w w.heap.size v l) (hn : l.length ≤ 1048576) :
    Calls Try.prog 42 #[v] w (RetFB 3 w (frameOf l).1 (frameOf l).2) := by
  have hb0 : Below w.heap.size w (w.alloc (.cells #[.int .i64 0, .int .i64 0, .int .i64 0, .slice none 0 0] 34)) := (Below.refl _ _).alloc (Nat.le_refl _) _
  have x0 := BK.made w 34 #[.int .i64 0, .int .i64 0, .int .i64 0, .slice none 0 0]
  have r1 := (h.below hb0).more hb0.size
  cases hA : areB l
  · rw [frameOf_no (fun hk => by have := hk.1; rw [hA] at this; cases this)]
    go_enter Try.func42, Try.ntmps42
    go_wp2_with fail
    refine (frBytes_any _ l _ r1 hn).mono ?_; rintro e w' ⟨rfl, rfl⟩
    go_wp2_with fail
    refine bodyPost_ret (v := .tuple #[frV frZero (.slice none 0 0), .bool false]) (by simp [results, Try.results42, go_sem, frV, frZero]) rfl ⟨_, rfl, of_zero _ _ _ _, hb0⟩
  · obtain ⟨X1, X2, hX⟩ : ∃ X1 X2, (X1, X2) = frameOf l := ⟨_, _, rfl⟩
    have HF := Lib.hid (frOf_any v l _ r1 hA)
    rw [← hX] at HF ⊢
    obtain ⟨f, t, p, d⟩ := X1
    clear hX
    go_enter Try.func42, Try.ntmps42
    go_wp2_with fail
    refine (frBytes_any _ l _ r1 hn).mono ?_; rintro e w' ⟨rfl, rfl⟩
    go_wp2_with fail
    refine HF.out.mono ?_; rintro e w2 ⟨u, rfl, ho, hb2⟩
    obtain ⟨s, rfl, ho⟩ := ho
    obtain ⟨A3, c3, rfl, _, _⟩ := ho.ri
    have x2 := x0.step hb2
    have t2 := hb0.trans (hb2.mono hb0.size)
    have s2 := hb2.size
    have xa := x2.cell 0
    have xb := x2.cell 1
    have xc := x2.cell 2
    have xd := x2.cell 3
    have fa := x2.free 0
    have fb := x2.free 1
    have fc := x2.free 2
    have fd := x2.free 3
    simp at xa xb xc xd
    have z1 : (w.alloc (.cells #[.int .i64 0, .int .i64 0, .int .i64 0, .slice none 0 0] 34)).heap.size = w.heap.size + 1 := World.size_alloc _ _
    rw [z1] at ho
    have hwr := (((((Wr.refl w.heap.size (w.heap.size + 1) w2).setCell (p := ⟨w.heap.size, 0, none⟩) (by simp) (by simp) (.int .i64 f)).setCell (p := ⟨w.heap.size, 1, none⟩) (by simp) (by simp) (.int .i64 t)).setCell (p := ⟨w.heap.size, 2, none⟩) (by simp) (by simp) (.int .i64 p)).setCell (p := ⟨w.heap.size, 3, none⟩) (by simp) (by simp) (.slice A3 d.length c3))
    have HFO := Lib.hid ((ho.far hwr (.inr (Nat.le_refl _))).wide (lo' := w.heap.size) (by omega) hwr.size)
    have HFB := Lib.hid (t2.trans (hwr.below (Nat.le_refl _) t2.size))
    clear ho hwr t2 x2 hb2 hb0 x0 r1 s2 z1
    simp only [frV]
    go_wp2_with fail
    refine bodyPost_ret (v := .tuple #[frV ⟨f, t, p, d⟩ (.slice A3 d.length c3), .bool X2]) (by simp [results, Try.results42, go_sem, frV, xa, xb, xc, xd]) rfl ⟨_, rfl, ⟨_, rfl, HFO.out⟩, HFB.out⟩
end Go.Proofs.Ytaokdocflbabjaa
