/-
  A frame as the laws' inputs are drawn: sureFrame.
-/
import Derived.Test.YtkmopfgeenadgaaSureP
namespace Go.Proofs.Ytkmopfgeenadgaa
open Go.RowKit Go.Conc
set_option maxRecDepth 100000
set_option linter.unusedVariables false
/-- What a draw of a frame leaves. -/
def RetFrC (m : Nat) (g B n k : Nat) (w : World) (e : Ending) (w' : World) : Prop :=
  ∃ (u : Value) (x : Fr), e = .returned u ∧ isFr x = true ∧ x.d.length ≤ m ∧ OF 3 w' w.heap.size w'.heap.size u x ∧ CurAt w' g B n k ∧ Wr g (g + 1) w w'
set_option maxHeartbeats 8000000 in
theorem sureFrame_any (g B n k most : Nat) (w : World) (h : CurAt w g B n k) (hk : k ≤ 10000000) (hn : n ≤ 1048576) (hm : most ≤ 10) :
    Calls Try.prog 43 #[.pointer (some ⟨g, 0, none⟩), .int .i64 12, .int .i64 most] w (RetFrC most g B n (k + 100) w) := by
  obtain ⟨i0, hi, hz0, hz1, hz2⟩ := info_parts int_info
  have hgw := h.lt
  have hm' : (most : Int) ≤ 10 := by omega
  have bR := BK.made w 46 #[.int .i64 0, .int .i64 0, .int .i64 0, .slice none 0 0]
  have h0 := h.below ((Below.refl _ _).alloc (Nat.le_refl _) (.cells #[.int .i64 0, .int .i64 0, .int .i64 0, .slice none 0 0] 46)) hgw
  have g0 : Wr g (g + 1) w (w.alloc (.cells #[.int .i64 0, .int .i64 0, .int .i64 0, .slice none 0 0] 46)) := Wr.of_below ((Below.refl _ _).alloc (Nat.le_refl _) _) _ _
  go_enter Try.func43, Try.ntmps43
  go_wp2_with fail
  refine (pick_any g B n _ 12 _ h0 (by omega) hn (by omega) (by omega)).mono ?_; rintro e w1 ⟨a, rfl, a0, a1, h1, g1⟩
  go_wp2_with fail
  refine (pick_any g B n _ 12 _ h1 (by omega) hn (by omega) (by omega)).mono ?_; rintro e w2 ⟨b, rfl, b0, b1, h2, g2⟩
  go_wp2_with fail
  refine (pick_any g B n _ 8 _ h2 (by omega) hn (by omega) (by omega)).mono ?_; rintro e w3 ⟨c, rfl, c0, c1, h3, g3⟩
  have g03 := ((g0.trans g1).trans g2).trans g3
  have bR3 := ((bR.far g1 (.inr (by omega))).far g2 (.inr (by omega))).far g3 (.inr (by omega))
  have hs3 : w.heap.size + 1 ≤ w3.heap.size := by
    have := (g1.trans (g2.trans g3)).size
    simpa using this
  have bG := BK.made w3 46 #[.int .i64 a, .int .i64 b, .int .i64 c, .slice none 0 0]
  have hal : Below w3.heap.size w3 (w3.alloc (.cells #[.int .i64 a, .int .i64 b, .int .i64 c, .slice none 0 0] 46)) := (Below.refl _ _).alloc (Nat.le_refl _) _
  have h4 := h3.below hal h3.lt
  have g04 := g03.and_below hal (by omega)
  have bR4 := bR3.step hal
  have hs4 : (w3.alloc (.cells #[.int .i64 a, .int .i64 b, .int .i64 c, .slice none 0 0] 46)).heap.size = w3.heap.size + 1 := by simp
  have ha4 := Acc.nil 3 (w3.alloc (.cells #[.int .i64 a, .int .i64 b, .int .i64 c, .slice none 0 0] 46)) (w3.heap.size + 1)
  have hm1 : (1 : Int) ≤ (most : Int) + 1 := by omega
  have hm2 : (most : Int) + 1 ≤ 1000000 := by omega
  clear h h0 h1 h2 g1 g2 g3 bR bR3 g0 hal h3 g03
  go_wp2_with fail
  refine (pick_any g B n _ _ _ h4 (by omega) hn hm1 hm2).mono ?_; rintro e w5 ⟨q, rfl, q0, q1, h5, g5⟩
  obtain ⟨q, rfl⟩ := Int.eq_ofNat_of_zero_le q0
  have hq : q ≤ most := by omega
  have bG5 := bG.far g5 (.inr (by omega))
  have bR5 := bR4.far g5 (.inr (by omega))
  have ha5 := ha4.farC g5 (by omega)
  have g05 := g04.trans g5
  have hs5 : w3.heap.size + 1 ≤ w5.heap.size := by have := g5.size; omega
  clear h4 g5 bG bR4 ha4 g04 hs4 q0 q1
  have HS3 := Lib.hid hs3
  go_wp2_with fail
  go_loopw [8] (fun i wr => ∃ (m r : Nat) (s : Value) (L : List Int), m + r ≤ most ∧ L.length = m ∧ okAll 0 255 L = true ∧ i = .int .i64 r ∧ BK wr w3.heap.size 46 #[.int .i64 a, .int .i64 b, .int .i64 c, s] ∧ Acc 3 wr (w3.heap.size + 1) s L ∧ BK wr w.heap.size 46 #[.int .i64 0, .int .i64 0, .int .i64 0, .slice none 0 0] ∧ CurAt wr g B n (k + 8 + 6 * m) ∧ Wr g (g + 1) w wr ∧ w3.heap.size + 1 ≤ wr.heap.size) (fun i _ => (intOf i).toNat)
  case atStart => exact ⟨0, q, _, [], by omega, rfl, by simp [okAll], rfl, bG5, ha5, bR5, h5, g05, hs5⟩
  case round =>
    obtain ⟨m, r, s, L, hmr, hLm, hLB, rfl, hG, hA, hR, hC, hW, hS⟩ := hrel
    by_cases hr : 0 < r
    · have hr' : (0 : Int) < (r : Int) := by omega
      have HLm := Lib.hid hLm
      have HLB := Lib.hid hLB
      have HLL : Hid (L.length ≤ 10) := by show L.length ≤ 10; omega
      clear hLm hLB
      obtain ⟨As, cs, rfl, _, _⟩ := hA.oi.ri
      have HV : Hid (∃ v, v = Value.slice As L.length cs) := ⟨_, rfl⟩
      go_upto_region 5 with fail
      refine wp_region_rowE (by kernel_rfl) (by kernel_rfl) 26 7 none (by kernel_rfl) (by decide) (by simp) (fun d hd => by cases hd) (fun D V w' => PF 46 3 w w.heap.size w3.heap.size (w3.heap.size + 1) g B n (k + 8 + 6 * m) a b c (.slice As L.length cs) L D V w') ?_ ?_ ?_
      · have hb := (Below.refl wr.heap.size wr).drew
        exact fun V => ⟨hW.trans (Wr.of_below hb _ _), Nat.le_trans hS hb.size, by simpa using hC.below hb hC.lt, hR.step hb, fun h => by simp at h, fun h => by simp at h, hG.step hb, hA.stepF hb, fun h => by simp at h, fun h => by simp at h, fun h => by simp at h, fun h => by simp at h, fun h => by simp at h, fun h => by simp at h⟩
      · intro D D' V ev w' i hi' hdd hpre hD' hev hec hef hW'
        have e7 := hev 7
        have e9 := hev 28
        simp at e7
        have hi8 : i < 8 := hi'
        match i, hi8 with
        | 0, _ => exact .value _ w' (by simp [go_sem, execOp, e7]; try rfl) (hW'.put hD' (by simp))
        | 1, _ =>
          have p0 : D 0 = true := hpre ⟨0, .data⟩ (by simp) rfl
          have f0 := hev 26
          simp [p0] at f0
          rw [hW'.v0 p0] at f0
          obtain ⟨h5, h7⟩ := hW'.no hdd (.inl rfl)
          have c1 := hW'.str.cell 3
          rw [h7] at c1
          simp at c1
          exact .value (.slice As L.length cs) w' (by simp [go_sem, execOp, f0, c1]; try rfl) (hW'.put hD' (by simp))
        | 2, _ =>
          have e0 := hev 0
          simp at e0
          exact .value _ w' (by simp [go_sem, execOp, e0]; try rfl) (hW'.put hD' (by simp))
        | 3, _ =>
          have p2 : D 2 = true := hpre ⟨2, .data⟩ (by simp) rfl
          have f2 := hev 28
          simp [p2] at f2
          rw [hW'.v2 p2] at f2
          have hcur := hW'.cur
          rw [hdd] at hcur
          simp only [Bool.false_eq_true, if_false] at hcur
          refine .call 44 #[.pointer (some ⟨g, 0, none⟩)] w' ((run_call_any (f := 44) (ρ := ev) (args := #[.tmp 28]) (ats := #[33]) rfl (hef _) Try.func44 (by kernel_rfl) rfl).trans (by simp [f2])) ((byteOf_any g B n _ w' hcur (by omega) hn).mono ?_)
          rintro e w'' ⟨x, rfl, x0, x1, hc'', hw''⟩
          exact ⟨_, rfl, hW'.call hdd hD' hgw (by omega) (by omega) ⟨x0, x1⟩ hc'' hw''⟩
        | 4, _ =>
          have p3 : D 3 = true := hpre ⟨3, .data⟩ (by simp) rfl
          have f3 := hev 29
          simp [p3] at f3
          obtain ⟨x, hx, x0, x1⟩ := hW'.v3 p3
          rw [hx] at f3
          exact .value _ (w'.alloc (.cells #[.int .i64 x] 3)) (by simp [go_sem, execOp, f3]; try rfl) (hW'.lit hdd hD' ⟨x0, x1⟩ hgw)
        | 5, _ =>
          have p1 : D 1 = true := hpre ⟨1, .data⟩ (by simp) rfl
          have p4 : D 4 = true := hpre ⟨4, .data⟩ (by simp) rfl
          have f1 := hev 27
          have f4 := hev 30
          simp [p1, p4] at f1 f4
          rw [hW'.v1 p1] at f1
          obtain ⟨bb, x, hb1, hb2, hx, _⟩ := hW'.v4 p4 hdd
          rw [hb1] at f4
          have ho := hW'.own
          rw [hdd] at ho
          simp only [Bool.false_eq_true, if_false] at ho
          obtain ⟨v', w'', hr, q1, q2, _⟩ := run_append_own (P := Try.prog) w' (w3.heap.size + 1) 24 24 3 i0 (.int .i64 0) 1 8 Try.underlying24 hi hz0 hz1 hz2 rfl (by decide) (.slice As L.length cs) L.length (ics L) ho ⟨bb, 0, none⟩ 1 1 [.int .i64 x] rfl
            (fun j u hj => by
              match j, hj with
              | 0, hj => simp at hj; subst hj; have := hb2.cell 0; simpa [addr_add] using this
              | j + 1, hj => simp at hj) (fun u hu => by simp at hu; subst hu; rfl) (by have := HLL.out; unfold maxLen; omega) (by have := HLL.out; omega) hW'.big
          have ha : Acc 3 w'' (w3.heap.size + 1) v' (L ++ [x]) := by
            unfold Acc
            rw [List.length_append, show ics (L ++ [x]) = ics L ++ [.int .i64 x] from by simp [ics]]
            exact q1
          exact .value v' w'' (run_appF (s := .tmp 27) (x := .tmp 30) (t := 24) rfl f1 f4 hr) (hW'.app hdd p1 p4 hD' (by omega) (by omega) (by omega) hx (by omega) ha q2)
        | 6, _ => exact .value _ w' (by simp [go_sem, execOp, e7]; try rfl) (hW'.put hD' (by simp))
        | 7, _ =>
          have p5 : D 5 = true := hpre ⟨5, .data⟩ (by simp) rfl
          have p6 : D 6 = true := hpre ⟨6, .data⟩ (by simp) rfl
          have f5 := hev 31
          have f6 := hev 32
          simp [p5, p6] at f5 f6
          rw [hW'.v6 p6] at f6
          have c1 := hW'.str.cell 3
          have z1 := hW'.str.free 3
          rw [hdd] at c1
          simp at c1
          have ho := hW'.own
          rw [p5] at ho
          simp only [if_true] at ho
          obtain ⟨y, hy, ho⟩ := ho
          obtain ⟨A5, c5, hv5, _, _⟩ := ho.oi.ri
          have hsto := hW'.sto (v := undef) hdd p5 hD' (by omega) (by omega) (by omega) hgw
          rw [hv5] at f5 hsto
          exact .skip (w'.setCell ⟨w3.heap.size, 3, none⟩ (.slice A5 (L ++ [y]).length c5)) (by simp [go_sem, execOp, f5, f6, c1, z1]; try rfl) hsto
      · intro D V w' hall hW'
        have h5 := hall 5 (by decide)
        have h7 := hall 7 (by decide)
        have h3 := hall 3 (by decide)
        have hs := hW'.str
        have ho := hW'.own
        have hcu := hW'.cur
        rw [h7] at hs
        rw [h5] at ho
        rw [h3] at hcu
        simp only [if_true] at hs ho hcu
        obtain ⟨y, hy, ho⟩ := ho
        have HW2 := Lib.hid hW'.wr
        have HR2 := Lib.hid hW'.res
        have HB2 := Lib.hid hW'.big
        have HO2 := Lib.hid ho
        have HG2 := Lib.hid hs
        have HC2 := Lib.hid hcu
        clear hW' hs ho hcu
        simp only [putAll, Act.put, Nat.reduceAdd, List.setIfInBounds_toArray, List.set_cons_succ, List.set_cons_zero]
        refine ‹∀ (a : Act) (w : World), _ → _› _ _ ?_
        go_wp2_with fail
        go_roundw
        case rel => first | exact ⟨m + 1, r - 1, V 5, L ++ [y], by omega, by rw [List.length_append, HLm.out]; rfl, okAll_iff.2 (fun z hz => by rcases List.mem_append.1 hz with hz | hz; exact okAll_iff.1 HLB.out z hz; simp at hz; subst hz; exact hy), by go_num, HG2.out, HO2.out, HR2.out, HC2.out.more (by omega), HW2.out, HB2.out⟩ | exact ⟨m + 1, r - 1, V 5, L ++ [y], by omega, by rw [List.length_append, HLm.out]; rfl, okAll_iff.2 (fun z hz => by rcases List.mem_append.1 hz with hz | hz; exact okAll_iff.1 HLB.out z hz; simp at hz; subst hz; exact hy), by omega, HG2.out, HO2.out, HR2.out, HC2.out.more (by omega), HW2.out, HB2.out⟩
        case measure => simp [intOf]; omega
    · obtain rfl : r = 0 := by omega
      obtain ⟨As, cs, rfl, _, _⟩ := hA.oi.ri
      have c0' := hG.cell 0
      have c1' := hG.cell 1
      have c2' := hG.cell 2
      have c3' := hG.cell 3
      have d0 := hR.cell 0
      have d1 := hR.cell 1
      have d2 := hR.cell 2
      have d3 := hR.cell 3
      have z0 := hR.free 0
      have z1 := hR.free 1
      have z2 := hR.free 2
      have z3 := hR.free 3
      simp at c0' c1' c2' c3' d0 d1 d2 d3
      have HLm := Lib.hid hLm
      have HLB := Lib.hid hLB
      clear hLm hLB
      have hBg : B ≤ g := hC.1
      have HM9 := Lib.hid (show m ≤ most by omega)
      go_wp2_with fail
      have gz : Wr w.heap.size (w.heap.size + 1) wr ((((wr.setCell ⟨w.heap.size, 0, none⟩ (.int .i64 a)).setCell ⟨w.heap.size, 1, none⟩ (.int .i64 b)).setCell ⟨w.heap.size, 2, none⟩ (.int .i64 c)).setCell ⟨w.heap.size, 3, none⟩ (.slice As L.length cs)) :=
        ((((Wr.refl _ _ _).setCell (p := ⟨w.heap.size, 0, none⟩) (Nat.le_refl _) (Nat.lt_succ_self _) _).setCell (p := ⟨w.heap.size, 1, none⟩) (Nat.le_refl _) (Nat.lt_succ_self _) _).setCell (p := ⟨w.heap.size, 2, none⟩) (Nat.le_refl _) (Nat.lt_succ_self _) _).setCell (p := ⟨w.heap.size, 3, none⟩) (Nat.le_refl _) (Nat.lt_succ_self _) _
      refine bodyPost_ret (v := frV ⟨a, b, c, L⟩ (.slice As L.length cs)) (by simp [results, Try.results43, go_sem, frV, d0, d1, d2, d3]) rfl ⟨_, ⟨a, b, c, L⟩, rfl, ?_, ?_, ⟨_, rfl, (hA.oi.far gz (.inr (by omega))).wide (by omega) gz.size⟩, (hC.far gz (.inl hgw) (Nat.le_trans hBg (Nat.le_of_lt hgw))).more (by have := HM9.out; omega), hW.and_below (lo := w.heap.size) (gz.below (B := w.heap.size) (Nat.le_refl _) (by omega)) (Nat.le_refl _)⟩
      · have h1 := HLB.out
        have h2 := HLm.out
        have h3 := HM9.out
        simp only [isFr, wi, Bool.and_eq_true, decide_eq_true_eq]
        exact ⟨⟨a0, by omega⟩, ⟨b0, by omega⟩, ⟨c0, by omega⟩, by omega, h1⟩
      · have := HLm.out; have := HM9.out; show L.length ≤ most; omega
end Go.Proofs.Ytkmopfgeenadgaa
