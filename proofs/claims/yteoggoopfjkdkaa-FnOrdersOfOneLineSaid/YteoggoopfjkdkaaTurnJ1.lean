/-
  Classes that take turns, the program's side: the search for a turn, at one price.
-/
import Derived.Test.YteoggoopfjkdkaaTurnJ
import Derived.Deep.LoopGhost
import Derived.Deep.RegionWith
import Derived.Deep.DeepCutAuto
import Derived.WalkMore
namespace Go.Proofs.Yteoggoopfjkdkaa
open Go.RowKit
set_option maxRecDepth 100000
set_option linter.unusedVariables false

set_option maxHeartbeats 16000000 in
theorem inTurn1_any (lo g : Nat) (T step : Int) (tc : Nat) (tb : Bool) (vg : Value) (cr : Nat → Int) (l : List Jb) (gr : List Int) (f f0 : Nat) (w : World) (h : LN w lo g T step (tc : Nat) tb vg (.func (.func 42) #[] #[]) cr l) (hn : l.length ≤ 20)
    (hf0 : Fst T l f0) (hT : tickOf T l = T) (htc : tc < 8) (hg : RI w lo vg gr) (hgl : gr.length = 8) (hlg : lo ≤ g) (hgb : ∀ c, c < 8 → 1 ≤ gr.getD c 0 ∧ gr.getD c 0 ≤ 40) (hcb : Cb f cr) (hf4 : f ≤ 4000) (hfu : FuN f T l tc tb cr) (hok : JbOk l) :
    Calls Try.prog 64 #[.pointer (some ⟨g, 0, none⟩)] w (RetTurn gr pr1 f lo g T step tc tb vg (.func (.func 42) #[] #[]) cr l w) := by
  have HOKJ := Lib.hid hok
  have HPB : Hid (∀ k, k < l.length → isW T l[k]! = true → 0 ≤ pr1 l[k]! ∧ pr1 l[k]! ≤ 20) := fun k hk hw => by simp [pr1]
  have HCL : Hid (∀ k, k < l.length → isW T l[k]! = true → 0 ≤ l[k]!.c ∧ l[k]!.c ≤ 7) := fun k hk hw => by have := HOKJ.out k hk (isW_t.1 hw).1; omega
  have HFST := Lib.hid hf0
  have HCNT : Hid (cntJ l ≠ 0) := by have := isW_cnt hf0.1 hf0.2.1; show _ ≠ _; omega
  have HTT := Lib.hid hT
  have HGR := Lib.hid hg
  have HGB := Lib.hid hgb
  have hgw := h.lt
  have HL0 := Lib.hid h
  have HCB := Lib.hid hcb
  have HFU := Lib.hid hfu
  have HTC := Lib.hid htc
  have hv : ∃ A c, w.cell? ⟨g, 1, none⟩ = some (.slice A l.length c) := by
    obtain ⟨cs, v, h1, h2, h3⟩ := h.cells
    obtain ⟨A, c, hv, _⟩ := h3.rk
    exact ⟨A, c, ((h1.cell 1).trans h2.left).trans (by rw [hv])⟩
  clear hv
  obtain ⟨n, hN⟩ : ∃ n, l.length = n := ⟨_, rfl⟩
  have HN := Lib.hid hN
  clear h hok hf0 hT hg hgb hcb hfu hN htc
  go_enter Try.func64, Try.ntmps64
  go_wp2_with fail
  go_step3
  go_wp2_with fail
  go_step3
  go_wp2_with fail
  go_loopg [4] f (fun fk s wr => ∃ (tx : Nat) (bx : Bool) (cx : Nat → Int), tx < 8 ∧ fk ≤ f ∧ Cb fk cx ∧ FuN fk T l tx bx cx ∧ Hid (∀ out, runT gr pr1 f T l out tc tb cr = runT gr pr1 fk T l out tx bx cx) ∧
    LN wr lo g T step (tx : Nat) bx vg (.func (.func 42) #[] #[]) cx l ∧ Wr g (g + 1) w wr)
  case atStart => exact ⟨tc, tb, cr, HTC.out, Nat.le_refl _, HCB.out, HFU.out, fun out => rfl, HL0.out, Wr.refl _ _ _⟩
  case round =>
    obtain ⟨tx, bx, cx, htx, hfk, hcx, hfx, heq, hlx, hwx⟩ := hrel
    obtain ⟨f1, rfl⟩ := hfx.pos HFST.out
    have hsw := hwx.size
    have HBEG := Lib.hid (turnBegin_any lo g T step tx bx vg _ cx l gr wr hlx htx (HGR.out.below (hwx.below hlg (by omega))) hgl hlg (fun c hc => by have := hcx c hc; omega) HGB.out)
    have HEQ : Hid (∀ out, runT gr pr1 f T l out tc tb cr = stepR gr pr1 (runT gr pr1 f1) T l out tx bx cx) := fun out => by
      obtain ⟨n1, n2, n3⟩ := norm_at HTT.out tx bx cx
      rw [heq.out out, runT_on _ _ _ _ _ _ _ _ _ HCNT.out, HTT.out, n1, n2, n3]
    have HC1 := Lib.hid (crB_bd (gr := gr) (tb := bx) HGB.out htx hcx)
    have HON := Lib.hid (fun (cr' : Nat → Int) hcr => FuN.on (pr := pr1) (cr' := cr') hfx HGB.out htx HCL.out (fun k hk hw => (HPB.out k hk hw).2) hcr)
    have HBG2 := Lib.hid (fun (T' : Int) (tc' : Nat) (cr' : Nat → Int) (i : Nat) (hi : i < l.length) (hw : isJ l[i]! = true) (hc : ∀ c, c < 8 → 0 ≤ cr' c) => FuN.begin2 (T' := T') (tc' := tc') (tb' := true) (cr' := cr') hfx HFST.out hi hw (fun k hk hj => by have := (HOKJ.out.set i hi) k (by rw [List.length_set]; exact hk) hj; omega) hc)
    have HWX := Lib.hid hwx
    have HFK := Lib.hid hfk
    have HEN : Hid (firstC T tx l = none → ∀ out, runT gr pr1 f T l out tc tb cr = runT gr pr1 f1 T l out (nextC tx) false (setC (crB gr tx bx cx) tx 0)) := fun h1 out => by
      rw [HEQ.out out, stepR, h1]
    have HEO : Hid (∀ i, firstC T tx l = some i → crB gr tx bx cx tx < pr1 l[i]! → ∀ out, runT gr pr1 f T l out tc tb cr = runT gr pr1 f1 T l out (nextC tx) false (crB gr tx bx cx)) := fun i h1 h2 out => by
      rw [HEQ.out out, stepR, h1]
      simp only
      rw [if_pos h2]
    have HEG : Hid (∀ i, firstC T tx l = some i → pr1 l[i]! ≤ crB gr tx bx cx tx → ∀ out, runT gr pr1 f T l out tc tb cr = runT gr pr1 f1 (T + l[i]!.l) (l.set i jbZ) (out.set i T) tx true (setC (crB gr tx bx cx) tx (crB gr tx bx cx tx - pr1 l[i]!))) := fun i h1 h2 out => by
      rw [HEQ.out out, stepR, h1]
      simp only
      rw [if_neg (by omega)]
    clear heq HEQ hcx hfx
    generalize crB gr tx bx cx = c1 at HBEG HC1 HON HEN HEO HEG
    go_wp2_with fail
    refine HBEG.out.mono ?_; rintro e w2 ⟨rfl, hl2, hw2⟩
    have HW2 := Lib.hid (HWX.out.trans hw2)
    have HL2 := Lib.hid hl2
    have hg2 := hl2.lt
    obtain ⟨d0, d3, d4, d5, d6, dd, dz⟩ := hl2.at
    have d7 := dd tx htx
    have hjc : ∃ A c, w2.cell? ⟨g, 1, none⟩ = some (.slice A n c) ∧ ∀ m, m < n → ∃ b off, A = some ⟨b, off, none⟩ ∧ b < g ∧ w2.cell? ⟨b, off + m * 3, none⟩ = some (.int .i64 l[m]!.t) ∧ w2.cell? ⟨b, off + m * 3 + 1, none⟩ = some (.int .i64 l[m]!.c) ∧ w2.cell? ⟨b, off + m * 3 + 2, none⟩ = some (.int .i64 l[m]!.l) := by
      obtain ⟨cs, v, h1, h2, h3⟩ := hl2.cells
      obtain ⟨A, c, hv, _⟩ := id h3.rk
      refine ⟨A, c, ((h1.cell 1).trans h2.left).trans (by rw [hv, HN.out]), fun m hm => ?_⟩
      obtain ⟨b, off, c9, hv9, hb, e0, e1, e2⟩ := left_cells h3.rk m (by rw [HN.out]; exact hm)
      rw [hv] at hv9
      injection hv9 with hA9
      exact ⟨b, off, hA9, hb, e0, e1, e2⟩
    obtain ⟨A, c, d1, hjc⟩ := hjc
    have HJC := Lib.hid hjc
    have HC1 := HC1
    clear hl2 hw2 hwx hlx HWX HBEG dd hjc
    clear d0 d4 d5 dz hsw
    have hn' : (n : Int) ≤ 20 := by have := HN.out; omega
    go_wp2_with fail
    go_loopg [18] n (fun fm i wq => ∃ m : Nat, m ≤ n ∧ fm = n - m ∧ i = .int .i64 m ∧ (∀ q, q < m → ¬ (isW T l[q]! = true ∧ l[q]!.c = tx)) ∧ Below w2.heap.size w2 wq)
    case atStart => exact ⟨0, Nat.zero_le _, rfl, rfl, fun q hq => absurd hq (by omega), Below.refl _ _⟩
    case round =>
      obtain ⟨m, hm, hgm, rfl, hno, hbm⟩ := hrel
      have HGM := Lib.hid hgm
      have HNO := Lib.hid hno
      have HBM := Lib.hid hbm
      have hs2 := hbm.size
      have g3 := (hbm.cell (p := ⟨g, 3, none⟩) hg2).trans d3
      have g1 := (hbm.cell (p := ⟨g, 1, none⟩) hg2).trans d1
      have g6 := (hbm.cell (p := ⟨g, 6, none⟩) hg2).trans d6
      have g7 := (hbm.cell (p := ⟨g, 7 + tx, none⟩) hg2).trans d7
      clear hgm hno
      by_cases hlt : m < n
      · have hmi : (m : Int) < (n : Int) := by omega
        obtain ⟨b, off, hAA, hb, e0, e1, e2⟩ := HJC.out m hlt
        subst hAA
        have y0 := (hbm.cell (p := ⟨b, off + m * 3, none⟩) (by simp; omega)).trans e0
        have y1 := (hbm.cell (p := ⟨b, off + m * 3 + 1, none⟩) (by simp; omega)).trans e1
        have y2 := (hbm.cell (p := ⟨b, off + m * 3 + 2, none⟩) (by simp; omega)).trans e2
        have hgw2 : g < wr.heap.size := by omega
        have HWT : Hid (∀ wx : World, Below wr.heap.size wr wx → Calls Try.prog 71 #[.pointer (some ⟨g, 0, none⟩), JbV l[m]!] wx (RetV wx (.bool (isW T l[m]!)))) := fun wx hx =>
          waits_any g T l[m]! wx ((hx.cell (p := ⟨g, 0, none⟩) (by simp; exact hgw2)).trans (((HL2.out.step HBM.out).at).1)) (Nat.lt_of_lt_of_le hgw2 hx.size)
        have HPR : Hid (∀ wx : World, Calls Try.prog 42 #[JbV l[m]!] wx (RetV wx (.int .i64 (pr1 l[m]!)))) := fun wx => asOne_any l[m]! wx
        have HBB : Hid (isW T l[m]! = true → 0 ≤ pr1 l[m]! ∧ pr1 l[m]! ≤ 20) := fun hw => HPB.out m (by rw [HN.out]; exact hlt) hw
        have HFI : Hid (isW T l[m]! = true → l[m]!.c = tx → firstC T tx l = some m) := fun hw hc => firstC_is (by rw [HN.out]; exact hlt) ⟨hw, hc⟩ HNO.out
        have HNX : Hid (¬ (isW T l[m]! = true ∧ l[m]!.c = tx) → ∀ q, q < m + 1 → ¬ (isW T l[q]! = true ∧ l[q]!.c = tx)) := fun h9 q hq => by
          by_cases e : q = m
          · rw [e]; exact h9
          · exact HNO.out q (by omega)
        have HEOM : Hid (firstC T tx l = some m → c1 tx < pr1 l[m]! → ∀ out, runT gr pr1 f T l out tc tb cr = runT gr pr1 f1 T l out (nextC tx) false c1) := HEO.out m
        have HEGM : Hid (firstC T tx l = some m → pr1 l[m]! ≤ c1 tx → ∀ out, runT gr pr1 f T l out tc tb cr = runT gr pr1 f1 (T + l[m]!.l) (l.set m jbZ) (out.set m T) tx true (setC c1 tx (c1 tx - pr1 l[m]!))) := HEG.out m
        have HONM : Hid (firstC T tx l = some m → c1 tx < pr1 l[m]! → FuN f1 T l (nextC tx) false c1) := fun h1 h2 => HON.out c1 (.inr ⟨m, h1, h2, rfl⟩)
        have HYL : Hid (∀ z, l[m]! = z → l[m]!.l = z.l) := fun z hz => by rw [hz]
        have HISJ : Hid (isW T l[m]! = true → isJ l[m]! = true) := fun hw => (isW_t.1 hw).1
        have HISW : Hid (isW T l[m]! = true → isW T l[m]! = true) := id
        clear e0 e1 e2
        obtain ⟨PV, hPV⟩ : ∃ x, pr1 l[m]! = x := ⟨_, rfl⟩
        rw [hPV] at HPR HBB HEOM HEGM HONM
        clear hPV
        generalize hyy : l[m]! = y at y0 y1 y2 HWT HPR HBB HFI HNX HEOM HEGM HYL HISJ HISW
        have HYY := Lib.hid hyy
        clear hyy
        obtain ⟨yt, yc, yl⟩ := y
        simp only [JbV] at y0 y1 y2 HWT HPR HFI HNX HEGM HYL
        have hbx : Below wr.heap.size wr (wr.alloc (.cells #[.int .i64 yt, .int .i64 yc, .int .i64 yl] 43)) := (Below.refl _ _).alloc (Nat.le_refl _) _
        have HBX := Lib.hid hbx
        have hBX := BK.made wr 43 #[.int .i64 yt, .int .i64 yc, .int .i64 yl]
        have HBKX := Lib.hid hBX
        have lz0 : wr.heap.size < (wr.alloc (.cells #[.int .i64 yt, .int .i64 yc, .int .i64 yl] 43)).heap.size := by simp
        have q3 := (World.cell?_alloc_lt wr (.cells #[.int .i64 yt, .int .i64 yc, .int .i64 yl] 43) ⟨g, 3, none⟩ hgw2).trans g3
        have HBM2 : Hid (Below w2.heap.size w2 (wr.alloc (.cells #[.int .i64 yt, .int .i64 yc, .int .i64 yl] 43))) := HBM.out.alloc hs2 _
        by_cases hc : yc = tx
        · have hq : (yc != (tx : Int)) = false := by simp [hc]
          have HCC := Lib.hid hc
          clear hc
          cases hw : isW T ⟨yt, yc, yl⟩
          · rw [hw] at HWT
            have HNX2 := Lib.hid (HNX.out (fun h9 => by rw [hw] at h9; cases h9.1))
            clear hw HISW HISJ HFI HNX HBB
            have HW5 : Hid (∀ s : HW (wr.alloc (.cells #[.int .i64 yt, .int .i64 yc, .int .i64 yl] 43)), Calls Try.prog 71 #[.pointer (some ⟨g, 0, none⟩), .agg #[.int .i64 yt, .int .i64 yc, .int .i64 yl]] s.W (RetV s.W (.bool false))) := fun s => HWT.out s.W (HBX.out.trans (s.bel.mono (Nat.le_of_lt lz0)))
            have a0 : ∀ s : HW (wr.alloc (.cells #[.int .i64 yt, .int .i64 yc, .int .i64 yl] 43)), s.W.cell? ⟨wr.heap.size, 0, none⟩ = some (.int .i64 yt) := fun s => HW.cellIs (p := ⟨wr.heap.size, 0, none⟩) (HBKX.out.cell 0) lz0 s
            have a1 : ∀ s : HW (wr.alloc (.cells #[.int .i64 yt, .int .i64 yc, .int .i64 yl] 43)), s.W.cell? ⟨wr.heap.size, 1, none⟩ = some (.int .i64 yc) := fun s => HW.cellIs (p := ⟨wr.heap.size, 1, none⟩) (HBKX.out.cell 1) lz0 s
            have a2 : ∀ s : HW (wr.alloc (.cells #[.int .i64 yt, .int .i64 yc, .int .i64 yl] 43)), s.W.cell? ⟨wr.heap.size, 2, none⟩ = some (.int .i64 yl) := fun s => HW.cellIs (p := ⟨wr.heap.size, 2, none⟩) (HBKX.out.cell 2) lz0 s
            have a3 : ∀ s : HW (wr.alloc (.cells #[.int .i64 yt, .int .i64 yc, .int .i64 yl] 43)), s.W.cell? ⟨g, 3, none⟩ = some (.int .i64 (tx : Nat)) := fun s => HW.cellIs (p := ⟨g, 3, none⟩) q3 (Nat.lt_trans hgw2 lz0) s
            clear hBX hbm q3
            go_upto_region 7 with fail
            refine wp_region_held_lit (by kernel_rfl) (by kernel_rfl) ?_
            repeat (go_big_quiet_step ((first | (go_at_call 71; with_reducible exact held_call _ (HW5.out _)))))
            refine wpQuiet_nil ?_
            intro _ hw'
            obtain ⟨s5, hw''⟩ := hw'
            subst hw''
            have HT5 : Hid (Below w2.heap.size w2 s5.W) := HBM2.out.trans (s5.bel.mono (by simp; omega))
            go_wp2_with fail
            go_roundg (n - (m + 1))
            case rel => exact ⟨m + 1, by omega, rfl, by go_num, HNX2.out, HT5.out⟩
            case measure => have := HGM.out; omega
          · rw [hw] at HWT
            have HWT1 : Hid (isW T ⟨yt, yc, yl⟩ = true) := hw
            clear hw
            have HW5 : Hid (∀ s : HW (wr.alloc (.cells #[.int .i64 yt, .int .i64 yc, .int .i64 yl] 43)), Calls Try.prog 71 #[.pointer (some ⟨g, 0, none⟩), .agg #[.int .i64 yt, .int .i64 yc, .int .i64 yl]] s.W (RetV s.W (.bool true))) := fun s => HWT.out s.W (HBX.out.trans (s.bel.mono (Nat.le_of_lt lz0)))
            have a0 : ∀ s : HW (wr.alloc (.cells #[.int .i64 yt, .int .i64 yc, .int .i64 yl] 43)), s.W.cell? ⟨wr.heap.size, 0, none⟩ = some (.int .i64 yt) := fun s => HW.cellIs (p := ⟨wr.heap.size, 0, none⟩) (HBKX.out.cell 0) lz0 s
            have a1 : ∀ s : HW (wr.alloc (.cells #[.int .i64 yt, .int .i64 yc, .int .i64 yl] 43)), s.W.cell? ⟨wr.heap.size, 1, none⟩ = some (.int .i64 yc) := fun s => HW.cellIs (p := ⟨wr.heap.size, 1, none⟩) (HBKX.out.cell 1) lz0 s
            have a2 : ∀ s : HW (wr.alloc (.cells #[.int .i64 yt, .int .i64 yc, .int .i64 yl] 43)), s.W.cell? ⟨wr.heap.size, 2, none⟩ = some (.int .i64 yl) := fun s => HW.cellIs (p := ⟨wr.heap.size, 2, none⟩) (HBKX.out.cell 2) lz0 s
            have a3 : ∀ s : HW (wr.alloc (.cells #[.int .i64 yt, .int .i64 yc, .int .i64 yl] 43)), s.W.cell? ⟨g, 3, none⟩ = some (.int .i64 (tx : Nat)) := fun s => HW.cellIs (p := ⟨g, 3, none⟩) q3 (Nat.lt_trans hgw2 lz0) s
            clear hBX hbm q3
            go_upto_region 7 with fail
            refine wp_region_held_lit (by kernel_rfl) (by kernel_rfl) ?_
            repeat (go_big_quiet_step ((first | (go_at_call 71; with_reducible exact held_call _ (HW5.out _)))))
            refine wpQuiet_nil ?_
            intro _ hw'
            obtain ⟨s5, hw''⟩ := hw'
            subst hw''
            have hb5 := s5.bel
            obtain ⟨w5, hw5⟩ : ∃ w5, s5.W = w5 := ⟨_, rfl⟩
            rw [hw5] at hb5 ⊢
            clear hw5 s5
            have HT5 : Hid (Below w2.heap.size w2 w5) := HBM2.out.trans (hb5.mono (by simp; omega))
            have hz5 : wr.heap.size < w5.heap.size := by have := hb5.size; simp at this; omega
            have hgz5 : g < w5.heap.size := by omega
            have x0 := (hb5.cell (p := ⟨wr.heap.size, 0, none⟩) lz0).trans (HBKX.out.cell 0)
            have x1 := (hb5.cell (p := ⟨wr.heap.size, 1, none⟩) lz0).trans (HBKX.out.cell 1)
            have x2 := (hb5.cell (p := ⟨wr.heap.size, 2, none⟩) lz0).trans (HBKX.out.cell 2)
            have x3 := (HT5.out.cell (p := ⟨g, 3, none⟩) hg2).trans d3
            have x6 := (HT5.out.cell (p := ⟨g, 6, none⟩) hg2).trans d6
            have x7 := (HT5.out.cell (p := ⟨g, 7 + tx, none⟩) hg2).trans d7
            have HP8 : Hid (∀ s : HW w5, Calls Try.prog 42 #[.agg #[.int .i64 yt, .int .i64 yc, .int .i64 yl]] s.W (RetV s.W (.int .i64 PV))) := fun s => HPR.out s.W
            have b0 : ∀ s : HW w5, s.W.cell? ⟨wr.heap.size, 0, none⟩ = some (.int .i64 yt) := fun s => HW.cellIs (p := ⟨wr.heap.size, 0, none⟩) x0 hz5 s
            have b1 : ∀ s : HW w5, s.W.cell? ⟨wr.heap.size, 1, none⟩ = some (.int .i64 yc) := fun s => HW.cellIs (p := ⟨wr.heap.size, 1, none⟩) x1 hz5 s
            have b2 : ∀ s : HW w5, s.W.cell? ⟨wr.heap.size, 2, none⟩ = some (.int .i64 yl) := fun s => HW.cellIs (p := ⟨wr.heap.size, 2, none⟩) x2 hz5 s
            have b3 : ∀ s : HW w5, s.W.cell? ⟨g, 3, none⟩ = some (.int .i64 (tx : Nat)) := fun s => HW.cellIs (p := ⟨g, 3, none⟩) x3 hgz5 s
            have b6 : ∀ s : HW w5, s.W.cell? ⟨g, 6, none⟩ = some (.func (.func 42) #[] #[]) := fun s => HW.cellIs (p := ⟨g, 6, none⟩) x6 hgz5 s
            have b7 : ∀ s : HW w5, s.W.cell? ⟨g, 7 + tx, none⟩ = some (.int .i64 (c1 tx)) := fun s => HW.cellIs (p := ⟨g, 7 + tx, none⟩) x7 hgz5 s
            have htxi : (tx : Int) < 8 := by omega
            have hcb := HC1.out tx htx
            obtain ⟨CV, hCV⟩ : ∃ x, c1 tx = x := ⟨_, rfl⟩
            rw [hCV] at hcb
            have HCV := Lib.hid hCV
            rw [hCV] at x7
            simp only [hCV] at b7
            have HFIR := Lib.hid (HFI.out HWT1.out HCC.out)
            clear hCV a0 a1 a2 a3 hb5 HW5
            by_cases hgt : CV < PV
            · have HFN := Lib.hid (HONM.out HFIR.out (by rw [HCV.out]; exact hgt))
              have HRN := Lib.hid (HEOM.out HFIR.out (by rw [HCV.out]; exact hgt))
              clear x0 x1 x2 x3 x6 x7
              go_upto_region 8 with fail
              refine wp_region_held_lit (by kernel_rfl) (by kernel_rfl) ?_
              repeat (go_big_quiet_step ((first | (go_at_call 42; with_reducible exact held_call _ (HP8.out _)))))
              refine wpQuiet_nil ?_
              intro _ hw'
              obtain ⟨s8, hw''⟩ := hw'
              subst hw''
              have hb8 := s8.bel
              obtain ⟨w8, hw8⟩ : ∃ w8, s8.W = w8 := ⟨_, rfl⟩
              rw [hw8] at hb8 ⊢
              clear hw8 s8
              have HT8 := Lib.hid (HT5.out.trans (hb8.mono HT5.out.size))
              have HGO := Lib.hid (goOn_any lo g T step tx true vg _ c1 l w8 (HL2.out.step HT8.out) htx)
              clear hb8 b0 b1 b2 b3 b6 b7
              go_wp2_with fail
              refine HGO.out.mono ?_; rintro e w9 ⟨rfl, hl9, hw9⟩
              have HL9 := Lib.hid hl9
              have HW9 : Hid (Wr g (g + 1) w w9) := (HW2.out.trans (Wr.of_below HT8.out _ _)).trans hw9
              clear hl9 hw9
              go_wp2_with fail
              go_roundg f1
              case rel => exact ⟨nextC tx, false, c1, nextC_lt tx, by have := HFK.out; omega, HC1.out, HFN.out, HRN.out, HL9.out, HW9.out⟩
              case measure => omega
            · have HRG := Lib.hid (HEGM.out HFIR.out (by rw [HCV.out]; omega))
              go_upto_region 8 with fail
              refine wp_region_held_lit (by kernel_rfl) (by kernel_rfl) ?_
              repeat (go_big_quiet_step ((first | (go_at_call 42; with_reducible exact held_call _ (HP8.out _)))))
              refine wpQuiet_nil ?_
              intro _ hw'
              obtain ⟨s8, hw''⟩ := hw'
              subst hw''
              have hb8 := s8.bel
              obtain ⟨w8, hw8⟩ : ∃ w8, s8.W = w8 := ⟨_, rfl⟩
              rw [hw8] at hb8 ⊢
              clear hw8 s8
              have HT8 := Lib.hid (HT5.out.trans (hb8.mono HT5.out.size))
              have hz8 := hb8.size
              have hgz8 : g < w8.heap.size := by omega
              have k0 := (hb8.cell (p := ⟨wr.heap.size, 0, none⟩) hz5).trans x0
              have k1 := (hb8.cell (p := ⟨wr.heap.size, 1, none⟩) hz5).trans x1
              have k2 := (hb8.cell (p := ⟨wr.heap.size, 2, none⟩) hz5).trans x2
              have k3 := (hb8.cell (p := ⟨g, 3, none⟩) hgz5).trans x3
              have k6 := (hb8.cell (p := ⟨g, 6, none⟩) hgz5).trans x6
              have k7 := (hb8.cell (p := ⟨g, 7 + tx, none⟩) hgz5).trans x7
              have HFR : Hid (∀ wx, Below w8.heap.size w8 wx → LN wx lo g T step (tx : Nat) true vg (.func (.func 42) #[] #[]) c1 l) := fun wx hx => HL2.out.step (HT8.out.trans (hx.mono HT8.out.size))
              have kf := ((HFR.out w8 (Below.refl _ _)).at).2.2.2.2.2.2 (7 + tx)
              have HGZ := Lib.hid hgz8
              have pb := HBB.out HWT1.out
              have eW : IntKind.i64.wrap (CV - PV) = CV - PV := IntWalk.i64_in _ (by omega)
              have HCS : Hid (Cb f1 (setC c1 tx (CV - PV))) := HC1.out.set htx (by omega) (by rw [HCV.out]; omega)
              have HJJ : Hid (isJ l[m]! = true) := by show _ = _; rw [HYY.out]; exact (isW_t.1 HWT1.out).1
              have HFUN : Hid (∀ T', Fu f1 T' (l.set m jbZ) tx true (setC c1 tx (CV - PV))) := fun T' => HBG2.out T' tx _ m (by rw [HN.out]; exact hlt) HJJ.out (fun c hc => (HCS.out c hc).1)
              have HRG2 : Hid (∀ out, runT gr pr1 f T l out tc tb cr = runT gr pr1 f1 (T + l[m]!.l) (l.set m jbZ) (out.set m T) tx true (setC c1 tx (CV - PV))) := fun out => by
                have h9 := HRG.out out
                rw [HCV.out] at h9
                have h8 : l[m]!.l = yl := by rw [HYY.out]
                rw [h8]
                exact h9
              clear b0 b1 b2 b3 b6 b7 x0 x1 x2 x3 x6 x7 hb8
              go_wp2_with fail
              go_region_with (first | (go_at_call 42; (with_reducible refine (HPR.out _).mono ?_); rintro e w9 ⟨rfl, hb9⟩; have hb9' : Below w8.heap.size w8 w9 := ⟨hb9.os, hb9.tape, hb9.output, hb9.size, hb9.block⟩; have m3 := (hb9'.cell (p := ⟨g, 3, none⟩) HGZ.out).trans k3; have m6 := (hb9'.cell (p := ⟨g, 6, none⟩) HGZ.out).trans k6; have m7 := (hb9'.cell (p := ⟨g, 7 + tx, none⟩) HGZ.out).trans k7; have hl9 := HFR.out w9 hb9'; have mf := (hl9.at).2.2.2.2.2.2 (7 + tx)))
              all_goals
                go_wp2_with fail
                rw [Exit.noGoto_ret]
                go_ret
                exact ⟨m, f1, tx, _, by rw [HN.out]; exact hlt, by rw [HYY.out]; exact HWT1.out, rfl, hl9.putCr tx htx _, htx, HCS.out, HFK.out, HFUN.out, HRG2.out, (HW2.out.trans (Wr.of_below (HT8.out.trans (hb9'.mono HT8.out.size)) _ _)).trans ((Wr.refl g (g + 1) w9).at _ _)⟩
        · have hq : (yc != (tx : Int)) = true := by simp [hc]
          have HNX2 := Lib.hid (HNX.out (fun h9 => hc h9.2))
          clear hc hbm
          go_wp2_with fail
          go_quiet (fail)
          go_wp2_with fail
          go_roundg (n - (m + 1))
          case rel => exact ⟨m + 1, by omega, rfl, by go_num, HNX2.out, below_drewN HBM2.out _⟩
          case measure => have := HGM.out; omega
      · obtain rfl : n = m := by omega
        have HFN1 : Hid (firstC T tx l = none) := firstC_none (by rw [HN.out]; exact HNO.out)
        have HRN := Lib.hid (HEN.out HFN1.out)
        have HFN := Lib.hid (HON.out _ (.inl ⟨HFN1.out, rfl⟩))
        have hl3 := HL2.out.step HBM.out
        obtain ⟨_, _, _, _, _, _, dz⟩ := hl3.at
        have f7 := dz (7 + tx)
        have htxi : (tx : Int) < 8 := by omega
        have HGO : Hid (Calls Try.prog 73 #[.pointer (some ⟨g, 3, none⟩)] (wr.setCell ⟨g, 7 + tx, none⟩ (.int .i64 0)).drew (RetLN2 lo g T step (nextC tx : Nat) false vg (.func (.func 42) #[] #[]) (setC c1 tx 0) l (wr.setCell ⟨g, 7 + tx, none⟩ (.int .i64 0)).drew)) :=
          goOn_any lo g T step tx true vg _ _ l _ (LN.drewN (hl3.putCr tx htx 0) 1) htx
        have HWN : Hid (Wr g (g + 1) w (wr.setCell ⟨g, 7 + tx, none⟩ (.int .i64 0)).drew) := by
          have h9 := (HW2.out.trans (Wr.of_below HBM.out _ _)).trans ((Wr.refl g (g + 1) wr).at (7 + tx) (.int .i64 0))
          exact ⟨h9.os, h9.tape, h9.output, h9.size, h9.block⟩
        clear hl3 dz hbm
        go_wp2_with fail
        go_region
        all_goals
          go_wp2_with fail
          refine HGO.out.mono ?_; rintro e w9 ⟨rfl, hl9, hw9⟩
          have HL9 := Lib.hid hl9
          have HW9 := Lib.hid (HWN.out.trans hw9)
          clear hl9 hw9
          go_wp2_with fail
          go_roundg f1
          case rel => exact ⟨nextC tx, false, _, nextC_lt tx, by have := HFK.out; omega, HC1.out.set htx (Int.le_refl _) (HC1.out tx htx).1, HFN.out, HRN.out, HL9.out, HW9.out⟩
          case measure => omega

end Go.Proofs.Yteoggoopfjkdkaa
