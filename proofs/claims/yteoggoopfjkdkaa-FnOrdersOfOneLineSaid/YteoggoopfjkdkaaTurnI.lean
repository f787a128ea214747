/-
  Classes that take turns, the program's side: a turn begins, goes on; prices.
-/
import Derived.Test.YteoggoopfjkdkaaMathTurn
import Derived.Test.YteoggoopfjkdkaaStarts
namespace Go.Proofs.Yteoggoopfjkdkaa
open Go.RowKit
set_option maxRecDepth 100000
set_option linter.unusedVariables false

theorem LC.putCr {cs : Array Value} {tick : Int} {v : Value} {step tc : Int} {tb : Bool} {gr pr : Value} {cr : Nat → Int} (h : LC cs tick v step tc tb gr pr cr) (k : Nat) (hk : k < 8) (x : Int) :
    LC (cs.setIfInBounds (7 + k) (.int .i64 x)) tick v step tc tb gr pr (setC cr k x) := by
  have hs := h.size
  refine ⟨by simp [hs], ?_, ?_, ?_, ?_, ?_, ?_, ?_, ?_⟩
  · rw [Array.getElem?_setIfInBounds, if_neg (by omega)]; exact h.tick
  · rw [Array.getElem?_setIfInBounds, if_neg (by omega)]; exact h.left
  · rw [Array.getElem?_setIfInBounds, if_neg (by omega)]; exact h.step
  · rw [Array.getElem?_setIfInBounds, if_neg (by omega)]; exact h.tc
  · rw [Array.getElem?_setIfInBounds, if_neg (by omega)]; exact h.tb
  · rw [Array.getElem?_setIfInBounds, if_neg (by omega)]; exact h.gr
  · rw [Array.getElem?_setIfInBounds, if_neg (by omega)]; exact h.pr
  · intro i hi
    rw [Array.getElem?_setIfInBounds]
    by_cases e : k = i
    · subst e
      rw [if_pos rfl, if_pos (by omega), setC_same]
    · rw [if_neg (by omega), setC_ne _ _ (fun h9 => e h9.symm)]
      exact h.cr i hi
theorem LC.putTc {cs : Array Value} {tick : Int} {v : Value} {step tc : Int} {tb : Bool} {gr pr : Value} {cr : Nat → Int} (h : LC cs tick v step tc tb gr pr cr) (x : Int) : LC (cs.setIfInBounds 3 (.int .i64 x)) tick v step x tb gr pr cr := by
  have hs := h.size
  refine ⟨by simp [hs], ?_, ?_, ?_, ?_, ?_, ?_, ?_, ?_⟩
  · simp [h.tick]
  · simp [h.left]
  · simp [h.step]
  · simp [hs]
  · simp [h.tb]
  · simp [h.gr]
  · simp [h.pr]
  · intro i hi
    rw [Array.getElem?_setIfInBounds, if_neg (by omega)]
    exact h.cr i hi
theorem LC.putTb {cs : Array Value} {tick : Int} {v : Value} {step tc : Int} {tb : Bool} {gr pr : Value} {cr : Nat → Int} (h : LC cs tick v step tc tb gr pr cr) (x : Bool) : LC (cs.setIfInBounds 4 (.bool x)) tick v step tc x gr pr cr := by
  have hs := h.size
  refine ⟨by simp [hs], ?_, ?_, ?_, ?_, ?_, ?_, ?_, ?_⟩
  · simp [h.tick]
  · simp [h.left]
  · simp [h.step]
  · simp [h.tc]
  · simp [hs]
  · simp [h.gr]
  · simp [h.pr]
  · intro i hi
    rw [Array.getElem?_setIfInBounds, if_neg (by omega)]
    exact h.cr i hi
section
variable {w : World} {lo g : Nat} {tick step tc : Int} {tb : Bool} {gr pr : Value} {cr : Nat → Int} {l : List Jb}
theorem LN.putCr (h : LN w lo g tick step tc tb gr pr cr l) (k : Nat) (hk : k < 8) (x : Int) : LN (w.setCell ⟨g, 7 + k, none⟩ (.int .i64 x)) lo g tick step tc tb gr pr (setC cr k x) l := by
  obtain ⟨cs, v, h1, h2, h3⟩ := h.cells
  exact ⟨_, v, h1.put _ _, h2.putCr k hk x, OK.far h3 ((Wr.refl g (g + 1) w).at _ _) (.inl (Nat.le_refl _))⟩
theorem LN.putTc (h : LN w lo g tick step tc tb gr pr cr l) (x : Int) : LN (w.setCell ⟨g, 3, none⟩ (.int .i64 x)) lo g tick step x tb gr pr cr l := by
  obtain ⟨cs, v, h1, h2, h3⟩ := h.cells
  exact ⟨_, v, h1.put _ _, h2.putTc x, OK.far h3 ((Wr.refl g (g + 1) w).at _ _) (.inl (Nat.le_refl _))⟩
theorem LN.putTb (h : LN w lo g tick step tc tb gr pr cr l) (x : Bool) : LN (w.setCell ⟨g, 4, none⟩ (.bool x)) lo g tick step tc x gr pr cr l := by
  obtain ⟨cs, v, h1, h2, h3⟩ := h.cells
  exact ⟨_, v, h1.put _ _, h2.putTb x, OK.far h3 ((Wr.refl g (g + 1) w).at _ _) (.inl (Nat.le_refl _))⟩
theorem LN.at (h : LN w lo g tick step tc tb gr pr cr l) : w.cell? ⟨g, 0, none⟩ = some (.int .i64 tick) ∧ w.cell? ⟨g, 3, none⟩ = some (.int .i64 tc) ∧ w.cell? ⟨g, 4, none⟩ = some (.bool tb) ∧ w.cell? ⟨g, 5, none⟩ = some gr ∧ w.cell? ⟨g, 6, none⟩ = some pr ∧
    (∀ i, i < 8 → w.cell? ⟨g, 7 + i, none⟩ = some (.int .i64 (cr i))) ∧ ∀ i, w.frozen? ⟨g, i, none⟩ = false := by
  obtain ⟨cs, v, h1, h2, h3⟩ := h.cells
  exact ⟨(h1.cell 0).trans h2.tick, (h1.cell 3).trans h2.tc, (h1.cell 4).trans h2.tb, (h1.cell 5).trans h2.gr, (h1.cell 6).trans h2.pr, fun i hi => (h1.cell (7 + i)).trans (h2.cr i hi), fun i => h1.free i⟩
theorem LN.drewN (h : LN w lo g tick step tc tb gr pr cr l) (m : Nat) : LN (w.drewN m) lo g tick step tc tb gr pr cr l := by
  obtain ⟨cs, v, h1, h2, h3⟩ := h.cells
  exact ⟨cs, v, h1, h2, h3⟩
end
def RetLN2 (lo g : Nat) (tick step tc : Int) (tb : Bool) (gr pr : Value) (cr : Nat → Int) (l : List Jb) (w : World) (e : Ending) (w' : World) : Prop :=
  e = .returned (.tuple #[]) ∧ LN w' lo g tick step tc tb gr pr cr l ∧ Wr g (g + 1) w w'
set_option maxHeartbeats 2000000 in
theorem turnBegin_any (lo g : Nat) (tick step : Int) (tc : Nat) (tb : Bool) (vg pr : Value) (cr : Nat → Int) (l : List Jb) (gr : List Int) (w : World) (h : LN w lo g tick step tc tb vg pr cr l) (htc : tc < 8)
    (hg : RI w lo vg gr) (hgl : gr.length = 8) (hlg : lo ≤ g) (hb : ∀ c, c < 8 → 0 ≤ cr c ∧ cr c ≤ 200000) (hgb : ∀ c, c < 8 → 1 ≤ gr.getD c 0 ∧ gr.getD c 0 ≤ 40) :
    Calls Try.prog 74 #[.pointer (some ⟨g, 3, none⟩)] w (RetLN2 lo g tick step tc true vg pr (crB gr tc tb cr) l w) := by
  obtain ⟨c0, c3, c4, c5, c6, cc, fz⟩ := h.at
  have HL := Lib.hid h
  cases tb
  · obtain ⟨A, c, rfl, _, hc⟩ := hg
    obtain ⟨b, off, rfl, hbl, hcell⟩ := hc (by omega)
    have x1 := hcell tc (by omega)
    have x2 := cc tc htc
    have f4 := fz 4
    have f7 := fz (7 + tc)
    have b1 := hb tc htc
    have b2 := hgb tc htc
    have htci : (tc : Int) < 8 := by omega
    rw [hgl] at c5
    have H1 := Lib.hid (HL.out.putCr tc htc (cr tc + gr.getD tc 0))
    have H2 := Lib.hid ((HL.out.putCr tc htc (cr tc + gr.getD tc 0)).putTb true)
    have HCB : Hid (crB gr tc false cr = setC cr tc (cr tc + gr.getD tc 0)) := by show _ = _; simp [crB]
    obtain ⟨d0, d3, d4, d5, d6, dd, dz⟩ := H1.out.at
    have f4b := dz 4
    have HW : Hid (Wr g (g + 1) w ((w.setCell ⟨g, 7 + tc, none⟩ (.int .i64 (cr tc + gr.getD tc 0))).setCell ⟨g, 4, none⟩ (.bool true))) := ((Wr.refl g (g + 1) w).at _ _).at _ _
    clear h cc fz hcell hc dd dz
    generalize gr.getD tc 0 = G at x1 b2 H1 H2 HCB HW d0 d3 d4 d5 d6 f4b
    generalize cr tc = C at x2 b1 H1 H2 HCB HW d0 d3 d4 d5 d6 f4b
    have e1 : IntKind.i64.wrap (C + G) = C + G := IntWalk.i64_in _ (by omega)
    go_enter Try.func74, Try.ntmps74
    go_wp2_with fail
    go_region
    all_goals
      go_wp2_with fail
      go_end0
      refine ⟨rfl, ?_, ?_⟩
      · rw [HCB.out]
        exact H2.out.drewN 1
      · exact ⟨HW.out.os, HW.out.tape, HW.out.output, HW.out.size, HW.out.block⟩
  · have HCB : Hid (crB gr tc true cr = cr) := by show _ = _; simp [crB]
    clear h cc fz hg
    go_enter Try.func74, Try.ntmps74
    go_wp2_with fail
    go_end0
    exact ⟨rfl, by rw [HCB.out]; exact HL.out, Wr.refl _ _ _⟩
set_option maxHeartbeats 2000000 in
theorem goOn_any (lo g : Nat) (tick step : Int) (tc : Nat) (tb : Bool) (vg pr : Value) (cr : Nat → Int) (l : List Jb) (w : World) (h : LN w lo g tick step tc tb vg pr cr l) (htc : tc < 8) :
    Calls Try.prog 73 #[.pointer (some ⟨g, 3, none⟩)] w (RetLN2 lo g tick step (nextC tc : Nat) false vg pr cr l w) := by
  obtain ⟨c0, c3, c4, c5, c6, cc, fz⟩ := h.at
  have f3 := fz 3
  obtain ⟨X, hX⟩ : ∃ X : Nat, nextC tc = X := ⟨_, rfl⟩
  rw [hX]
  have hm : ((tc : Int) + 7).tmod 8 = (X : Int) := by
    have h1 : ((tc : Int) + 7) = ((tc + 7 : Nat) : Int) := by omega
    rw [← hX, h1]
    unfold nextC
    rw [Int.tmod_eq_emod_of_nonneg (by omega)]
    omega
  have hX8 : X < 8 := by rw [← hX]; exact nextC_lt tc
  have e1 : IntKind.i64.wrap ((tc : Int) + 7) = (tc : Int) + 7 := IntWalk.i64_in _ (by omega)
  have e2 : IntKind.i64.wrap ((X : Nat) : Int) = (X : Int) := IntWalk.i64_in _ (by omega)
  have H1 := Lib.hid (h.putTc (X : Int))
  have H2 := Lib.hid ((h.putTc (X : Int)).putTb false)
  obtain ⟨d0, d3, d4, d5, d6, dd, dz⟩ := H1.out.at
  have f4 := dz 4
  have HW : Hid (Wr g (g + 1) w ((w.setCell ⟨g, 3, none⟩ (.int .i64 (X : Int))).setCell ⟨g, 4, none⟩ (.bool false))) := ((Wr.refl g (g + 1) w).at _ _).at _ _
  clear h cc fz dd dz hX
  go_enter Try.func73, Try.ntmps73
  go_wp2_with fail
  go_end0
  exact ⟨rfl, H2.out, HW.out⟩
theorem asOne_any (y : Jb) (w : World) : Calls Try.prog 42 #[JbV y] w (RetV w (.int .i64 (pr1 y))) := by
  obtain ⟨t, c, l⟩ := y
  simp only [JbV, pr1]
  have hW : Below w.heap.size w (w.alloc (.cells #[.int .i64 t, .int .i64 c, .int .i64 l] 43)) := (Below.refl _ _).alloc (Nat.le_refl _) _
  go_enter Try.func42, Try.ntmps42
  go_wp2_with fail
  go_ret
  exact ⟨rfl, hW⟩
theorem asTicks_any (y : Jb) (w : World) : Calls Try.prog 48 #[JbV y] w (RetV w (.int .i64 (prL y))) := by
  obtain ⟨t, c, l⟩ := y
  simp only [JbV, prL]
  have hW : Below w.heap.size w (w.alloc (.cells #[.int .i64 t, .int .i64 c, .int .i64 l] 43)) := (Below.refl _ _).alloc (Nat.le_refl _) _
  go_enter Try.func48, Try.ntmps48
  go_wp2_with fail
  go_ret
  exact ⟨rfl, hW⟩
end Go.Proofs.Yteoggoopfjkdkaa
