/-
  TurnStarts, DeficitStarts, the program's side.
-/
import Derived.Test.YtpencgbhiheiiaaTurnK
import Derived.Laws.EntriesVeiled
namespace Go.Proofs.Ytpencgbhiheiiaa
open Go.RowKit
set_option maxRecDepth 100000
set_option linter.unusedVariables false

theorem LC.putGr {cs : Array Value} {tick : Int} {v : Value} {step tc : Int} {tb : Bool} {gr pr : Value} {cr : Nat → Int} (h : LC cs tick v step tc tb gr pr cr) (x : Value) : LC (cs.setIfInBounds 5 x) tick v step tc tb x pr cr := by
  have hs := h.size
  refine ⟨by simp [hs], ?_, ?_, ?_, ?_, ?_, ?_, ?_, ?_⟩
  · simp [h.tick]
  · simp [h.left]
  · simp [h.step]
  · simp [h.tc]
  · simp [h.tb]
  · simp [hs]
  · simp [h.pr]
  · intro i hi
    rw [Array.getElem?_setIfInBounds, if_neg (by omega)]
    exact h.cr i hi
theorem LC.putPr {cs : Array Value} {tick : Int} {v : Value} {step tc : Int} {tb : Bool} {gr pr : Value} {cr : Nat → Int} (h : LC cs tick v step tc tb gr pr cr) (x : Value) : LC (cs.setIfInBounds 6 x) tick v step tc tb gr x cr := by
  have hs := h.size
  refine ⟨by simp [hs], ?_, ?_, ?_, ?_, ?_, ?_, ?_, ?_⟩
  · simp [h.tick]
  · simp [h.left]
  · simp [h.step]
  · simp [h.tc]
  · simp [h.tb]
  · simp [h.gr]
  · simp [hs]
  · intro i hi
    rw [Array.getElem?_setIfInBounds, if_neg (by omega)]
    exact h.cr i hi
theorem LN.putGr {w : World} {lo g : Nat} {tick step tc : Int} {tb : Bool} {gr pr : Value} {cr : Nat → Int} {l : List Jb} (h : LN w lo g tick step tc tb gr pr cr l) (x : Value) : LN (w.setCell ⟨g, 5, none⟩ x) lo g tick step tc tb x pr cr l := by
  obtain ⟨cs, v, h1, h2, h3⟩ := h.cells
  exact ⟨_, v, h1.put _ _, h2.putGr x, OK.far h3 ((Wr.refl g (g + 1) w).at _ _) (.inl (Nat.le_refl _))⟩
theorem LN.putPr {w : World} {lo g : Nat} {tick step tc : Int} {tb : Bool} {gr pr : Value} {cr : Nat → Int} {l : List Jb} (h : LN w lo g tick step tc tb gr pr cr l) (x : Value) : LN (w.setCell ⟨g, 6, none⟩ x) lo g tick step tc tb gr x cr l := by
  obtain ⟨cs, v, h1, h2, h3⟩ := h.cells
  exact ⟨_, v, h1.put _ _, h2.putPr x, OK.far h3 ((Wr.refl g (g + 1) w).at _ _) (.inl (Nat.le_refl _))⟩
theorem eightB_in {gr : List Int} {most : Int} (h : eightB gr most = true) : gr.length = 8 ∧ ∀ c, c < 8 → 1 ≤ gr.getD c 0 ∧ gr.getD c 0 ≤ most := by
  simp only [eightB, Bool.and_eq_true, decide_eq_true_eq] at h
  exact ⟨h.1, fun c hc => okAll_at h.2 c (by omega)⟩

set_option maxHeartbeats 2000000 in
theorem startsInTurn1_any (v vg : Value) (js : List Jb) (gr : List Int) (w : World) (h : RJbS w w.heap.size v js) (h' : RI w w.heap.size vg gr) (hA : areJb js = true) (hE : eightB gr 20 = true) :
    Calls Try.prog 49 #[v, vg, (.func (.func 50) #[] #[])] w (RetL 3 w (inTurnOf pr1 js gr)) := by
  have hn := (areJb_in hA).1
  obtain ⟨hgl, hgb⟩ := eightB_in hE
  have HL := Lib.hid (lineFor_any v js w h (by omega))
  obtain ⟨A, c, rfl, _⟩ := h
  have HG := Lib.hid h'
  obtain ⟨A2, c2, rfl, _⟩ := h'
  rw [hgl] at HG ⊢
  obtain ⟨R, hR⟩ : ∃ R, inTurnOf pr1 js gr = R := ⟨_, rfl⟩
  have HSB := Lib.hid (fun (g : Nat) (w1 : World) (h1 : LN w1 w.heap.size g 0 0 7 false (.slice A2 8 c2) (.func (.func 50) #[] #[]) (fun _ => 0) js) (hlg : w.heap.size ≤ g) (hg1 : RI w1 w.heap.size (.slice A2 8 c2) gr) => startsBy_turn1 w.heap.size g 0 _ gr js w1 h1 hlg hA hg1 hgl (fun c hc => by have := hgb c hc; omega))
  rw [hR] at HSB ⊢
  clear hR hA hE hgb hgl
  go_enter Try.func49, Try.ntmps49
  go_wp2_with fail
  refine HL.out.mono ?_; rintro e w1 ⟨g, rfl, hlg, hgs, hln, hb⟩
  have HB := Lib.hid hb
  obtain ⟨_, _, _, d5, d6, _, dz⟩ := hln.at
  have f5 := dz 5
  have HL2 := Lib.hid (hln.putGr (.slice A2 8 c2))
  obtain ⟨_, _, _, _, x6, _, xz⟩ := HL2.out.at
  have f6 := xz 6
  have HL3 := Lib.hid (HL2.out.putPr (.func (.func 50) #[] #[]))
  have HB3 : Hid (Below w.heap.size w ((w1.setCell ⟨g, 5, none⟩ (.slice A2 8 c2)).setCell ⟨g, 6, none⟩ (.func (.func 50) #[] #[]))) := (HB.out.setCell (p := ⟨g, 5, none⟩) hlg _).setCell (p := ⟨g, 6, none⟩) hlg _
  have HS := Lib.hid (HSB.out g _ HL3.out hlg (HG.out.below HB3.out))
  clear hln hb dz xz
  go_wp2_with fail
  refine HS.out.mono ?_; rintro e w2 ⟨u, rfl, ho, hw⟩
  have HO := Lib.hid (ho.wide (lo' := w.heap.size) (hi' := w2.heap.size) HB3.out.size (Nat.le_refl _))
  have HW := Lib.hid hw
  obtain ⟨A3, c3, rfl, _⟩ := ho.ri
  clear ho hw
  go_wp2_with fail
  go_ret
  exact ⟨_, rfl, HO.out, HB3.out.trans (HW.out.below (Nat.le_refl _) HB3.out.size)⟩
set_option maxHeartbeats 2000000 in
theorem implTurnStarts_any (v vg : Value) (js : List Jb) (gr : List Int) (w : World) (h : RJbS w w.heap.size v js) (h' : RI w w.heap.size vg gr) (hn : js.length ≤ 1048576) (hn2 : gr.length ≤ 1048576) :
    Calls Try.prog 27 #[v, vg] w (RetLB 3 w (turnOf js gr).1 (turnOf js gr).2) := by
  have HA := Lib.hid (implAreJobs_any v js w h hn)
  cases hg : areJb js
  · have HF : turnOf js gr = ([], false) := by simp [turnOf, hg]
    rw [HF]
    rw [hg] at HA
    clear hg HF
    go_enter Try.func27, Try.ntmps27
    go_wp2_with fail
    refine HA.out.mono ?_; rintro e w1 ⟨rfl, T⟩
    go_wp2_with fail
    go_ret2
    exact ⟨_, rfl, .inl ⟨rfl, none, 0, rfl, by simp, fun _ => rfl⟩, T⟩
  have HE := Lib.hid (fun (w' : World) (hb : Below w.heap.size w w') => areForClasses_any vg gr 20 w' ((h'.step hb (Nat.le_refl _)).more hb.size) hn2)
  cases hwa : eightB gr 20
  · have HF : turnOf js gr = ([], false) := by simp [turnOf, hwa]
    rw [HF]
    rw [hg] at HA
    rw [hwa] at HE
    clear hg HF hwa
    go_enter Try.func27, Try.ntmps27
    go_wp2_with fail
    refine HA.out.mono ?_; rintro e w1 ⟨rfl, T⟩
    go_wp2_with fail
    refine (HE.out _ T).mono ?_; rintro e w2 ⟨rfl, rfl⟩
    go_wp2_with fail
    go_ret2
    exact ⟨_, rfl, .inl ⟨rfl, none, 0, rfl, by simp, fun _ => rfl⟩, T⟩
  have HF : turnOf js gr = (inTurnOf pr1 js gr, true) := by simp [turnOf, hg, hwa]
  rw [HF]
  have HS := Lib.hid (fun (w' : World) (hb : Below w.heap.size w w') => startsInTurn1_any v vg js gr w' ((h.step hb (Nat.le_refl _)).more hb.size) ((h'.step hb (Nat.le_refl _)).more hb.size) hg hwa)
  rw [hg] at HA
  rw [hwa] at HE
  clear hg HF hwa
  go_enter Try.func27, Try.ntmps27
  go_wp2_with fail
  refine HA.out.mono ?_; rintro e w1 ⟨rfl, T⟩
  have hT := T.size
  go_wp2_with fail
  refine (HE.out _ T).mono ?_; rintro e w2 ⟨rfl, rfl⟩
  go_wp2_with fail
  refine (HS.out _ T).mono ?_; rintro e w3 ⟨u, rfl, ho, hb3⟩
  have HO := Lib.hid (ho.wide (lo' := w.heap.size) (hi' := w3.heap.size) hT (Nat.le_refl _))
  have HB := Lib.hid (T.trans (hb3.mono hT))
  obtain ⟨A3, c3, rfl, _⟩ := ho.ri
  clear ho hb3 T
  go_wp2_with fail
  go_ret2
  exact ⟨_, rfl, HO.out, HB.out⟩

set_option maxHeartbeats 2000000 in
theorem startsInTurnL_any (v vg : Value) (js : List Jb) (gr : List Int) (w : World) (h : RJbS w w.heap.size v js) (h' : RI w w.heap.size vg gr) (hA : areJb js = true) (hE : eightB gr 40 = true) :
    Calls Try.prog 49 #[v, vg, (.func (.func 51) #[] #[])] w (RetL 3 w (inTurnOf prL js gr)) := by
  have hn := (areJb_in hA).1
  obtain ⟨hgl, hgb⟩ := eightB_in hE
  have HL := Lib.hid (lineFor_any v js w h (by omega))
  obtain ⟨A, c, rfl, _⟩ := h
  have HG := Lib.hid h'
  obtain ⟨A2, c2, rfl, _⟩ := h'
  rw [hgl] at HG ⊢
  obtain ⟨R, hR⟩ : ∃ R, inTurnOf prL js gr = R := ⟨_, rfl⟩
  have HSB := Lib.hid (fun (g : Nat) (w1 : World) (h1 : LN w1 w.heap.size g 0 0 7 false (.slice A2 8 c2) (.func (.func 51) #[] #[]) (fun _ => 0) js) (hlg : w.heap.size ≤ g) (hg1 : RI w1 w.heap.size (.slice A2 8 c2) gr) => startsBy_turnL w.heap.size g 0 _ gr js w1 h1 hlg hA hg1 hgl (fun c hc => by have := hgb c hc; omega))
  rw [hR] at HSB ⊢
  clear hR hA hE hgb hgl
  go_enter Try.func49, Try.ntmps49
  go_wp2_with fail
  refine HL.out.mono ?_; rintro e w1 ⟨g, rfl, hlg, hgs, hln, hb⟩
  have HB := Lib.hid hb
  obtain ⟨_, _, _, d5, d6, _, dz⟩ := hln.at
  have f5 := dz 5
  have HL2 := Lib.hid (hln.putGr (.slice A2 8 c2))
  obtain ⟨_, _, _, _, x6, _, xz⟩ := HL2.out.at
  have f6 := xz 6
  have HL3 := Lib.hid (HL2.out.putPr (.func (.func 51) #[] #[]))
  have HB3 : Hid (Below w.heap.size w ((w1.setCell ⟨g, 5, none⟩ (.slice A2 8 c2)).setCell ⟨g, 6, none⟩ (.func (.func 51) #[] #[]))) := (HB.out.setCell (p := ⟨g, 5, none⟩) hlg _).setCell (p := ⟨g, 6, none⟩) hlg _
  have HS := Lib.hid (HSB.out g _ HL3.out hlg (HG.out.below HB3.out))
  clear hln hb dz xz
  go_wp2_with fail
  refine HS.out.mono ?_; rintro e w2 ⟨u, rfl, ho, hw⟩
  have HO := Lib.hid (ho.wide (lo' := w.heap.size) (hi' := w2.heap.size) HB3.out.size (Nat.le_refl _))
  have HW := Lib.hid hw
  obtain ⟨A3, c3, rfl, _⟩ := ho.ri
  clear ho hw
  go_wp2_with fail
  go_ret
  exact ⟨_, rfl, HO.out, HB3.out.trans (HW.out.below (Nat.le_refl _) HB3.out.size)⟩
set_option maxHeartbeats 2000000 in
theorem implDeficitStarts_any (v vg : Value) (js : List Jb) (gr : List Int) (w : World) (h : RJbS w w.heap.size v js) (h' : RI w w.heap.size vg gr) (hn : js.length ≤ 1048576) (hn2 : gr.length ≤ 1048576) :
    Calls Try.prog 29 #[v, vg] w (RetLB 3 w (defOf js gr).1 (defOf js gr).2) := by
  have HA := Lib.hid (implAreJobs_any v js w h hn)
  cases hg : areJb js
  · have HF : defOf js gr = ([], false) := by simp [defOf, hg]
    rw [HF]
    rw [hg] at HA
    clear hg HF
    go_enter Try.func29, Try.ntmps29
    go_wp2_with fail
    refine HA.out.mono ?_; rintro e w1 ⟨rfl, T⟩
    go_wp2_with fail
    go_ret2
    exact ⟨_, rfl, .inl ⟨rfl, none, 0, rfl, by simp, fun _ => rfl⟩, T⟩
  have HE := Lib.hid (fun (w' : World) (hb : Below w.heap.size w w') => areForClasses_any vg gr 40 w' ((h'.step hb (Nat.le_refl _)).more hb.size) hn2)
  cases hwa : eightB gr 40
  · have HF : defOf js gr = ([], false) := by simp [defOf, hwa]
    rw [HF]
    rw [hg] at HA
    rw [hwa] at HE
    clear hg HF hwa
    go_enter Try.func29, Try.ntmps29
    go_wp2_with fail
    refine HA.out.mono ?_; rintro e w1 ⟨rfl, T⟩
    go_wp2_with fail
    refine (HE.out _ T).mono ?_; rintro e w2 ⟨rfl, rfl⟩
    go_wp2_with fail
    go_ret2
    exact ⟨_, rfl, .inl ⟨rfl, none, 0, rfl, by simp, fun _ => rfl⟩, T⟩
  have HF : defOf js gr = (inTurnOf prL js gr, true) := by simp [defOf, hg, hwa]
  rw [HF]
  have HS := Lib.hid (fun (w' : World) (hb : Below w.heap.size w w') => startsInTurnL_any v vg js gr w' ((h.step hb (Nat.le_refl _)).more hb.size) ((h'.step hb (Nat.le_refl _)).more hb.size) hg hwa)
  rw [hg] at HA
  rw [hwa] at HE
  clear hg HF hwa
  go_enter Try.func29, Try.ntmps29
  go_wp2_with fail
  refine HA.out.mono ?_; rintro e w1 ⟨rfl, T⟩
  have hT := T.size
  go_wp2_with fail
  refine (HE.out _ T).mono ?_; rintro e w2 ⟨rfl, rfl⟩
  go_wp2_with fail
  refine (HS.out _ T).mono ?_; rintro e w3 ⟨u, rfl, ho, hb3⟩
  have HO := Lib.hid (ho.wide (lo' := w.heap.size) (hi' := w3.heap.size) hT (Nat.le_refl _))
  have HB := Lib.hid (T.trans (hb3.mono hT))
  obtain ⟨A3, c3, rfl, _⟩ := ho.ri
  clear ho hb3 T
  go_wp2_with fail
  go_ret2
  exact ⟨_, rfl, HO.out, HB.out⟩

end Go.Proofs.Ytpencgbhiheiiaa
