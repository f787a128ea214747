/-
  WireOf: the program's side. The flag's bits are read off the package's variable.
-/
import Derived.Test.YtkaemocojgmlnaaDoorWire
import Derived.Deep.RegionHeld3
import Derived.Deep.DeepCutAuto
import Derived.RegionTactic
import Derived.BigRegion
namespace Go.Proofs.YtkaemocojgmlnaaDoor
open Go.RowKit
set_option maxRecDepth 100000
set_option linter.unusedVariables false

/-- The package's variable holds the bits of a flag. -/
def FlagW (w : World) : Prop := 0 < w.heap.size ∧ ∀ i, i < 8 → w.cell? ⟨0, i, none⟩ = some (.int .i64 (flagL.getD i 0))
theorem FlagW.below {w w' : World} {B : Nat} (h : FlagW w) (hb : Below B w w') (hB : 0 < B) : FlagW w' := ⟨Nat.lt_of_lt_of_le h.1 hb.size, fun i hi => (hb.cell (p := ⟨0, i, none⟩) hB).trans (h.2 i hi)⟩
theorem FlagW.cells {w : World} (h : FlagW w) : w.cell? ⟨0, 0, none⟩ = some (.int .i64 0) ∧ w.cell? ⟨0, 1, none⟩ = some (.int .i64 1) ∧ w.cell? ⟨0, 2, none⟩ = some (.int .i64 1) ∧ w.cell? ⟨0, 3, none⟩ = some (.int .i64 1) ∧ w.cell? ⟨0, 4, none⟩ = some (.int .i64 1) ∧ w.cell? ⟨0, 5, none⟩ = some (.int .i64 1) ∧ w.cell? ⟨0, 6, none⟩ = some (.int .i64 1) ∧ w.cell? ⟨0, 7, none⟩ = some (.int .i64 0) :=
  ⟨h.2 0 (by omega), h.2 1 (by omega), h.2 2 (by omega), h.2 3 (by omega), h.2 4 (by omega), h.2 5 (by omega), h.2 6 (by omega), h.2 7 (by omega)⟩

/-- The flag, a list, and the flag. -/
theorem wireCat_any (w5 : World) (g : Nat) (u : Value) (l : List Int) (hg : BK w5 g 73 #[.int .i64 0, .int .i64 1, .int .i64 1, .int .i64 1, .int .i64 1, .int .i64 1, .int .i64 1, .int .i64 0]) (hu : RI w5 w5.heap.size u l) (hsh : u = .slice none 0 0 ∨ ∃ ad n c, u = .slice (some ad) n c) (hl : l.length ≤ 1000) :
    Calls Tryd.prog 58 #[.slice (some ⟨w5.heap.size, 0, none⟩) 3 3] (w5.alloc (.cells #[.slice (some ⟨g, 0, none⟩) 8 8, u, .slice (some ⟨g, 0, none⟩) 8 8] 22)) (RetL 3 (w5.alloc (.cells #[.slice (some ⟨g, 0, none⟩) 8 8, u, .slice (some ⟨g, 0, none⟩) 8 8] 22)) (flagL ++ l ++ flagL)) := by
  have hm := BK.made w5 22 #[.slice (some ⟨g, 0, none⟩) 8 8, u, .slice (some ⟨g, 0, none⟩) 8 8]
  have hb3 : Below w5.heap.size w5 (w5.alloc (.cells #[.slice (some ⟨g, 0, none⟩) 8 8, u, .slice (some ⟨g, 0, none⟩) 8 8] 22)) := (Below.refl _ _).alloc (Nat.le_refl _) _
  have hfl : RI (w5.alloc (.cells #[.slice (some ⟨g, 0, none⟩) 8 8, u, .slice (some ⟨g, 0, none⟩) 8 8] 22)) (w5.alloc (.cells #[.slice (some ⟨g, 0, none⟩) 8 8, u, .slice (some ⟨g, 0, none⟩) 8 8] 22)).heap.size (.slice (some ⟨g, 0, none⟩) 8 8) flagL := by
    have y3 := hg.step hb3
    refine ⟨some ⟨g, 0, none⟩, 8, rfl, ⟨by decide, by unfold maxLen; omega, fun h => by cases h⟩, fun _ => ⟨g, 0, rfl, y3.1, fun j hj => ?_⟩⟩
    match j, hj with
    | 0, _ => exact y3.cell 0
    | 1, _ => exact y3.cell 1
    | 2, _ => exact y3.cell 2
    | 3, _ => exact y3.cell 3
    | 4, _ => exact y3.cell 4
    | 5, _ => exact y3.cell 5
    | 6, _ => exact y3.cell 6
    | 7, _ => exact y3.cell 7
  have hcat : cat [((.slice (some ⟨g, 0, none⟩) 8 8 : Value), flagL), (u, l), (.slice (some ⟨g, 0, none⟩) 8 8, flagL)] = flagL ++ l ++ flagL := by simp [cat]
  rw [← hcat]
  refine concat_any w5.heap.size 3 [((.slice (some ⟨g, 0, none⟩) 8 8 : Value), flagL), (u, l), (.slice (some ⟨g, 0, none⟩) 8 8, flagL)] _ hm.1 ?_ ?_ (by simp) (by rw [hcat]; simp [flagL]; omega)
  · intro j hj
    match j, hj with
    | 0, _ => exact hm.cell 0
    | 1, _ => exact hm.cell 1
    | 2, _ => exact hm.cell 2
  · intro q hq
    simp only [List.mem_cons, List.not_mem_nil, or_false] at hq
    rcases hq with rfl | rfl | rfl
    · exact ⟨hfl, .inr ⟨_, _, _, rfl⟩⟩
    · exact ⟨(hu.below hb3).more hb3.size, hsh⟩
    · exact ⟨hfl, .inr ⟨_, _, _, rfl⟩⟩

theorem implWireOf_any (v : Value) (x : Fr) (w : World) (hG : FlagW w) (h : RF w w.heap.size v x) (hn : x.d.length ≤ 1048576) :
    Calls Tryd.prog 28 #[v] w (RetLB 3 w (wireOf x).1 (wireOf x).2) := by
  obtain ⟨s, rfl, h⟩ := h
  obtain ⟨f, t, p, d⟩ := x
  simp only [frV] at h hn ⊢
  have h0 := h
  obtain ⟨A, c, rfl, hlc, hc⟩ := h
  clear hc
  have hb0 : Below w.heap.size w (w.alloc (.cells #[.int .i64 f, .int .i64 t, .int .i64 p, .slice A d.length c] 40)) := (Below.refl _ _).alloc (Nat.le_refl _) _
  have x0 := BK.made w 40 #[.int .i64 f, .int .i64 t, .int .i64 p, .slice A d.length c]
  have hf1 : RF _ _ (frV ⟨f, t, p, d⟩ (.slice A d.length c)) ⟨f, t, p, d⟩ := ⟨_, rfl, (h0.below hb0).more hb0.size⟩
  cases hF : isFr ⟨f, t, p, d⟩
  · rw [wireOf_no hF]
    go_enter Tryd.func28, Tryd.ntmps28
    go_wp2_with fail
    refine (implIsFrame_any _ ⟨f, t, p, d⟩ _ hf1 hn).mono ?_; rintro e w1 ⟨rfl, hb1⟩
    go_wp2_with fail
    go_ret2
    exact ⟨_, rfl, (Acc.nil _ _ _).oi, hb0.trans (hb1.mono hb0.size)⟩
  · rw [wireOf_yes hF]
    have HF := Lib.hid hF
    go_enter Tryd.func28, Tryd.ntmps28
    go_wp2_with fail
    refine (implIsFrame_any _ ⟨f, t, p, d⟩ _ hf1 hn).mono ?_; rintro e w1 ⟨rfl, hb1⟩
    have t1 := hb0.trans (hb1.mono hb0.size)
    have x1 := x0.step hb1
    have c10 := x1.cell 0
    have c11 := x1.cell 1
    have c12 := x1.cell 2
    have c13 := x1.cell 3
    simp at c10 c11 c12 c13
    have q1 := t1.size
    have r1 := (h0.below t1).more q1
    have G1 := hG.below t1 hG.1
    obtain ⟨g0, g1, g2, g3, g4, g5, g6, g7⟩ := G1.cells
    clear hf1 x0 hb1 hb0
    have hb2 : Below w1.heap.size w1 (w1.alloc (.cells #[.int .i64 0, .int .i64 1, .int .i64 1, .int .i64 1, .int .i64 1, .int .i64 1, .int .i64 1, .int .i64 0] 73)) := (Below.refl _ _).alloc (Nat.le_refl _) _
    have y2 := BK.made w1 73 #[.int .i64 0, .int .i64 1, .int .i64 1, .int .i64 1, .int .i64 1, .int .i64 1, .int .i64 1, .int .i64 0]
    have x2 := x1.step hb2
    go_upto_region 4 with fail
    obtain ⟨W2, hW2⟩ : ∃ W2, W2 = w1.alloc (.cells #[.int .i64 0, .int .i64 1, .int .i64 1, .int .i64 1, .int .i64 1, .int .i64 1, .int .i64 1, .int .i64 0] 73) := ⟨_, rfl⟩
    rw [← hW2] at hb2 y2 x2 ⊢
    clear hW2
    have t2 := t1.trans (hb2.mono q1)
    have r2 := (h0.below t2).more t2.size
    have b0 := x2.cell 0
    have b1 := x2.cell 1
    have b2 := x2.cell 2
    have b3 := x2.cell 3
    simp at b0 b1 b2 b3
    have hlen := wire_lens hF
    have HL1 : Hid ((bytesF ⟨f, t, p, d⟩).length ≤ 1048576) := by show _ ≤ _; omega
    have HL2 : Hid ((bitsL (bytesF ⟨f, t, p, d⟩)).length ≤ 1048576) := by show _ ≤ _; omega
    have HL3 : Hid ((stuffOf (bitsL (bytesF ⟨f, t, p, d⟩))).length ≤ 1000) := by show _ ≤ _; omega
    have HK1 := Lib.hid (bytesF_ok hF)
    have HK2 := Lib.hid (bitsL_ok (bytesF ⟨f, t, p, d⟩))
    have HWI : Hid (wireF ⟨f, t, p, d⟩ = flagL ++ stuffOf (bitsL (bytesF ⟨f, t, p, d⟩)) ++ flagL) := rfl
    have HX2 := Lib.hid x2
    have HY2 := Lib.hid y2
    have HT2 := Lib.hid t2
    have HBY := Lib.hid (fun wz (h : Below W2.heap.size W2 wz) => bytesOfFrame_any (frV ⟨f, t, p, d⟩ (.slice A d.length c)) ⟨f, t, p, d⟩ wz ⟨_, rfl, (r2.below h).more h.size⟩ HF.out)
    simp only [frV] at HBY
    have hq2 := t2.size
    clear hlen hF c10 c11 c12 c13 g0 g1 g2 g3 g4 g5 g6 g7 x1 y2 x2 r1 r2 hb2 t1 t2 G1 h0
    go_region_held3 (fun w' => w'.cell? ⟨w.heap.size, 0, none⟩ = some (.int .i64 f) ∧ w'.cell? ⟨w.heap.size, 1, none⟩ = some (.int .i64 t) ∧ w'.cell? ⟨w.heap.size, 2, none⟩ = some (.int .i64 p) ∧ w'.cell? ⟨w.heap.size, 3, none⟩ = some (.slice A d.length c)) (with_reducible first | exact ⟨b0, b1, b2, b3⟩ | exact ⟨d0, d1, d2, d3⟩ | exact ⟨e0, e1, e2, e3⟩ | exact ⟨i0, i1, i2, i3⟩ | exact ⟨j0, j1, j2, j3⟩ | go_keep)
      (first
        | (go_at_call 61; (with_reducible refine (HBY.out _ (Below.refl _ _).drew).mono ?_); rintro e w3 ⟨u3, rfl, ho3, hb3⟩; have t3 := (Below.refl W2.heap.size W2).drew.trans hb3; have y3 := HX2.out.step t3; have d0 := y3.cell 0; have d1 := y3.cell 1; have d2 := y3.cell 2; have d3 := y3.cell 3; simp at d0 d1 d2 d3; have HR3 := Lib.hid ho3.ri)
        | (go_at_call 60; (with_reducible refine (bitsOfBytes_any _ _ _ HR3.out HL1.out HK1.out).mono ?_); rintro e w4 ⟨u4, rfl, ho4, hb4⟩; have t4 := t3.trans (hb4.mono t3.size); have y4 := HX2.out.step t4; have e0 := y4.cell 0; have e1 := y4.cell 1; have e2 := y4.cell 2; have e3 := y4.cell 3; simp at e0 e1 e2 e3; have HR4 := Lib.hid ho4.ri)
        | (go_at_call 59; (with_reducible refine (stuffedBits_any _ _ _ HR4.out HL2.out HK2.out).mono ?_); rintro e w5 ⟨u5, rfl, ho5, hb5⟩; have t5 := t4.trans (hb5.mono t4.size); have y5 := HX2.out.step t5; have i0 := y5.cell 0; have i1 := y5.cell 1; have i2 := y5.cell 2; have i3 := y5.cell 3; simp at i0 i1 i2 i3; obtain ⟨A5, c5, rfl, _, _⟩ := ho5.ri; have HCC := Lib.hid (wireCat_any w5 w1.heap.size (.slice A5 (stuffOf (bitsL (bytesF ⟨f, t, p, d⟩))).length c5) _ (HY2.out.step t5) ho5.ri ho5.ri.shape HL3.out); have t6 := t5.trans ((Below.refl w5.heap.size w5).alloc (Nat.le_refl _) (.cells #[.slice (some ⟨w1.heap.size, 0, none⟩) 8 8, .slice A5 (stuffOf (bitsL (bytesF ⟨f, t, p, d⟩))).length c5, .slice (some ⟨w1.heap.size, 0, none⟩) 8 8] 22) |>.mono t5.size))
        | (go_at_call 58; (with_reducible refine HCC.out.mono ?_); rintro e w6 ⟨u6, rfl, ho6, hb6⟩; have t7 := t6.trans (hb6.mono t6.size); have y7 := HX2.out.step t7; have j0 := y7.cell 0; have j1 := y7.cell 1; have j2 := y7.cell 2; have j3 := y7.cell 3; simp at j0 j1 j2 j3))
    · have HO := Lib.hid (ho6.wide (lo' := w.heap.size) (by have := t6.size; omega) (Nat.le_refl _))
      have HT := Lib.hid (HT2.out.trans (t7.mono hq2))
      clear ho6 t7 hb6
      go_wp2_with fail
      go_ret2
      exact ⟨_, rfl, by rw [HWI.out]; exact HO.out, HT.out⟩
end Go.Proofs.YtkaemocojgmlnaaDoor
