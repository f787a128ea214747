/-
  The contracts of HopsOfMessage.
-/
import Derived.Test.YtmhcmbgbniaokaaSlC
namespace Go.Proofs.Ytmhcmbgbniaokaa
open Go.RowKit
set_option maxRecDepth 100000
set_option linter.unusedVariables false

def hopsMsOf (x : Sr) (y : Ms) : Int × Bool := hopsMs x y.t y.f y.o

theorem implHopsOfMessage_any (x : Sr) (y : Ms) (w : World) : Calls Try.prog 20 #[SrV x, MsV y] w (RetV w (.tuple #[.int .i64 (hopsMsOf x y).1, .bool (hopsMsOf x y).2])) := by
  obtain ⟨t, f, o⟩ := y
  have HG := Lib.hid (fun v w h => (slRing_any v x [⟨t, f, o⟩] w h (by simp)))
  cases hg : slOk x [⟨t, f, o⟩]
  · simp only [MsV, hopsMsOf]
    rw [hopsMs_no hg]
    rw [hg] at HG
    obtain ⟨k, hh⟩ := x
    simp only [SrV] at HG ⊢
    have hW : Below w.heap.size w ((w.alloc (.cells #[.int .i64 k, .bool hh] 25)).alloc (.cells #[.int .i64 t, .int .i64 f, .int .i64 o] 39)) := ((Below.refl _ _).alloc (Nat.le_refl _) _).alloc (by simp) _
    clear hg
    have HL := Lib.hid (lit1M ((w.alloc (.cells #[.int .i64 k, .bool hh] 25)).alloc (.cells #[.int .i64 t, .int .i64 f, .int .i64 o] 39)) t f o)
    have HW2 := Lib.hid (hW.alloc (by have := hW.size; omega) (.cells #[.int .i64 t, .int .i64 f, .int .i64 o] 39))
    go_enter Try.func20, Try.ntmps20
    go_wp2_with fail
    refine (HG.out _ _ (by simpa using HL.out)).mono ?_; rintro e w1 ⟨rfl, hb⟩
    go_wp2_with fail
    go_ret2
    exact ⟨rfl, HW2.out.trans (hb.mono HW2.out.size)⟩
  · simp only [MsV, hopsMsOf]
    rw [hopsMs_yes hg]
    have hin := isSr_in (slOk_in hg).1
    obtain ⟨_, hall, _⟩ := areMs_in (slOk_in hg).2
    have hy := hall _ (List.mem_singleton.2 rfl)
    have HH := Lib.hid (fun w => slHops_any x ⟨t, f, o⟩ w hin hy)
    rw [hg] at HG
    obtain ⟨k, hh⟩ := x
    simp only [SrV, MsV] at HG HH ⊢
    have hW : Below w.heap.size w ((w.alloc (.cells #[.int .i64 k, .bool hh] 25)).alloc (.cells #[.int .i64 t, .int .i64 f, .int .i64 o] 39)) := ((Below.refl _ _).alloc (Nat.le_refl _) _).alloc (by simp) _
    have hB := (BK.made w 25 #[.int .i64 k, .bool hh]).alloc (.cells #[.int .i64 t, .int .i64 f, .int .i64 o] 39)
    have hC := BK.made (w.alloc (.cells #[.int .i64 k, .bool hh] 25)) 39 #[.int .i64 t, .int .i64 f, .int .i64 o]
    clear hg hin hall hy
    have HL := Lib.hid (lit1M ((w.alloc (.cells #[.int .i64 k, .bool hh] 25)).alloc (.cells #[.int .i64 t, .int .i64 f, .int .i64 o] 39)) t f o)
    have HW2 := Lib.hid (hW.alloc (by have := hW.size; omega) (.cells #[.int .i64 t, .int .i64 f, .int .i64 o] 39))
    have HB := Lib.hid (hB.alloc (.cells #[.int .i64 t, .int .i64 f, .int .i64 o] 39))
    have HC := Lib.hid (hC.alloc (.cells #[.int .i64 t, .int .i64 f, .int .i64 o] 39))
    clear hB hC
    go_enter Try.func20, Try.ntmps20
    go_wp2_with fail
    refine (HG.out _ _ (by simpa using HL.out)).mono ?_; rintro e w1 ⟨rfl, hb⟩
    have T1 := HW2.out.trans (hb.mono HW2.out.size)
    have hB1 := HB.out.step hb
    have hC1 := HC.out.step hb
    have c0 := hB1.cell 0
    have c1 := hB1.cell 1
    have c2 := hC1.cell 0
    have c3 := hC1.cell 1
    have c4 := hC1.cell 2
    simp at c0 c1 c2 c3 c4
    go_wp2_with fail
    refine (HH.out _).mono ?_; rintro e w2 ⟨rfl, hb2⟩
    go_wp2_with fail
    go_ret2
    exact ⟨rfl, T1.trans (hb2.mono T1.size)⟩
theorem specHopsOfMessage_any (x : Sr) (y : Ms) (w : World) : Calls Try.prog 24 #[SrV x, MsV y] w (RetV w (.tuple #[.int .i64 (hopsMsOf x y).1, .bool (hopsMsOf x y).2])) := by
  obtain ⟨t, f, o⟩ := y
  have HG := Lib.hid (fun w => slGood_any x w)
  cases hg : isSr x
  · simp only [MsV, hopsMsOf]
    rw [hopsMs_no (by rw [slOk_one, hg, Bool.false_and])]
    rw [hg] at HG
    obtain ⟨k, hh⟩ := x
    simp only [SrV] at HG ⊢
    have hW : Below w.heap.size w ((w.alloc (.cells #[.int .i64 k, .bool hh] 25)).alloc (.cells #[.int .i64 t, .int .i64 f, .int .i64 o] 39)) := ((Below.refl _ _).alloc (Nat.le_refl _) _).alloc (by simp) _
    clear hg
    go_enter Try.func24, Try.ntmps24
    go_wp2_with fail
    refine (HG.out _).mono ?_; rintro e w1 ⟨rfl, hb⟩
    go_wp2_with fail
    go_ret2
    exact ⟨rfl, hW.trans (hb.mono hW.size)⟩
  have hin := isSr_in hg
  have HM := Lib.hid (fun w => slMessage_any x ⟨t, f, o⟩ w hin)
  have HS := Lib.hid (slOk_one x t f o)
  rw [hg] at HG
  rw [hg, Bool.true_and] at HS
  simp only [MsV, hopsMsOf] at HM ⊢
  cases hm : (wi t 0 100 && msOk x.n ⟨t, f, o⟩)
  · rw [hopsMs_no (by rw [HS.out, hm])]
    rw [hm] at HM
    obtain ⟨k, hh⟩ := x
    simp only [SrV] at HG HM ⊢
    have hW : Below w.heap.size w ((w.alloc (.cells #[.int .i64 k, .bool hh] 25)).alloc (.cells #[.int .i64 t, .int .i64 f, .int .i64 o] 39)) := ((Below.refl _ _).alloc (Nat.le_refl _) _).alloc (by simp) _
    have hB := (BK.made w 25 #[.int .i64 k, .bool hh]).alloc (.cells #[.int .i64 t, .int .i64 f, .int .i64 o] 39)
    have hC := BK.made (w.alloc (.cells #[.int .i64 k, .bool hh] 25)) 39 #[.int .i64 t, .int .i64 f, .int .i64 o]
    clear hg hm hin HS
    go_enter Try.func24, Try.ntmps24
    go_wp2_with fail
    refine (HG.out _).mono ?_; rintro e w1 ⟨rfl, hb⟩
    have T1 := hW.trans (hb.mono hW.size)
    have hB1 := hB.step hb
    have hC1 := hC.step hb
    have c0 := hB1.cell 0
    have c1 := hB1.cell 1
    have c2 := hC1.cell 0
    have c3 := hC1.cell 1
    have c4 := hC1.cell 2
    simp at c0 c1 c2 c3 c4
    go_wp2_with fail
    refine (HM.out _).mono ?_; rintro e w2 ⟨rfl, hb2⟩
    go_wp2_with fail
    go_ret2
    exact ⟨rfl, T1.trans (hb2.mono T1.size)⟩
  · rw [hopsMs_yes (by rw [HS.out, hm])]
    obtain ⟨_, hall, _⟩ := areMs_in (slOk_in (HS.out.trans hm)).2
    have hy := hall _ (List.mem_singleton.2 rfl)
    rw [hm] at HM
    obtain ⟨k, hh⟩ := x
    obtain ⟨_, _, h1, h2, h3, h4, h5⟩ := hy
    simp only [SrV, hopsI] at HG HM hin h1 h2 h3 h4 h5 ⊢
    have hW : Below w.heap.size w ((w.alloc (.cells #[.int .i64 k, .bool hh] 25)).alloc (.cells #[.int .i64 t, .int .i64 f, .int .i64 o] 39)) := ((Below.refl _ _).alloc (Nat.le_refl _) _).alloc (by simp) _
    have hB := (BK.made w 25 #[.int .i64 k, .bool hh]).alloc (.cells #[.int .i64 t, .int .i64 f, .int .i64 o] 39)
    have hC := BK.made (w.alloc (.cells #[.int .i64 k, .bool hh] 25)) 39 #[.int .i64 t, .int .i64 f, .int .i64 o]
    have e1 : IntKind.i64.wrap (o - f) = o - f := IntWalk.i64_in _ (by omega)
    have e2 : IntKind.i64.wrap (o - f + k) = o - f + k := IntWalk.i64_in _ (by omega)
    have hm0 : 0 ≤ (o - f + k).tmod k := Int.tmod_nonneg _ (by omega)
    have hm1 : (o - f + k).tmod k < k := Int.tmod_lt_of_pos _ (by omega)
    have e3 : IntKind.i64.wrap ((o - f + k).tmod k) = (o - f + k).tmod k := IntWalk.i64_in _ (by omega)
    have hk0 : k ≠ 0 := by omega
    have HE : Hid ((o - f + k) % k = (o - f + k).tmod k) := by
      show _ = _
      rw [Int.tmod_eq_emod_of_nonneg (by omega)]
    clear hg hm HS hall h5
    go_enter Try.func24, Try.ntmps24
    go_wp2_with fail
    refine (HG.out _).mono ?_; rintro e w1 ⟨rfl, hb⟩
    have T1 := hW.trans (hb.mono hW.size)
    have hB1 := hB.step hb
    have hC1 := hC.step hb
    have c0 := hB1.cell 0
    have c1 := hB1.cell 1
    have c2 := hC1.cell 0
    have c3 := hC1.cell 1
    have c4 := hC1.cell 2
    simp at c0 c1 c2 c3 c4
    go_wp2_with fail
    refine (HM.out _).mono ?_; rintro e w2 ⟨rfl, hb2⟩
    have hB2 := hB1.step hb2
    have hC2 := hC1.step hb2
    have d0 := hB2.cell 0
    have d1 := hB2.cell 1
    have d2 := hC2.cell 0
    have d3 := hC2.cell 1
    have d4 := hC2.cell 2
    simp at d0 d1 d2 d3 d4
    clear c0 c1 c2 c3 c4
    go_wp2_with fail
    go_ret2
    exact ⟨congrArg (fun z => Ending.returned (.tuple #[.int .i64 z, .bool true])) HE.out, T1.trans (hb2.mono T1.size)⟩
end Go.Proofs.Ytmhcmbgbniaokaa