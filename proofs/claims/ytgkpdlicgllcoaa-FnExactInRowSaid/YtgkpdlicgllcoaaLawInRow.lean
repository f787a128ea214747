/-
  InRow answers as its model at every argument, writes into no argument, and its answer owns its memory. No condition.
-/
import Derived.Test.YtgkpdlicgllcoaaBoB
import Derived.Test.YtgkpdlicgllcoaaSServer
import Derived.Test.YtgkpdlicgllcoaaSBucket
import Derived.Test.YtgkpdlicgllcoaaFrame
import Derived.Deep.RegionWith
import Derived.Deep.RegionHeld3
import Derived.Deep.DeepCutAuto
import Derived.Lib.SmallJoins
import Derived.Deep.Slices
import Derived.Deep.Fields
import Derived.ChangeSame
namespace Go.Proofs.Ytgkpdlicgllcoaa.lawInRow
open Go.RowKit Go.ChangeShapes Go.WideShapes Go.ChangeAt
set_option maxRecDepth 100000
set_option linter.unusedVariables false

theorem _root_.Go.RowKit.Below.allocS {w0 W : World} (h : Below w0.heap.size w0 W) (o : Obj) : Below w0.heap.size w0 (W.alloc o) := h.alloc h.size o
theorem _root_.Go.RowKit.Below.set2 {w0 W : World} (h : Below w0.heap.size w0 W) {g : Nat} (hg : w0.heap.size ≤ g) (u v : Value) : Below w0.heap.size w0 ((W.setCell ⟨g, 0, none⟩ u).setCell ⟨g, 1, none⟩ v) := (h.setCell (p := ⟨g, 0, none⟩) hg _).setCell (p := ⟨g, 1, none⟩) hg _
theorem drewHS (w : World) : w.drew.heap.size = w.heap.size := rfl
theorem _root_.Go.Proofs.Ytgkpdlicgllcoaa.BK.drewn {w : World} {g : Nat} {t : TypeId} {cs : Array Value} (h : BK w g t cs) : BK w.drew g t cs := h
set_option maxHeartbeats 4000000 in
theorem walk (x : Sv) (y : Sv) (w : World) : Calls Try.prog 10 #[SvV x, SvV y] w (RetV w (.bool true)) := by
  obtain ⟨q, b, hq⟩ : ∃ q b, (q, b) = rowSays x y := ⟨_, _, rfl⟩
  have HI : Hid (∀ W, Calls Try.prog 36 #[SvV x, SvV y] W (RetV W (.tuple #[SvV q, .bool b]))) := fun W => by
    have h := implInRow_any x y W
    rw [← hq] at h
    exact h
  have HS : Hid (∀ W, Calls Try.prog 35 #[SvV x, SvV y] W (RetV W (.tuple #[SvV q, .bool b]))) := fun W => by
    have h := specInRow_any x y W
    rw [← hq] at h
    exact h
  clear hq
  have HX := Lib.hid fun W => toServer_any x W
  have HY := Lib.hid fun W => toServer_any y W
  have HE := Lib.hid fun W => eqServer_same q W
  obtain ⟨xr, xl⟩ := x
  obtain ⟨yr, yl⟩ := y
  obtain ⟨qr, ql⟩ := q
  simp only [SvV] at HI HS HX HY HE ⊢
  have hs1 : (w.alloc (.cells #[.int .i64 xr, .int .i64 xl] 36)).heap.size = w.heap.size + 1 := by simp
  have p0 := (BK.made w 36 #[.int .i64 xr, .int .i64 xl]).alloc (.cells #[.int .i64 yr, .int .i64 yl] 36)
  have q0 := BK.made (w.alloc (.cells #[.int .i64 xr, .int .i64 xl] 36)) 36 #[.int .i64 yr, .int .i64 yl]
  have hW : Below w.heap.size w ((w.alloc (.cells #[.int .i64 xr, .int .i64 xl] 36)).alloc (.cells #[.int .i64 yr, .int .i64 yl] 36)) := ((Below.refl _ _).alloc (Nat.le_refl _) _).alloc (by rw [hs1]; omega) _
  rw [hs1] at q0
  obtain ⟨w0, hw0⟩ : ∃ w0, w0 = ((w.alloc (.cells #[.int .i64 xr, .int .i64 xl] 36)).alloc (.cells #[.int .i64 yr, .int .i64 yl] 36)) := ⟨_, rfl⟩
  rw [← hw0] at p0 q0 hW
  have HCL : Hid (∀ W, Below w0.heap.size w0 W → W.cell? ⟨w.heap.size, 0, none⟩ = some (.int .i64 xr) ∧ W.cell? ⟨w.heap.size, 1, none⟩ = some (.int .i64 xl) ∧ W.cell? ⟨w.heap.size + 1, 0, none⟩ = some (.int .i64 yr) ∧ W.cell? ⟨w.heap.size + 1, 1, none⟩ = some (.int .i64 yl)) := by
    show ∀ W, _
    intro W hb
    have p1 := p0.step hb
    have q1 := q0.step hb
    have c0 := p1.cell 0
    have c1 := p1.cell 1
    have c2 := q1.cell 0
    have c3 := q1.cell 1
    simp at c0 c1 c2 c3
    exact ⟨c0, c1, c2, c3⟩
  have HAX : Hid (∀ W, Below w0.heap.size w0 W → Calls Try.prog 28 #[.agg #[.int .i64 xr, .int .i64 xl]] W fun e W' => e = .returned (.agg #[.int .i64 xr, .int .i64 xl]) ∧ Below w0.heap.size w0 W' ∧ Below W.heap.size W W') := fun W hb => (HX.out W).mono fun _ _ ⟨he, hb'⟩ => ⟨he, hb.trans (hb'.mono hb.size), hb'⟩
  have HAY : Hid (∀ W, Below w0.heap.size w0 W → Calls Try.prog 28 #[.agg #[.int .i64 yr, .int .i64 yl]] W fun e W' => e = .returned (.agg #[.int .i64 yr, .int .i64 yl]) ∧ Below w0.heap.size w0 W' ∧ Below W.heap.size W W') := fun W hb => (HY.out W).mono fun _ _ ⟨he, hb'⟩ => ⟨he, hb.trans (hb'.mono hb.size), hb'⟩
  have HAS : Hid (∀ W, Below w0.heap.size w0 W → Calls Try.prog 35 #[.agg #[.int .i64 xr, .int .i64 xl], .agg #[.int .i64 yr, .int .i64 yl]] W fun e W' => e = .returned (.tuple #[.agg #[.int .i64 qr, .int .i64 ql], .bool b]) ∧ Below w0.heap.size w0 W' ∧ Below W.heap.size W W') := fun W hb => (HS.out W).mono fun _ _ ⟨he, hb'⟩ => ⟨he, hb.trans (hb'.mono hb.size), hb'⟩
  have HAI : Hid (∀ W, Below w0.heap.size w0 W → Calls Try.prog 36 #[.agg #[.int .i64 xr, .int .i64 xl], .agg #[.int .i64 yr, .int .i64 yl]] W fun e W' => e = .returned (.tuple #[.agg #[.int .i64 qr, .int .i64 ql], .bool b]) ∧ Below w0.heap.size w0 W' ∧ Below W.heap.size W W') := fun W hb => (HI.out W).mono fun _ _ ⟨he, hb'⟩ => ⟨he, hb.trans (hb'.mono hb.size), hb'⟩
  have HAE : Hid (∀ W, Below w0.heap.size w0 W → Calls Try.prog 37 #[.agg #[.int .i64 qr, .int .i64 ql], .agg #[.int .i64 qr, .int .i64 ql]] W fun e W' => e = .returned (.bool true) ∧ Below w0.heap.size w0 W' ∧ Below W.heap.size W W') := fun W hb => (HE.out W).mono fun _ _ ⟨he, hb'⟩ => ⟨he, hb.trans (hb'.mono hb.size), hb'⟩
  have HLT : Hid (∀ W, Below w0.heap.size w0 W → w.heap.size + 1 < W.heap.size) := by
    show ∀ W, _
    intro W hb
    have := hb.size
    have := q0.1
    omega
  clear HX HY HS HI HE hs1
  have c := HCL.out w0 (Below.refl _ _)
  obtain ⟨c0, c1, c2, c3⟩ := c
  obtain ⟨c4, c5, c6, c7⟩ := HCL.out _ (Below.allocS (Below.refl w0.heap.size w0) (.cells #[.int .i64 0, .int .i64 0] 38))
  have v0 := HLT.out _ (Below.refl w0.heap.size w0)
  have u0 : w.heap.size < w0.heap.size := by omega
  have z0 : w0.heap.size ≤ w0.heap.size := Nat.le_refl _
  have hd : Below w0.heap.size w0 w0.drew := (Below.refl _ _).drew
  have HW := Lib.hid hW
  have HP := Lib.hid p0
  have HQ := Lib.hid q0
  have HW0 := Lib.hid hw0
  clear p0 q0 hW hw0
  go_enter Try.func10, Try.ntmps10
  go_upto_region 1 with fail
  rw [← HW0.out]
  go_cut [5, 6] (fun sA sB wx => ∃ g, sA = .pointer (some ⟨g, 0, none⟩) ∧ sB = .bool b ∧ Hid (BK wx g 38 #[.int .i64 qr, .int .i64 ql]) ∧ Hid (w0.heap.size ≤ g) ∧ Hid (Below w0.heap.size w0 wx))
  case first =>
    go_region_held3 (fun w' => w'.cell? ⟨w.heap.size, 0, none⟩ = some (.int .i64 xr) ∧ w'.cell? ⟨w.heap.size, 1, none⟩ = some (.int .i64 xl) ∧ w'.cell? ⟨w.heap.size + 1, 0, none⟩ = some (.int .i64 yr) ∧ w'.cell? ⟨w.heap.size + 1, 1, none⟩ = some (.int .i64 yl)) (with_reducible first | exact ⟨c0, c1, c2, c3⟩ | (refine ⟨?_, ?_, ?_, ?_⟩ <;> assumption) | exact HCL.out _ (Below.set2 (by assumption) (by assumption) _ _) | exact HCL.out _ (Below.set2 (Below.allocS (by assumption) _) (by assumption) _ _) | go_keep) (first
      | (go_at_call 28; (with_reducible refine (HAX.out _ (by first | assumption | exact Below.allocS (by assumption) _ | exact (Below.allocS (Below.refl _ _) _).drew | exact Below.allocS (Below.refl _ _).drew _)).mono ?_); rintro e w7 ⟨rfl, hb7, hg7⟩; obtain ⟨d0, d1, d2, d3⟩ := HCL.out _ hb7; obtain ⟨d4, d5, d6, d7⟩ := HCL.out _ (Below.allocS hb7 (.cells #[.int .i64 0, .int .i64 0] 38)); have z7 := hb7.size; have v7 := HLT.out _ hb7; have u7 : w.heap.size < w7.heap.size := (by omega); (first | have bk7 := BK.step (BK.made _ _ _) hg7 | have bk7 := BK.step (BK.drewn (BK.made _ _ _)) hg7 | have bk7 := BK.step (by assumption) hg7 | skip); try (have m70 := bk7.cell 0; have m71 := bk7.cell 1; have n70 := bk7.free 0; have n71 := bk7.free 1; skip); (try simp at m70 m71); (try simp only [drewHS] at n70 n71))
      | (go_at_call 28; (with_reducible refine (HAY.out _ (by first | assumption | exact Below.allocS (by assumption) _ | exact (Below.allocS (Below.refl _ _) _).drew | exact Below.allocS (Below.refl _ _).drew _)).mono ?_); rintro e w8 ⟨rfl, hb8, hg8⟩; obtain ⟨e0, e1, e2, e3⟩ := HCL.out _ hb8; obtain ⟨e4, e5, e6, e7⟩ := HCL.out _ (Below.allocS hb8 (.cells #[.int .i64 0, .int .i64 0] 38)); have z8 := hb8.size; have v8 := HLT.out _ hb8; have u8 : w.heap.size < w8.heap.size := (by omega); (first | have bk8 := BK.step (BK.made _ _ _) hg8 | have bk8 := BK.step (BK.drewn (BK.made _ _ _)) hg8 | have bk8 := BK.step (by assumption) hg8 | skip); try (have m80 := bk8.cell 0; have m81 := bk8.cell 1; have n80 := bk8.free 0; have n81 := bk8.free 1; skip); (try simp at m80 m81); (try simp only [drewHS] at n80 n81))
      | (go_at_call 35; (with_reducible refine (HAS.out _ (by first | assumption | exact Below.allocS (by assumption) _ | exact (Below.allocS (Below.refl _ _) _).drew | exact Below.allocS (Below.refl _ _).drew _)).mono ?_); rintro e w9 ⟨rfl, hb9, hg9⟩; obtain ⟨f0, f1, f2, f3⟩ := HCL.out _ hb9; obtain ⟨f4, f5, f6, f7⟩ := HCL.out _ (Below.allocS hb9 (.cells #[.int .i64 0, .int .i64 0] 38)); have z9 := hb9.size; have v9 := HLT.out _ hb9; have u9 : w.heap.size < w9.heap.size := (by omega); (first | have bk9 := BK.step (BK.made _ _ _) hg9 | have bk9 := BK.step (BK.drewn (BK.made _ _ _)) hg9 | have bk9 := BK.step (by assumption) hg9 | skip); try (have m90 := bk9.cell 0; have m91 := bk9.cell 1; have n90 := bk9.free 0; have n91 := bk9.free 1; skip); (try simp at m90 m91); (try simp only [drewHS] at n90 n91)))
    all_goals
      go_wp2_with fail
      go_meet
      first
        | exact ⟨_, rfl, rfl, BK.made w9 _ _, z9, hb9.alloc z9 _⟩
        | exact ⟨_, rfl, rfl, (bk9.put 0 _).put 1 _, z8, Below.set2 hb9 z8 _ _⟩
        | exact ⟨_, rfl, rfl, (bk9.put 0 _).put 1 _, z7, Below.set2 hb9 z7 _ _⟩
        | exact ⟨_, rfl, rfl, (bk9.put 0 _).put 1 _, z0, Below.set2 hb9 z0 _ _⟩
  case rest =>
  rename World => w1
  obtain ⟨g1, rfl, rfl, HG1, HL1, HB1⟩ := hcut
  clear c0 c1 c2 c3 c4 c5 c6 c7 v0 u0 z0 hd
  have HCL1 : Hid (∀ W, Below w1.heap.size w1 W → W.cell? ⟨w.heap.size, 0, none⟩ = some (.int .i64 xr) ∧ W.cell? ⟨w.heap.size, 1, none⟩ = some (.int .i64 xl) ∧ W.cell? ⟨w.heap.size + 1, 0, none⟩ = some (.int .i64 yr) ∧ W.cell? ⟨w.heap.size + 1, 1, none⟩ = some (.int .i64 yl)) := fun W hb => HCL.out W (HB1.out.trans (hb.mono HB1.out.size))
  have HLT1 : Hid (∀ W, Below w1.heap.size w1 W → w.heap.size + 1 < W.heap.size) := fun W hb => HLT.out W (HB1.out.trans (hb.mono HB1.out.size))
  have HAX1 : Hid (∀ W, Below w1.heap.size w1 W → Calls Try.prog 28 #[.agg #[.int .i64 xr, .int .i64 xl]] W fun e W' => e = .returned (.agg #[.int .i64 xr, .int .i64 xl]) ∧ Below w1.heap.size w1 W' ∧ Below W.heap.size W W') := fun W hb => (HAX.out W (HB1.out.trans (hb.mono HB1.out.size))).mono fun _ _ ⟨he, _, hb'⟩ => ⟨he, hb.trans (hb'.mono hb.size), hb'⟩
  have HAY1 : Hid (∀ W, Below w1.heap.size w1 W → Calls Try.prog 28 #[.agg #[.int .i64 yr, .int .i64 yl]] W fun e W' => e = .returned (.agg #[.int .i64 yr, .int .i64 yl]) ∧ Below w1.heap.size w1 W' ∧ Below W.heap.size W W') := fun W hb => (HAY.out W (HB1.out.trans (hb.mono HB1.out.size))).mono fun _ _ ⟨he, _, hb'⟩ => ⟨he, hb.trans (hb'.mono hb.size), hb'⟩
  have HAI1 : Hid (∀ W, Below w1.heap.size w1 W → Calls Try.prog 36 #[.agg #[.int .i64 xr, .int .i64 xl], .agg #[.int .i64 yr, .int .i64 yl]] W fun e W' => e = .returned (.tuple #[.agg #[.int .i64 qr, .int .i64 ql], .bool b]) ∧ Below w1.heap.size w1 W' ∧ Below W.heap.size W W') := fun W hb => (HAI.out W (HB1.out.trans (hb.mono HB1.out.size))).mono fun _ _ ⟨he, _, hb'⟩ => ⟨he, hb.trans (hb'.mono hb.size), hb'⟩
  have hd : Below w1.heap.size w1 w1.drew := (Below.refl _ _).drew
  obtain ⟨c0, c1, c2, c3⟩ := HCL1.out w1 (Below.refl _ _)
  obtain ⟨c4, c5, c6, c7⟩ := HCL1.out _ (Below.allocS (Below.refl w1.heap.size w1) (.cells #[.int .i64 0, .int .i64 0] 38))
  have v0 := HLT1.out _ (Below.refl w1.heap.size w1)
  have u0 : w.heap.size < w1.heap.size := (by omega)
  have z0 : w1.heap.size ≤ w1.heap.size := Nat.le_refl _
  go_upto_region 2 with fail
  go_cut [7, 8] (fun sA sB wx => ∃ g, sA = .pointer (some ⟨g, 0, none⟩) ∧ sB = .bool b ∧ Hid (BK wx g 38 #[.int .i64 qr, .int .i64 ql]) ∧ Hid (w1.heap.size ≤ g) ∧ Hid (Below w1.heap.size w1 wx))
  case first =>
    go_region_held3 (fun w' => w'.cell? ⟨w.heap.size, 0, none⟩ = some (.int .i64 xr) ∧ w'.cell? ⟨w.heap.size, 1, none⟩ = some (.int .i64 xl) ∧ w'.cell? ⟨w.heap.size + 1, 0, none⟩ = some (.int .i64 yr) ∧ w'.cell? ⟨w.heap.size + 1, 1, none⟩ = some (.int .i64 yl)) (with_reducible first | exact ⟨c0, c1, c2, c3⟩ | (refine ⟨?_, ?_, ?_, ?_⟩ <;> assumption) | exact HCL1.out _ (Below.set2 (by assumption) (by assumption) _ _) | exact HCL1.out _ (Below.set2 (Below.allocS (by assumption) _) (by assumption) _ _) | go_keep) (first
      | (go_at_call 28; (with_reducible refine (HAX1.out _ (by first | assumption | exact Below.allocS (by assumption) _ | exact (Below.allocS (Below.refl _ _) _).drew | exact Below.allocS (Below.refl _ _).drew _)).mono ?_); rintro e w7 ⟨rfl, hb7, hg7⟩; obtain ⟨d0, d1, d2, d3⟩ := HCL1.out _ hb7; obtain ⟨d4, d5, d6, d7⟩ := HCL1.out _ (Below.allocS hb7 (.cells #[.int .i64 0, .int .i64 0] 38)); have z7 := hb7.size; have v7 := HLT1.out _ hb7; have u7 : w.heap.size < w7.heap.size := (by omega); (first | have bk7 := BK.step (BK.made _ _ _) hg7 | have bk7 := BK.step (BK.drewn (BK.made _ _ _)) hg7 | have bk7 := BK.step (by assumption) hg7 | skip); try (have m70 := bk7.cell 0; have m71 := bk7.cell 1; have n70 := bk7.free 0; have n71 := bk7.free 1; skip); (try simp at m70 m71); (try simp only [drewHS] at n70 n71))
      | (go_at_call 28; (with_reducible refine (HAY1.out _ (by first | assumption | exact Below.allocS (by assumption) _ | exact (Below.allocS (Below.refl _ _) _).drew | exact Below.allocS (Below.refl _ _).drew _)).mono ?_); rintro e w8 ⟨rfl, hb8, hg8⟩; obtain ⟨e0, e1, e2, e3⟩ := HCL1.out _ hb8; obtain ⟨e4, e5, e6, e7⟩ := HCL1.out _ (Below.allocS hb8 (.cells #[.int .i64 0, .int .i64 0] 38)); have z8 := hb8.size; have v8 := HLT1.out _ hb8; have u8 : w.heap.size < w8.heap.size := (by omega); (first | have bk8 := BK.step (BK.made _ _ _) hg8 | have bk8 := BK.step (BK.drewn (BK.made _ _ _)) hg8 | have bk8 := BK.step (by assumption) hg8 | skip); try (have m80 := bk8.cell 0; have m81 := bk8.cell 1; have n80 := bk8.free 0; have n81 := bk8.free 1; skip); (try simp at m80 m81); (try simp only [drewHS] at n80 n81))
      | (go_at_call 36; (with_reducible refine (HAI1.out _ (by first | assumption | exact Below.allocS (by assumption) _ | exact (Below.allocS (Below.refl _ _) _).drew | exact Below.allocS (Below.refl _ _).drew _)).mono ?_); rintro e w9 ⟨rfl, hb9, hg9⟩; obtain ⟨f0, f1, f2, f3⟩ := HCL1.out _ hb9; obtain ⟨f4, f5, f6, f7⟩ := HCL1.out _ (Below.allocS hb9 (.cells #[.int .i64 0, .int .i64 0] 38)); have z9 := hb9.size; have v9 := HLT1.out _ hb9; have u9 : w.heap.size < w9.heap.size := (by omega); (first | have bk9 := BK.step (BK.made _ _ _) hg9 | have bk9 := BK.step (BK.drewn (BK.made _ _ _)) hg9 | have bk9 := BK.step (by assumption) hg9 | skip); try (have m90 := bk9.cell 0; have m91 := bk9.cell 1; have n90 := bk9.free 0; have n91 := bk9.free 1; skip); (try simp at m90 m91); (try simp only [drewHS] at n90 n91)))
    all_goals
      go_wp2_with fail
      go_meet
      first
        | exact ⟨_, rfl, rfl, BK.made w9 _ _, z9, hb9.alloc z9 _⟩
        | exact ⟨_, rfl, rfl, (bk9.put 0 _).put 1 _, z8, Below.set2 hb9 z8 _ _⟩
        | exact ⟨_, rfl, rfl, (bk9.put 0 _).put 1 _, z7, Below.set2 hb9 z7 _ _⟩
        | exact ⟨_, rfl, rfl, (bk9.put 0 _).put 1 _, z0, Below.set2 hb9 z0 _ _⟩
  case rest =>
  rename World => w2
  obtain ⟨g2, rfl, rfl, HG2, HL2, HB2⟩ := hcut
  clear c0 c1 c2 c3 c4 c5 c6 c7 v0 u0 z0 hd
  have HB3 := Lib.hid (HB1.out.trans (HB2.out.mono HB1.out.size))
  have HK1 := Lib.hid (HG1.out.step HB2.out)
  have k0 := HK1.out.cell 0
  have k1 := HK1.out.cell 1
  have k2 := HG2.out.cell 0
  have k3 := HG2.out.cell 1
  simp at k0 k1 k2 k3
  have HEE := Lib.hid (HAE.out w2 HB3.out)
  go_wp2_with fail
  refine HEE.out.mono ?_; rintro e w3 ⟨rfl, hb3, _⟩
  go_wp2_with fail
  go_ret
  exact ⟨rfl, HW.out.trans (hb3.mono HW.out.size)⟩

set_option maxRecDepth 100000 in
theorem lifted (os : Os) (started : os.Started) (H : Type) (enc : TypeId × Value → H) :
    ReturnsInHanded {} Try.checked os 10 .any (Rows.fnExactInRowSpec.pre6 enc Try.prog Try.f10 Rows.fnExactInRowRow.domain false) (Rows.fnExactInRowSpec.post enc Try.prog Try.f10 false true false false) := by
  refine returnsInHanded_of_change (C := Try.checked) own started (by kernel_rfl) Try.func10
    (ChangeSpec.witness6 (enc := enc) (C := Try.checked) false ⟨#[], #[.agg #[.int .i64 0, .int .i64 0], .agg #[.int .i64 0, .int .i64 0]], []⟩ 8 (by kernel_rfl) (by kernel_rfl) (by kernel_rfl) (by kernel_rfl)) ?_
  intro W base args ds gs before hval0 hW hcnd _
  have hval : ∀ (j : Nat) t v, Try.f10.params[j]? = some t → args[j]? = some v → Value.okWide Try.prog W .any base t v := hval0
  have hW' := hW
  obtain ⟨p, q, hA0, hV, rfl, hfz, hnd⟩ := hW
  have hA : DataW.TrodAll enc Try.prog W 0 (fun _ => true) true Try.f10.params.toList args.toList ds p := hA0
  rw [Try.params10] at hA hval
  obtain ⟨v0, vs0, d0, ds0, p0, q0, hargs, rfl, rfl, h0, r0⟩ := trodAll_cons hA
  obtain ⟨v1, vs1, d1, ds1, p1, q1, rfl, rfl, rfl, h1, r1⟩ := trodAll_cons r0
  obtain ⟨rfl, rfl, rfl⟩ := trodAll_nil r1
  obtain rfl : args = #[v0, v1] := by cases args; simp_all
  obtain ⟨rfl, rfl⟩ := trodVars_none hV
  have k0 := h0
  have lt0 : ∀ x ∈ p0, x.block < W.heap.size := by obtain ⟨m, hm⟩ := k0; exact DataW.trod_lt m _ _ _ hm
  obtain ⟨e0_0, e0_1, y0_0, y0_1, m0, rfl, hd0, hp0, g0_0, g0_1⟩ := Go.Joins.open_agg2 Try.underlying36 (by kernel_rfl) (by kernel_rfl) (hval 0 36 v0 rfl rfl) h0
  obtain ⟨x0_0, hx0_0, _, w0_0⟩ := DataW.trod_int Try.underlying3 g0_0
  obtain rfl : e0_0 = .int .i64 x0_0 := by simpa using hx0_0
  obtain ⟨x0_1, hx0_1, _, w0_1⟩ := DataW.trod_int Try.underlying3 g0_1
  obtain rfl : e0_1 = .int .i64 x0_1 := by simpa using hx0_1
  have k1 := h1
  have lt1 : ∀ x ∈ p1, x.block < W.heap.size := by obtain ⟨m, hm⟩ := k1; exact DataW.trod_lt m _ _ _ hm
  obtain ⟨e1_0, e1_1, y1_0, y1_1, m1, rfl, hd1, hp1, g1_0, g1_1⟩ := Go.Joins.open_agg2 Try.underlying36 (by kernel_rfl) (by kernel_rfl) (hval 1 36 v1 rfl rfl) h1
  obtain ⟨x1_0, hx1_0, _, w1_0⟩ := DataW.trod_int Try.underlying3 g1_0
  obtain rfl : e1_0 = .int .i64 x1_0 := by simpa using hx1_0
  obtain ⟨x1_1, hx1_1, _, w1_1⟩ := DataW.trod_int Try.underlying3 g1_1
  obtain rfl : e1_1 = .int .i64 x1_1 := by simpa using hx1_1
  clear hA0 hval0
  refine (walk ⟨x0_0, x0_1⟩ ⟨x1_0, x1_1⟩ W ).mono fun e W' ⟨he, bel⟩ => ?_
  subst he
  exact ⟨_, rfl, _, _, _, [], _, [], hW', trodAll_mk1 (shut_bool Try.underlying4 _), (trodAll_cons_mk (Below.trod laidOut (by kernel_rfl) (of_decide_eq_true (by kernel_rfl)) k0 bel lt0) (trodAll_cons_mk (Below.trod laidOut (by kernel_rfl) (of_decide_eq_true (by kernel_rfl)) k1 bel lt1) trodAll_mk0)), rfl, bel.frame _, fun h => by cases h⟩

theorem closed : joinedFacts Try.pinned.checked.prog 10 Try.f10 Rows.fnExactInRowSpec Rows.fnExactInRowRow = true := by
  unfold joinedFacts
  repeat' (with_reducible refine and_t ?_ ?_)
  all_goals first
    | (with_reducible exact init_mayEnter)
    | (with_reducible refine init_lifted ?_; as_aux_lemma => kernel_rfl)
    | (with_reducible refine init_mk ?_; as_aux_lemma => kernel_rfl)
    | (as_aux_lemma => kernel_rfl)

theorem over : Rows.fnExactInRowRow.holds Try.pinned (OpenSpec.ofChange Rows.fnExactInRowSpec) :=
  OpenClaim.holds_of_wide 10 Try.f10 rfl rfl rfl rfl rfl rfl rfl ⟨rfl, rfl, rfl, rfl, rfl⟩ rfl rfl rfl rfl rfl (by kernel_rfl) Try.func10 closed
    (of_decide_eq_true (by kernel_rfl)) (by unfold Func.isWrapper; first | (rw [if_pos (by decide +kernel)]; kernel_rfl) | (rw [if_neg (by decide +kernel)]; exact ⟨rfl, rfl⟩))
    (fun os started H enc _ => lifted os started H enc)

/-- The given statement. -/
theorem proved : Rows.FnExactInRowSaid := over

end Go.Proofs.Ytgkpdlicgllcoaa.lawInRow
