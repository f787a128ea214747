/-
  Pieces: the contracts of the program's passedFrom and firstOfPiece.
-/
import Derived.Test.YtffmpkdkifecpaaRStep
import Derived.Test.YtffmpkdkifecpaaMathPiece
import Derived.Test.YtffmpkdkifecpaaAcc
import Derived.Test.YtffmpkdkifecpaaCat
import Derived.Deep.QuietTactic
import Derived.BigQuiet
import Derived.Deep.RegionHeld3
import Derived.Deep.DeepCutAuto
import Derived.RegionTactic
import Derived.BigRegion
namespace Go.Proofs.Ytffmpkdkifecpaa
open Go.RowKit
set_option maxRecDepth 100000
set_option linter.unusedVariables false

theorem BK.under {w w' : World} {g B : Nat} {t : TypeId} {cs : Array Value} (h : BK w g t cs) (hb : Below B w w') (hg : g < B) : BK w' g t cs := ⟨Nat.lt_of_lt_of_le h.1 hb.size, (hb.block g hg).trans h.2⟩
set_option maxHeartbeats 1000000 in
theorem firstOfPiece_any (v : Value) (d : List Int) (K : Nat) (s : Int) (w : World) (h : RRg w w.heap.size v ⟨K, d⟩) (hk : 2 ≤ (K : Int) ∧ (K : Int) ≤ 12) (hs : 0 ≤ s ∧ s < K) (hn : d.length ≤ 1048576) :
    Calls Try.prog 55 #[v, .int .i64 s] w (RetV w (.int .i64 (firstL d K s))) := by
  obtain ⟨sv, rfl, h⟩ := h
  simp only [RgV] at h ⊢
  have h3 := h
  obtain ⟨A, c, rfl, hlc, hc⟩ := h
  clear hc
  have hB0 := BK.made w 26 #[.int .i64 K, .slice A d.length c]
  have hW : Below w.heap.size w (w.alloc (.cells #[.int .i64 K, .slice A d.length c] 26)) := (Below.refl _ _).alloc (Nat.le_refl _) _
  have R0 := (h3.below hW).more hW.size
  obtain ⟨w0, hw0⟩ : ∃ w0, w0 = w.alloc (.cells #[.int .i64 K, .slice A d.length c] 26) := ⟨_, rfl⟩
  rw [← hw0] at hB0 hW R0
  obtain ⟨F, hF⟩ : ∃ F, F = firstL d K s := ⟨_, rfl⟩
  rw [← hF]
  have HF : Hid (F = firL d K s (K - 1) 0) := hF
  clear hF
  have hs0 := hW.size
  have hg0 := hB0.1
  go_enter Try.func55, Try.ntmps55
  go_wp2_with fail
  rw [← hw0]
  clear hw0
  go_loopw [5] (fun u wr => ∃ j n : Nat, j + n + 1 = K ∧ u = .int .i64 (stB K s j) ∧ F = firL d K s n j ∧ Below w0.heap.size w0 wr) (fun u _ => K - ((s - intOf u) % K).toNat)
  case atStart => exact ⟨0, K - 1, by omega, by rw [stB_zero hs], HF.out, Below.refl _ _⟩
  case round =>
    obtain ⟨j, n, hjn, rfl, hf, hbw⟩ := hrel
    have hq := hB0.step hbw
    have q0 := hq.cell 0
    have q1 := hq.cell 1
    simp at q0 q1
    have R1 := (R0.step hbw (Nat.le_refl _)).more hbw.size
    have hst := stB_in (k := (K : Int)) (by omega) s j
    have hst2 := stB_in (k := (K : Int)) (by omega) s (j + 1)
    have HG := Lib.hid (gap_stB (k := (K : Int)) (s := s) (j := j) (by omega) (by omega))
    have HB := Lib.hid (backwards_any _ ⟨K, d⟩ (stB K s j) wr ⟨_, rfl, R1⟩ hk hst hn)
    simp only [RgV, bw] at HB
    rw [bf_stB] at HB
    have hbk := stB_back (k := (K : Int)) hs (j := j + 1) (by omega) (by omega)
    have hsz := hbw.size
    have HT := Lib.hid (hW.trans (hbw.mono hW.size))
    cases hh : hasI d (stB K s (j + 1))
    · rw [hh] at HB
      simp only [Bool.false_eq_true, if_false, optV] at HB
      cases n with
      | zero =>
        have HF2 : Hid (F = s) := by show _ = _; rw [hf, firL_last hh]
        have he : stB K s (j + 1) = s := hbk.2 (by omega)
        have hbe : (stB K s (j + 1) == s) = true := by rw [he]; simp
        generalize stB K s (j + 1) = y at HB hbe hst2
        clear hf hbk he hh hq R1
        go_wp2_with fail
        refine HB.out.mono ?_; rintro e w1 ⟨rfl, hb1⟩
        go_wp2_with fail
        go_ret
        exact ⟨congrArg (fun z => Ending.returned (.int .i64 z)) HF2.out.symm, HT.out.trans (hb1.mono HT.out.size)⟩
      | succ n =>
        have HF2 : Hid (F = firL d K s n (j + 1)) := by show _ = _; rw [hf, firL_next hh]
        have he : stB K s (j + 1) ≠ s := fun e => by have := hbk.1 e; omega
        have hbe : (stB K s (j + 1) == s) = false := by simpa using he
        have HG2 := Lib.hid (gap_stB (k := (K : Int)) (s := s) (j := j + 1) (by omega) (by omega))
        clear hf hbk he hh hq R1
        go_wp2_with fail
        refine HB.out.mono ?_; rintro e w1 ⟨rfl, hb1⟩
        go_wp2_with fail
        go_roundw
        case rel => exact ⟨j + 1, n, by omega, rfl, HF2.out, hbw.trans (hb1.mono hsz)⟩
        case measure => simp only [intOf]; rw [HG.out, HG2.out]; omega
    · rw [hh] at HB
      simp only [if_true, optV] at HB
      have HF2 : Hid (F = stB K s j) := by show _ = _; rw [hf, firL_yes hh]
      clear hf hbk hh hq R1
      go_wp2_with fail
      refine HB.out.mono ?_; rintro e w1 ⟨rfl, hb1⟩
      go_wp2_with fail
      go_ret
      exact ⟨congrArg (fun z => Ending.returned (.int .i64 z)) HF2.out.symm, HT.out.trans (hb1.mono HT.out.size)⟩

set_option maxHeartbeats 1000000 in
theorem passedFrom_any (v : Value) (d : List Int) (K : Nat) (s : Int) (w : World) (h : RRg w w.heap.size v ⟨K, d⟩) (hk : 2 ≤ (K : Int) ∧ (K : Int) ≤ 12) (hs : 0 ≤ s ∧ s < K) (hn : d.length ≤ 1048576) :
    Calls Try.prog 54 #[v, .int .i64 s] w (RetL 3 w (passL d K s)) := by
  obtain ⟨sv, rfl, h⟩ := h
  simp only [RgV] at h ⊢
  have h3 := h
  obtain ⟨A, c, rfl, hlc, hc⟩ := h
  clear hc
  obtain ⟨i0, hi, hz0, hz1, hz2⟩ := info_parts int_info
  have hB0 := (BK.made w 26 #[.int .i64 K, .slice A d.length c]).alloc (.cells #[.int .i64 s] 3)
  have hW : Below w.heap.size w ((w.alloc (.cells #[.int .i64 K, .slice A d.length c] 26)).alloc (.cells #[.int .i64 s] 3)) := ((Below.refl _ _).alloc (Nat.le_refl _) _).alloc (by simp) _
  have R0 := h3.below hW
  have hacc0 := Acc.lit1 (E := 3) (w := w.alloc (.cells #[.int .i64 K, .slice A d.length c] 26)) (lo := w.heap.size + 1) (x := s) (g := w.heap.size + 1) (by simp)
  obtain ⟨w0, hw0⟩ : ∃ w0, w0 = (w.alloc (.cells #[.int .i64 K, .slice A d.length c] 26)).alloc (.cells #[.int .i64 s] 3) := ⟨_, rfl⟩
  rw [← hw0] at hB0 hW R0 hacc0
  have hs1 : w.heap.size + 1 < w0.heap.size := by rw [hw0]; simp
  obtain ⟨N, hN⟩ : ∃ N, N = runL d K s (K - 1) 0 := ⟨_, rfl⟩
  have HP : Hid (passL d K s = upL K s N) := by show _ = _; unfold passL; rw [hN]
  have HN := Lib.hid hN
  clear hN
  have hs0 := hW.size
  have hg0 := hB0.1
  go_enter Try.func54, Try.ntmps54
  go_wp2_with fail
  rw [← hw0]
  clear hw0
  go_loopw [5] (fun u wr => ∃ j n : Nat, j + n + 1 = K ∧ N = runL d K s n j ∧ Acc 3 wr (w.heap.size + 1) u (upL K s (j + 1)) ∧ Below (w.heap.size + 1) w0 wr) (fun u _ => match u with | .slice _ n _ => K - n | _ => 0)
  case atStart => exact ⟨0, K - 1, by omega, HN.out, by simpa [upL, stF_zero hs] using hacc0, Below.refl _ _⟩
  case round =>
    obtain ⟨j, n, hjn, hf, hacc, hbw⟩ := hrel
    have hq := hB0.under hbw (by omega)
    have q0 := hq.cell 0
    have q1 := hq.cell 1
    simp at q0 q1
    have R1 := (R0.below (hbw.mono (by omega))).more (B' := wr.heap.size) (by have := hbw.size; omega)
    have hst := stF_in (k := (K : Int)) (by omega) s j
    have hst2 := stF_in (k := (K : Int)) (by omega) s (j + 1)
    have hbk := stF_back (k := (K : Int)) hs (j := j + 1) (by omega) (by omega)
    have hsz := hbw.size
    have HT := Lib.hid (hW.trans (hbw.mono (by omega)))
    have hul := upL_len K s (j + 1)
    obtain ⟨A5, c5, rfl⟩ := acc_shape hacc
    have hcl : ∃ g, A5 = some ⟨g, 0, none⟩ ∧ g < wr.heap.size ∧ wr.cell? ⟨g, j, none⟩ = some (.int .i64 (stF K s j)) := by
      rcases hacc.2 with ⟨_, hn0⟩ | ⟨g, c9, cur, he, _, hh9, _⟩
      · rw [hul] at hn0; omega
      · injection he with he1 he2 he3
        subst he1
        subst he3
        refine ⟨g, rfl, (Array.getElem?_eq_some_iff.1 hh9).1, ?_⟩
        rw [World.ownsRow.cellAt hacc j (by omega), ics_get _ _ (by omega)]
        simp [upL, List.getD]
    obtain ⟨g, rfl, hgs, hcl⟩ := hcl
    rw [hul] at hacc
    rw [hul]
    obtain ⟨m, hm⟩ : ∃ m, m = j + 1 := ⟨_, rfl⟩
    rw [← hm] at hacc ⊢
    have e9 : IntKind.i64.wrap ((m : Int) - 1) = (j : Int) := by rw [IntWalk.i64_in _ (by omega)]; omega
    have hjl : (j : Int) < (m : Int) := by omega
    have hj0 : (0 : Int) ≤ (j : Int) := by omega
    have HM := Lib.hid hm
    rw [hm] at hacc
    rw [← hm] at hacc
    clear hm
    have hfw := forwards_any (RgV ⟨K, d⟩ (.slice A d.length c)) ⟨K, d⟩ (stF K s j) wr.drew ⟨_, rfl, R1.drewN 1⟩ hk hst hn
    simp only [RgV, fw, nx_stF] at hfw
    have HQ := Lib.hid hq
    have HGS := Lib.hid hgs
    have HAC := Lib.hid hacc
    have HBW := Lib.hid hbw
    have HR := Lib.hid R1
    cases hh : hasI d (stF K s j)
    · rw [hh] at hfw
      simp only [Bool.false_eq_true, if_false, optV] at hfw
      have HFW := Lib.hid hfw
      cases n with
      | zero =>
        have HF2 : Hid (N = j + 1) := by show _ = _; rw [hf, runL_last]
        have he : stF K s (j + 1) = s := hbk.2 (by omega)
        have hbe : (stF K s (j + 1) == s) = true := by rw [he]; simp
        generalize stF K s j = x at hcl HFW hst
        generalize stF K s (j + 1) = y at HFW hbe hst2
        clear hf hbk he hh hq R1 R0 hacc hbw hacc0 hB0 hfw hul hs h3
        go_upto_region 2 with fail
        go_region_held3 (fun w' => w'.cell? ⟨w.heap.size, 0, none⟩ = some (.int .i64 K) ∧ w'.cell? ⟨w.heap.size, 1, none⟩ = some (.slice A d.length c) ∧ w'.cell? ⟨g, j, none⟩ = some (.int .i64 x)) (with_reducible first | exact ⟨q0, q1, hcl⟩ | exact ⟨d0, d1, d2⟩ | go_keep)
          (first | (go_at_call 56; (with_reducible refine HFW.out.mono ?_); rintro e w3 ⟨rfl, hb3⟩; have t3 := (Below.refl wr.heap.size wr).drew.trans hb3; have y3 := HQ.out.step t3; have d0 := y3.cell 0; have d1 := y3.cell 1; have d2 := (t3.cell (p := ⟨g, j, none⟩) HGS.out).trans hcl; simp at d0 d1))
        · have HT3 := Lib.hid (HT.out.trans (t3.mono HT.out.size))
          have HA3 := Lib.hid ((HAC.out.step t3).oi.wide (lo' := w.heap.size) (by omega) (Nat.le_refl _))
          clear hb3 t3 y3
          go_wp2_with fail
          go_ret
          refine ⟨_, rfl, ?_, HT3.out⟩
          rw [HP.out, HF2.out, ← HM.out]
          exact HA3.out
      | succ n =>
        have HF2 : Hid (N = runL d K s n (j + 1)) := by show _ = _; rw [hf, runL_next hh]
        have he : stF K s (j + 1) ≠ s := fun e => by have := hbk.1 e; omega
        have hbe : (stF K s (j + 1) == s) = false := by simpa using he
        have HU : Hid (upL K s (j + 1 + 1) = upL K s m ++ [stF K s (j + 1)]) := by show _ = _; rw [upL_succ, ← HM.out]
        have hul2 : (upL K s m).length < 1000000000 := by rw [upL_len]; have := HM.out; omega
        generalize stF K s j = x at hcl HFW hst
        generalize stF K s (j + 1) = y at HFW hbe hst2 HU
        clear hf hbk he hh hq R1 R0 hacc hbw hacc0 hB0 hfw hul hs h3
        go_upto_region 2 with fail
        go_region_held3 (fun w' => w'.cell? ⟨w.heap.size, 0, none⟩ = some (.int .i64 K) ∧ w'.cell? ⟨w.heap.size, 1, none⟩ = some (.slice A d.length c) ∧ w'.cell? ⟨g, j, none⟩ = some (.int .i64 x)) (with_reducible first | exact ⟨q0, q1, hcl⟩ | exact ⟨d0, d1, d2⟩ | go_keep)
          (first | (go_at_call 56; (with_reducible refine HFW.out.mono ?_); rintro e w3 ⟨rfl, hb3⟩; have t3 := (Below.refl wr.heap.size wr).drew.trans hb3; have y3 := HQ.out.step t3; have d0 := y3.cell 0; have d1 := y3.cell 1; have d2 := (t3.cell (p := ⟨g, j, none⟩) HGS.out).trans hcl; simp at d0 d1))
        · have HB3 := Lib.hid (HBW.out.trans (t3.mono (by have := HBW.out.size; omega)))
          have hacc3 := HAC.out.step t3
          have hsz3 : w.heap.size + 1 ≤ w3.heap.size := by have := HBW.out.size; have := t3.size; omega
          have hb9 := HB3.out
          clear hb3 t3 y3
          go_wp2_with (at_builtin; refine wpList_push rfl _ _ 22 rfl 3 i0 Try.underlying22 hi hz0 hz1 hz2 w3 w0 (w.heap.size + 1) _ (upL K s m) y rfl rfl hacc3 rfl hul2 hsz3 hb9 ?_; intro v4 w4 hacc4 hb4)
          rw [← HU.out] at hacc4
          have hv4 : ∃ A9 c9, v4 = .slice A9 (m + 1) c9 := by
            obtain ⟨A9, c9, h9⟩ := acc_shape hacc4
            rw [upL_len, ← HM.out] at h9
            exact ⟨A9, c9, h9⟩
          obtain ⟨A9, c9, rfl⟩ := hv4
          go_roundw
          case rel => exact ⟨j + 1, n, by omega, HF2.out, hacc4, hb4⟩
          case measure => have := HM.out; simp; omega
    · rw [hh] at hfw
      simp only [if_true, optV] at hfw
      have HFW := Lib.hid hfw
      have HF2 : Hid (N = j + 1) := by show _ = _; rw [hf, runL_yes hh]
      generalize stF K s j = x at hcl HFW hst
      clear hf hbk hh hq R1 R0 hacc hbw hacc0 hB0 hfw hul hs h3
      go_upto_region 2 with fail
      go_region_held3 (fun w' => w'.cell? ⟨w.heap.size, 0, none⟩ = some (.int .i64 K) ∧ w'.cell? ⟨w.heap.size, 1, none⟩ = some (.slice A d.length c) ∧ w'.cell? ⟨g, j, none⟩ = some (.int .i64 x)) (with_reducible first | exact ⟨q0, q1, hcl⟩ | exact ⟨d0, d1, d2⟩ | go_keep)
        (first | (go_at_call 56; (with_reducible refine HFW.out.mono ?_); rintro e w3 ⟨rfl, hb3⟩; have t3 := (Below.refl wr.heap.size wr).drew.trans hb3; have y3 := HQ.out.step t3; have d0 := y3.cell 0; have d1 := y3.cell 1; have d2 := (t3.cell (p := ⟨g, j, none⟩) HGS.out).trans hcl; simp at d0 d1))
      · have HT3 := Lib.hid (HT.out.trans (t3.mono HT.out.size))
        have HA3 := Lib.hid ((HAC.out.step t3).oi.wide (lo' := w.heap.size) (by omega) (Nat.le_refl _))
        clear hb3 t3 y3
        go_wp2_with fail
        go_ret
        refine ⟨_, rfl, ?_, HT3.out⟩
        rw [HP.out, HF2.out, ← HM.out]
        exact HA3.out
end Go.Proofs.Ytffmpkdkifecpaa
