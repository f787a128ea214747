/-
  A line of the model: one begins; the starts by rank.
-/
import Derived.Test.YteoggoopfjkdkaaMathBy
import Derived.Deep.LoopGhost
namespace Go.Proofs.Yteoggoopfjkdkaa
open Go.RowKit
set_option maxRecDepth 100000
set_option linter.unusedVariables false

theorem PN.putNow {w : World} {g : Nat} {vj vs : Value} {js : List Jb} {sp : List Int} {now done : Int} (h : PN w g vj js vs sp now done) (t : Int) : PN (w.setCell ⟨g, 2, none⟩ (.int .i64 t)) g vj js vs sp t done := by
  have hk := h.bk.put 2 (.int .i64 t)
  have hwr := (Wr.refl g (g + 1) w).at 2 (.int .i64 t)
  exact ⟨hk, RK.below h.jobs (hwr.below (Nat.le_refl _) (Nat.le_of_lt h.lt)), Acc.far h.row hwr (Nat.le_refl _)⟩
theorem PN.putDone {w : World} {g : Nat} {vj vs : Value} {js : List Jb} {sp : List Int} {now done : Int} (h : PN w g vj js vs sp now done) (t : Int) : PN (w.setCell ⟨g, 3, none⟩ (.int .i64 t)) g vj js vs sp now t := by
  have hk := h.bk.put 3 (.int .i64 t)
  have hwr := (Wr.refl g (g + 1) w).at 3 (.int .i64 t)
  exact ⟨hk, RK.below h.jobs (hwr.below (Nat.le_refl _) (Nat.le_of_lt h.lt)), Acc.far h.row hwr (Nat.le_refl _)⟩
theorem PN.start_at {w : World} {g : Nat} {vj vs : Value} {js : List Jb} {sp : List Int} {now done : Int} (h : PN w g vj js vs sp now done) (i : Nat) (hi : i < sp.length) :
    ∃ b c, vs = .slice (some ⟨b, 0, none⟩) sp.length c ∧ g < b ∧ b < w.heap.size ∧ w.cell? ⟨b, i, none⟩ = some (.int .i64 (sp.getD i 0)) ∧ w.frozen? ⟨b, i, none⟩ = false ∧
      ∀ t, PN (w.setCell ⟨b, i, none⟩ (.int .i64 t)) g vj js vs (sp.set i t) now done := by
  have ho := Acc.oi h.row
  rcases ho with ⟨h1, _⟩ | ⟨b, c, hv, hlo, hhi, hr⟩
  · rw [h1] at hi; simp at hi
  · refine ⟨b, c, hv, by omega, hhi, ?_, World.ownsRow.frozenAt hr i, fun t => ?_⟩
    · rw [World.ownsRow.cellAt hr i (by omega), ics_get sp i hi]
    · have hwr := (Wr.refl b (b + 1) w).at i (.int .i64 t)
      have hs := (World.ownsRow.stored hr i (.int .i64 t)).1
      have e : (ics sp).set i (.int .i64 t) = ics (sp.set i t) := by simp [ics, List.map_set]
      rw [e] at hs
      refine ⟨h.bk.far hwr (.inl (by omega)), RK.below h.jobs (hwr.below (by omega) (Nat.le_of_lt h.lt)), ?_⟩
      unfold Acc
      rw [hv, List.length_set]
      exact hs
set_option maxHeartbeats 2000000 in
theorem prBegin_any (g : Nat) (vj vs : Value) (js : List Jb) (sp : List Int) (now done : Int) (i : Nat) (w : World) (h : PN w g vj js vs sp now done) (hi : i < js.length) (hl : sp.length = js.length) (hn : js.length ≤ 20)
    (hb : 0 ≤ now ∧ now ≤ 100000) (hd : 0 ≤ done ∧ done ≤ 100) (hy : 1 ≤ js[i]!.l ∧ js[i]!.l ≤ 20) :
    Calls Try.prog 47 #[.pointer (some ⟨g, 0, none⟩), .int .i64 i] w fun e w' => e = .returned (.tuple #[]) ∧ PN w' g vj js vs (sp.set i now) (now + js[i]!.l) (done + 1) ∧ Below g w w' := by
  obtain ⟨b, c, rfl, hgb, hbs, x0, xf, hput⟩ := h.start_at i (by omega)
  obtain ⟨b4, off4, c4, rfl, hb4, _, _, e2⟩ := left_cells h.jobs i hi
  rw [hl] at h hput ⊢
  have H1 := Lib.hid (hput now)
  have hgs := h.lt
  have hii : (i : Int) < (js.length : Int) := by omega
  have HB1 : Hid (Below g w (w.setCell ⟨b, i, none⟩ (.int .i64 now))) := (Below.refl _ _).setCell (p := ⟨b, i, none⟩) (Nat.le_of_lt hgb) _
  have c0 := h.bk.cell 0
  have c1 := h.bk.cell 1
  have c2 := h.bk.cell 2
  simp at c0 c1 c2
  have d0 := H1.out.bk.cell 0
  have d2 := H1.out.bk.cell 2
  have f2 := H1.out.bk.free 2
  simp at d0 d2
  obtain ⟨b5, off5, c5, hv5, _, _, _, e5⟩ := left_cells H1.out.jobs i hi
  injection hv5 with hA5 _ hC5
  injection hA5 with hA5
  injection hA5 with hA5 hO5
  subst hA5; subst hO5; subst hC5
  obtain ⟨LL, hLL⟩ : ∃ x, js[i]!.l = x := ⟨_, rfl⟩
  rw [hLL] at e2 e5 hy ⊢
  have H2 := Lib.hid (H1.out.putNow (now + LL))
  have e1 : IntKind.i64.wrap (now + LL) = now + LL := IntWalk.i64_in _ (by omega)
  have e3 : IntKind.i64.wrap (done + 1) = done + 1 := IntWalk.i64_in _ (by omega)
  have a3 := H2.out.bk.cell 3
  have g3 := H2.out.bk.free 3
  simp at a3
  have H3 := Lib.hid (H2.out.putDone (done + 1))
  have HB3 : Hid (Below g w (((w.setCell ⟨b, i, none⟩ (.int .i64 now)).setCell ⟨g, 2, none⟩ (.int .i64 (now + LL))).setCell ⟨g, 3, none⟩ (.int .i64 (done + 1)))) := (HB1.out.setCell (p := ⟨g, 2, none⟩) (Nat.le_refl _) _).setCell (p := ⟨g, 3, none⟩) (Nat.le_refl _) _
  clear h hput hLL
  go_enter Try.func47, Try.ntmps47
  go_wp2_with fail
  go_region
  all_goals
    go_wp2_with fail
    go_region
    all_goals
      go_wp2_with fail
      go_end0
      exact ⟨rfl, ⟨H3.out.bk, H3.out.jobs, H3.out.row⟩, HB3.out.drew.drew⟩
/-- What 'prNew' leaves. -/
def RetNew (v : Value) (js : List Jb) (w : World) (e : Ending) (w' : World) : Prop :=
  ∃ vs, e = .returned (.pointer (some ⟨w.heap.size, 0, none⟩)) ∧ PN w' w.heap.size v js vs (List.replicate js.length (-1)) 0 0 ∧ Below w.heap.size w w'
set_option maxHeartbeats 2000000 in
theorem prNew_any (v : Value) (js : List Jb) (w : World) (h : RJbS w w.heap.size v js) (hn : js.length ≤ 20) :
    Calls Try.prog 44 #[v] w (RetNew v js w) := by
  obtain ⟨i0, hi, hz0, hz1, hz2⟩ := info_parts int_info
  have hv : ∃ A c, v = .slice A js.length c := by obtain ⟨A, c, hv, _⟩ := h; exact ⟨A, c, hv⟩
  obtain ⟨A, c, rfl⟩ := hv
  have hb0 : Below w.heap.size w (w.alloc (.cells #[.slice A js.length c, .slice none 0 0, .int .i64 0, .int .i64 0] 72)) := (Below.refl _ _).alloc (Nat.le_refl _) _
  have HP0 : Hid (PN (w.alloc (.cells #[.slice A js.length c, .slice none 0 0, .int .i64 0, .int .i64 0] 72)) w.heap.size (.slice A js.length c) js (.slice none 0 0) (List.replicate 0 (-1)) 0 0) :=
    ⟨BK.made w _ _, RK.below h hb0, Acc.nil _ _ _⟩
  have HB0 := Lib.hid hb0
  obtain ⟨n, hN⟩ : ∃ n, js.length = n := ⟨_, rfl⟩
  unfold RetNew
  rw [hN] at hn HP0 HB0 ⊢
  have hn' : (n : Int) ≤ 20 := by omega
  have HN := Lib.hid hN
  clear h hb0 hN
  go_enter Try.func44, Try.ntmps44
  go_wp2_with fail
  go_loopw [9] (fun i wr => ∃ (k : Nat) (vs : Value), k ≤ n ∧ i = .int .i64 k ∧ PN wr w.heap.size (.slice A n c) js vs (List.replicate k (-1)) 0 0 ∧ Below w.heap.size w wr) (fun i _ => n - (intOf i).toNat)
  case atStart => exact ⟨0, _, Nat.zero_le _, rfl, HP0.out, HB0.out⟩
  case round =>
    obtain ⟨k, vs, hk, rfl, hpn, hbw⟩ := hrel
    have hgs := hpn.lt
    by_cases hlt : k < n
    · have hki : (k : Int) < (n : Int) := by omega
      have c1 := hpn.bk.cell 1
      simp at c1
      have hacc := hpn.row
      have hdl : (List.replicate k (-1 : Int)).length < 1000000000 := by rw [List.length_replicate]; omega
      have hsl : w.heap.size + 1 ≤ wr.heap.size := hgs
      have HL1 : Hid ((List.replicate k (-1 : Int) ++ [-1]).length = k + 1) := by show _ = _; simp
      have HPN := Lib.hid hpn
      have HBW := Lib.hid hbw
      clear hpn hbw
      go_wp2_with (at_builtin; refine wpList_push rfl _ _ _ rfl 3 i0 Try.underlying26 hi hz0 hz1 hz2 _ wr (w.heap.size + 1) _ (List.replicate k (-1)) _ rfl rfl hacc rfl hdl hsl (Below.refl _ _) ?_; intro v3 w3 hacc3 hb3; obtain ⟨A3, c3, hv3, _⟩ := (Acc.oi hacc3).ri; rw [HL1.out] at hv3; subst hv3; have hk3 := HPN.out.bk.under (Nat.lt_succ_self _) hb3; have z1 := hk3.cell 1; have f1 := hk3.free 1; simp at z1; have HK3 := Lib.hid hk3; have HA3 := Lib.hid hacc3; have HB3 := Lib.hid hb3; clear hk3 hacc3 hb3)
      have hwr3 := (Wr.refl w.heap.size (w.heap.size + 1) w3).at 1 (.slice A3 (k + 1) c3)
      have HX : Hid (PN (w3.setCell ⟨w.heap.size, 1, none⟩ (.slice A3 (k + 1) c3)) w.heap.size (.slice A n c) js (.slice A3 (k + 1) c3) (List.replicate (k + 1) (-1)) 0 0) := by
        refine ⟨HK3.out.put 1 (.slice A3 (k + 1) c3), RK.below (RK.below HPN.out.jobs (HB3.out.mono (Nat.le_succ _))) (hwr3.below (Nat.le_refl _) (Nat.le_of_lt HK3.out.1)), ?_⟩
        have h9 := Acc.far HA3.out hwr3 (Nat.le_refl _)
        rw [← List.replicate_succ'] at h9
        exact h9
      have HY : Hid (Below w.heap.size w (w3.setCell ⟨w.heap.size, 1, none⟩ (.slice A3 (k + 1) c3))) := (HBW.out.trans (HB3.out.mono (Nat.le_succ _))).setCell (p := ⟨w.heap.size, 1, none⟩) (Nat.le_refl _) _
      clear hwr3
      go_roundw
      case rel => exact ⟨k + 1, _, by omega, by go_num, HX.out, HY.out⟩
      case measure => simp [intOf]; omega
    · obtain rfl : k = n := by omega
      have HPN := Lib.hid hpn
      clear hpn
      go_wp2_with fail
      go_ret
      exact ⟨vs, rfl, HPN.out, hbw⟩
end Go.Proofs.Yteoggoopfjkdkaa
