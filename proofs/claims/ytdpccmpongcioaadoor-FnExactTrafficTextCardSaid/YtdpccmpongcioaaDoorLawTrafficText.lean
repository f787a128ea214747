/-
  TrafficText answers as its model at every argument, writes into no argument, and its answer owns its memory. No condition.
-/
import Derived.Test.YtdpccmpongcioaaDoorTxC
import Derived.Test.YtdpccmpongcioaaDoorFrame
import Derived.Deep.RegionWith
import Derived.Deep.DeepCutAuto
import Derived.Lib.SmallJoins
import Derived.Lib.LaidTab
import Derived.Lay
import Derived.LaidMore
import Derived.OpenVars
import Derived.SevenTiedAt
import Derived.Stop.LaidErr
import Derived.Test.YtdpccmpongcioaaDoorCards
import Derived.Test.YtdpccmpongcioaaDoorTie
namespace Go.Proofs.YtdpccmpongcioaaDoor.lawTrafficText
open Go.RowKit Go.ChangeShapes Go.WideShapes Go.ChangeAt
set_option maxRecDepth 100000
set_option linter.unusedVariables false

set_option maxHeartbeats 4000000 in
theorem walk (a0 : Option Addr) (n0 c0 : Nat) (d0 : List Int) (w : World) (hG : Lib.TabIs Tryd.prog w "internal/strconv.uint64pow10" .u64 Lib.pow10Tab) (hnl0 : n0 = d0.length) (h0 : RI w w.heap.size (.slice a0 n0 c0) d0) (hwf0 : ∀ x ∈ d0, (Lit.int .i64 x).wf = true) :
    Calls Tryd.prog 4 #[.slice a0 n0 c0] w (RetV w (.bool true)) := by
  have HG := Lib.hid (Lib.tabBelow_of_tabIs hG)
  clear hG
  subst hnl0
  have hr0 := h0
  have t0 : Below w.heap.size w w := Below.refl _ _
  rcases Nat.lt_or_ge 1048576 d0.length with hn0 | hn0
  · have hn' : (1048576 : Int) < d0.length := by omega
    go_enter Tryd.func4, Tryd.ntmps4
    go_wp2
    go_ret
    exact ⟨rfl, Below.refl _ _⟩
  have hq0 : (d0.length : Int) ≤ 1048576 := by omega
  obtain ⟨X, b, hX⟩ : ∃ X b, (X, b) = txSays d0 := ⟨_, _, rfl⟩
  have HI : Hid (∀ v0 w, Lib.TabIs Tryd.prog w "internal/strconv.uint64pow10" .u64 Lib.pow10Tab → RI w w.heap.size v0 d0 → Calls Tryd.prog 12 #[v0] w (RetV w (.tuple #[.string X, .bool b]))) := by
    show ∀ v0 w, Lib.TabIs Tryd.prog w "internal/strconv.uint64pow10" .u64 Lib.pow10Tab → RI w w.heap.size v0 d0 → Calls Tryd.prog 12 #[v0] w (RetV w (.tuple #[.string X, .bool b]))
    intro v0 w qG q0
    have h5 := implTrafficText_any v0 d0 w q0 hn0 qG
    rw [← hX] at h5
    exact h5
  have HS : Hid (∀ v0 w, RI w w.heap.size v0 d0 → Calls Tryd.prog 10 #[v0] w (RetV w (.tuple #[.string X, .bool b]))) := by
    show ∀ v0 w, RI w w.heap.size v0 d0 → Calls Tryd.prog 10 #[v0] w (RetV w (.tuple #[.string X, .bool b]))
    intro v0 w q0
    have h5 := specTrafficText_any v0 d0 w q0 hn0
    rw [← hX] at h5
    exact h5
  clear hX
  go_enter Tryd.func4, Tryd.ntmps4
  go_wp2_with fail
  refine (toIntS_any _ _ _ (hr0.more (by omega)) hn0).mono ?_; rintro e w1 ⟨p0, rfl, o_p0, hb1⟩
  have s1_ := hb1.size
  have t1 := t0.trans (hb1.mono (by omega))
  have f1 := hr0.step hb1 (by omega)
  clear hr0
  go_wp2_with fail
  refine (HS.out _ _ (o_p0.ri.more (by omega))).mono ?_; rintro e w2 ⟨rfl, hb2⟩
  have s2_ := hb2.size
  have t2 := t1.trans (hb2.mono (by omega))
  have f2 := f1.step hb2 (by omega)
  clear f1
  have f3 := o_p0.step hb2
  clear o_p0
  go_wp2_with fail
  refine (toIntS_any _ _ _ (f2.more (by omega)) hn0).mono ?_; rintro e w3 ⟨x0_, rfl, o_x0_, hb3⟩
  have s3_ := hb3.size
  have t3 := t2.trans (hb3.mono (by omega))
  have f4 := f2.step hb3 (by omega)
  clear f2
  go_wp2_with fail
  refine (HI.out _ _ (HG.out _ t3) (o_x0_.ri.more (by omega))).mono ?_; rintro e w4 ⟨rfl, hb4⟩
  have s4_ := hb4.size
  have t4 := t3.trans (hb4.mono (by omega))
  have f5 := f4.step hb4 (by omega)
  clear f4
  have f6 := o_x0_.step hb4
  clear o_x0_
  go_wp2_with fail
  refine (toIntS_any _ _ _ (f5.more (by omega)) hn0).mono ?_; rintro e w5 ⟨y, rfl, o_y, hb5⟩
  have s5_ := hb5.size
  have t5 := t4.trans (hb5.mono (by omega))
  have f7 := f5.step hb5 (by omega)
  clear f5
  have f8 := f6.step hb5
  clear f6
  go_wp2_with fail
  refine (eqIntS_same _ _ _ _ (f8.ri.more (by omega)) (o_y.ri.more (by omega)) hn0).mono ?_; rintro e w6 ⟨rfl, hb6⟩
  have s6_ := hb6.size
  have t6 := t5.trans (hb6.mono (by omega))
  have f9 := f7.step hb6 (by omega)
  clear f7
  have f10 := f8.step hb6
  clear f8
  have f11 := o_y.step hb6
  clear o_y
  go_wp2_with fail
  go_ret
  exact ⟨rfl, t6⟩

theorem gN : Tryd.prog.globalNamed "internal/strconv.uint64pow10" = some 0 := by kernel_rfl
theorem gT : (Tryd.prog.globals[0]?).map (·.type) = some 66 := by kernel_rfl
theorem c20 : Tryd.prog.cellsOf 66 = 20 := by kernel_rfl
theorem c1 : Tryd.prog.cellsOf 58 = 1 := by kernel_rfl
theorem tab_of {W : World} (h : laidMet Tryd.prog Rows.fnExactTrafficTextRow.laid W) : Lib.TabIs Tryd.prog W "internal/strconv.uint64pow10" .u64 Lib.pow10Tab :=
  Lib.tabIs_of_head (zs := Lib.pow10Tab) gN gT Tryd.underlying66 Tryd.underlying58 c1 c20 (Go.laidMet.tail (Go.laidMet.tail h))

set_option maxRecDepth 100000 in
set_option maxHeartbeats 2000000 in
theorem lifted (os : Os) (started : os.Started) (H : Type) (enc : TypeId × Value → H) :
    ReturnsInHanded {} Tryd.checked os 4 .any (fun w args => (Rows.fnExactTrafficTextSpec.pre enc Tryd.prog Tryd.f4 [] false w args ∧ laidMetH Tryd.prog Rows.fnExactTrafficTextRow.laid w) ∧ sizedMet enc Tryd.prog Tryd.f4 (OpenSpec.ofChange Rows.fnExactTrafficTextSpec) false w args) (Rows.fnExactTrafficTextSpec.post enc Tryd.prog Tryd.f4 false true false false) := by
  refine returnsInHanded_of_change_and (C := Tryd.checked) (X := fun w _ => laidMetH Tryd.prog Rows.fnExactTrafficTextRow.laid w) (fun _ _ _ hh h => h.of_heap hh) own started (by kernel_rfl) Tryd.func4
    (ChangeSpec.witness_shaped (enc := enc) (C := Tryd.checked) (os := os) (X := fun w _ => laidMetH Tryd.prog Rows.fnExactTrafficTextRow.laid w) false (World.laidAll Tryd.prog os Rows.fnExactTrafficTextRow.laid) #[.slice none 0 0] 8 (World.laidAll_os _ _ _)
      (World.shaped_of_ZipB (by kernel_rfl) (by kernel_rfl)) (by kernel_rfl) (by kernel_rfl) (by kernel_rfl)
      (by rw [MakeChecks.laidMetH_plain _ _ _ (by kernel_rfl)]; exact laidMet_laidAll _ (by kernel_rfl) (by kernel_rfl))) ?_
  intro W base args ds gs before hval0 hW _ _ hL _
  rw [MakeChecks.laidMetH_plain _ _ _ (by kernel_rfl)] at hL
  have hval : ∀ (j : Nat) t v, Tryd.f4.params[j]? = some t → args[j]? = some v → Value.okWide Tryd.prog W .any base t v := hval0
  have hW' := hW
  obtain ⟨p, q, hA0, hV, rfl, hfz, hnd⟩ := hW
  have hA : DataW.TrodAll enc Tryd.prog W 0 (fun _ => true) true Tryd.f4.params.toList args.toList ds p := hA0
  rw [Tryd.params4] at hA hval
  obtain ⟨v0, vs0, d0, ds0, p0, q0, hargs, rfl, rfl, h0, r0⟩ := trodAll_cons hA
  obtain ⟨rfl, rfl, rfl⟩ := trodAll_nil r0
  obtain rfl : args = #[v0] := by cases args; simp_all
  obtain ⟨rfl, rfl⟩ := trodVars_none hV
  obtain ⟨a0, len0, cap0, rfl⟩ := okWide_slice Tryd.underlying22 (hval 0 22 v0 rfl rfl)
  have k0 := h0
  have lt0 : ∀ x ∈ p0, x.block < W.heap.size := by obtain ⟨m, hm⟩ := k0; exact DataW.trod_lt m _ _ _ hm
  obtain ⟨l0, n0, w0⟩ : ∃ l, len0 = List.length l ∧ RI W W.heap.size (.slice a0 len0 cap0) l ∧ (∀ x ∈ l, (Lit.int .i64 x).wf = true) ∧ cap0 ≤ maxLen := by
    obtain ⟨fuel, hf⟩ := h0
    rcases open_ints Tryd.underlying22 Tryd.underlying3 (by kernel_rfl) hf with ⟨hcs, _⟩ | ⟨x, l, c, zs, hcs, _, hl, hm, hz, _, hcell, hwz⟩
    · simp [Value.cells] at hcs
      obtain ⟨rfl, rfl, rfl⟩ := hcs
      exact ⟨[], rfl, ⟨none, 0, rfl, ⟨by simp, by simp, fun _ => rfl⟩, fun h => absurd h (by simp)⟩, by simp, by simp⟩
    · simp [Value.cells] at hcs
      obtain ⟨rfl, rfl, rfl⟩ := hcs
      have hz' : zs.length = cap0 := by simpa using hz
      exact ⟨zs.take len0, by simp; omega, ri_of_cells (by omega) hz' hm hcell, fun x hx => hwz x (List.mem_of_mem_take hx), hm⟩
  clear hA0 hval0
  refine (walk a0 len0 cap0 l0 W (tab_of hL) n0 w0.1 w0.2.1).mono fun e W' ⟨he, bel⟩ => ?_
  subst he
  exact ⟨_, rfl, _, _, _, [], _, [], hW', trodAll_mk1 (shut_bool Tryd.underlying4 _), (trodAll_cons_mk (Below.trod laidOut (by kernel_rfl) (of_decide_eq_true (by kernel_rfl)) k0 bel lt0) trodAll_mk0), rfl, bel.frame _, fun h => by cases h⟩

theorem closed : joinedFacts Tryd.pinned.checked.prog 4 Tryd.f4 Rows.fnExactTrafficTextSpec Rows.fnExactTrafficTextRow = true := by
  unfold joinedFacts
  repeat' (with_reducible refine and_t ?_ ?_)
  all_goals first
    | (with_reducible exact init_mayEnter)
    | (with_reducible refine init_lifted ?_; as_aux_lemma => kernel_rfl)
    | (with_reducible refine init_mk ?_; as_aux_lemma => kernel_rfl)
    | (as_aux_lemma => kernel_rfl)

theorem over : Rows.fnExactTrafficTextRow.holds Tryd.pinned (OpenSpec.ofChange Rows.fnExactTrafficTextSpec) :=
  OpenClaim.holds_of_wide 4 Tryd.f4 rfl rfl rfl rfl rfl rfl rfl ⟨rfl, rfl, rfl, rfl, rfl⟩ rfl rfl rfl rfl rfl (by kernel_rfl) Tryd.func4 closed
    (of_decide_eq_true (by kernel_rfl)) (by unfold Func.isWrapper; first | (rw [if_pos (by decide +kernel)]; kernel_rfl) | (rw [if_neg (by decide +kernel)]; exact ⟨rfl, rfl⟩))
    (fun os started H enc _ => lifted os started H enc)

theorem looksAre : false = Tryd.pinned.checked.prog.looks [] := by kernel_rfl
/-- The given statement. -/
theorem proved : Rows.FnExactTrafficTextCardSaid :=
  Claim7.holds_tied_plain_at .later [] [.data, .data, .data] true (true, "74f02c93abaa29a4a26219a0ac5661a9615f0697aa72d7492976cbd4e7493e6a") false
    over (fun _ h => by cases h) (by kernel_rfl) (fun _ h => by cases h) fnExactTrafficText_row_tie rfl ⟨rfl, rfl⟩ (by kernel_rfl) rfl
    (fun f fn hf hfn => by
      obtain rfl : f = 4 := Option.some.inj ((show Tryd.prog.funcNamed "loop.example/g01176/laws.FnExactTrafficText" = some 4 by kernel_rfl).symm.trans hf) |>.symm
      obtain rfl : fn = Tryd.f4 := (Option.some.inj (Tryd.func4.symm.trans hfn)).symm
      exact ⟨looksAre, fun j t ht => by
        rw [Tryd.params4] at ht
        have hm : t ∈ [22] := by simpa using Array.mem_of_getElem? ht
        have hall : ([22].all fun u => !Tryd.prog.wantsStandIn u) = true := by kernel_rfl
        exact (show Tryd.prog.wantsStandIn t = false by simpa using List.all_eq_true.1 hall t hm)⟩)
    (by kernel_rfl)

end Go.Proofs.YtdpccmpongcioaaDoor.lawTrafficText
