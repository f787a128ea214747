/-
  RingText answers as its model at every argument, writes into no argument, and its answer owns its memory. No condition.
-/
import Derived.Test.YtdpccmpongcioaaDoorRt
import Derived.Test.YtdpccmpongcioaaDoorSRing
import Derived.Test.YtdpccmpongcioaaDoorFrame
import Derived.Deep.RegionWith
import Derived.Deep.DeepCutAuto
import Derived.Lib.SmallJoins
import Derived.Lib.LaidTab
import Derived.Lay
import Derived.LaidMore
import Derived.OpenVars
import Derived.SevenTiedAt
import Derived.Stop.LaidErr
import Derived.Test.YtdpccmpongcioaaDoorCards
import Derived.Test.YtdpccmpongcioaaDoorTie
namespace Go.Proofs.YtdpccmpongcioaaDoor.lawRingText
open Go.RowKit Go.ChangeShapes Go.WideShapes Go.ChangeAt
set_option maxRecDepth 100000
set_option linter.unusedVariables false

set_option maxHeartbeats 4000000 in
theorem walk (z0 : Rg) (s0 : Value) (w : World) (hG : Lib.TabIs Tryd.prog w "internal/strconv.uint64pow10" .u64 Lib.pow10Tab) (h0 : RI w w.heap.size s0 z0.d) (hm0 : z0.d.length ≤ maxLen) :
    Calls Tryd.prog 3 #[RgV z0 s0] w (RetV w (.bool true)) := by
  have HG := Lib.hid (Lib.tabBelow_of_tabIs hG)
  clear hG
  obtain ⟨y0k, d0⟩ := z0
  simp only [RgV] at h0 hm0 ⊢
  have hr0 := h0
  obtain ⟨A0, c0, rfl, hlc0, hc0⟩ := h0
  clear hc0
  have t0 : Below w.heap.size w w := Below.refl _ _
  have hB1 := BK.made w 24 #[.int .i64 y0k, .slice A0 d0.length c0]
  have hb0 : Below w.heap.size w (w.alloc (.cells #[.int .i64 y0k, .slice A0 d0.length c0] 24)) := (Below.refl _ _).alloc (Nat.le_refl _) _
  have hf1 : RRg (w.alloc (.cells #[.int .i64 y0k, .slice A0 d0.length c0] 24)) (w.alloc (.cells #[.int .i64 y0k, .slice A0 d0.length c0] 24)).heap.size (RgV ⟨y0k, d0⟩ (.slice A0 d0.length c0)) ⟨y0k, d0⟩ := ⟨_, rfl, (hr0.below hb0).more hb0.size⟩
  by_cases hn : 1048576 < (d0.length : Int)
  · go_enter Tryd.func3, Tryd.ntmps3
    go_wp2_with fail
    refine (szRing_any _ ⟨y0k, d0⟩ _ _ hf1 (by omega) (by omega) hm0).mono ?_; rintro e w1 ⟨rfl, hb1⟩
    rw [szLeft_neg (show (1048576 : Int) < (d0.length : Int) by omega)]
    go_wp2_with fail
    go_ret
    exact ⟨rfl, hb0.trans (hb1.mono hb0.size)⟩
  have hn0 : d0.length ≤ 1048576 := by omega
  have hp0 : 0 ≤ 1048576 - (d0.length : Int) := by omega
  have hq0 : (d0.length : Int) ≤ 1048576 := by omega
  obtain ⟨X, b, hX⟩ : ∃ X b, (X, b) = rtSays ⟨y0k, d0⟩ := ⟨_, _, rfl⟩
  have HI : Hid (∀ v0 w, Lib.TabIs Tryd.prog w "internal/strconv.uint64pow10" .u64 Lib.pow10Tab → RRg w w.heap.size v0 ⟨y0k, d0⟩ → Calls Tryd.prog 8 #[v0] w (RetV w (.tuple #[.string X, .bool b]))) := by
    show ∀ v0 w, Lib.TabIs Tryd.prog w "internal/strconv.uint64pow10" .u64 Lib.pow10Tab → RRg w w.heap.size v0 ⟨y0k, d0⟩ → Calls Tryd.prog 8 #[v0] w (RetV w (.tuple #[.string X, .bool b]))
    intro v0 w qG q0
    have h5 := implRingText_any v0 ⟨y0k, d0⟩ w q0 hn0 qG
    rw [← hX] at h5
    exact h5
  have HS : Hid (∀ v0 w, RRg w w.heap.size v0 ⟨y0k, d0⟩ → Calls Tryd.prog 6 #[v0] w (RetV w (.tuple #[.string X, .bool b]))) := by
    show ∀ v0 w, RRg w w.heap.size v0 ⟨y0k, d0⟩ → Calls Tryd.prog 6 #[v0] w (RetV w (.tuple #[.string X, .bool b]))
    intro v0 w q0
    have h5 := specRingText_any v0 ⟨y0k, d0⟩ w q0 hn0
    rw [← hX] at h5
    exact h5
  clear hX
  go_enter Tryd.func3, Tryd.ntmps3
  go_wp2_with fail
  refine (szRing_any _ ⟨y0k, d0⟩ _ _ hf1 (by omega) (by omega) hm0).mono ?_; rintro e w1 ⟨rfl, hb1⟩
  rw [szLeft_pos (show ¬ (1048576 : Int) < (d0.length : Int) by omega)]
  have s1_ := hb1.size
  have t1 := hb0.trans (hb1.mono hb0.size)
  have b1 := hB1.step hb1
  have r1 := hr0.step t1 (Nat.le_refl _)
  have l1 := b1.1
  clear hb1 hb0 hB1 hf1
  have j1 := b1.cell 0
  have j2 := b1.cell 1
  simp at j1 j2
  go_wp2_with fail
  refine (toRing_any _ ⟨y0k, d0⟩ _ ⟨_, rfl, (r1.more (by omega))⟩ hn0).mono ?_; rintro e w2 ⟨u_p0, rfl, o_p0, hb2⟩
  obtain ⟨s_p0, rfl, o_p0⟩ := o_p0
  obtain ⟨A_p0, c_p0, rfl, _, _⟩ := o_p0.ri
  simp only [RgV]
  have s2_ := hb2.size
  have t2 := t1.trans (hb2.mono (by omega))
  clear j1 j2
  have f3 := r1.step hb2 (by omega)
  clear r1
  have f4 := b1.step hb2
  clear b1
  have j5 := f4.cell 0
  have j6 := f4.cell 1
  simp at j5 j6
  go_wp2_with fail
  refine (HS.out _ _ ⟨_, rfl, (o_p0.ri.more (by omega))⟩).mono ?_; rintro e w3 ⟨rfl, hb3⟩
  have s3_ := hb3.size
  have t3 := t2.trans (hb3.mono (by omega))
  clear j5 j6
  have f7 := f3.step hb3 (by omega)
  clear f3
  have f8 := f4.step hb3
  clear f4
  have f9 := o_p0.step hb3
  clear o_p0
  have j10 := f8.cell 0
  have j11 := f8.cell 1
  simp at j10 j11
  go_wp2_with fail
  refine (toRing_any _ ⟨y0k, d0⟩ _ ⟨_, rfl, (f7.more (by omega))⟩ hn0).mono ?_; rintro e w4 ⟨u_x0_, rfl, o_x0_, hb4⟩
  obtain ⟨s_x0_, rfl, o_x0_⟩ := o_x0_
  obtain ⟨A_x0_, c_x0_, rfl, _, _⟩ := o_x0_.ri
  simp only [RgV]
  have s4_ := hb4.size
  have t4 := t3.trans (hb4.mono (by omega))
  clear j10 j11
  have f12 := f7.step hb4 (by omega)
  clear f7
  have f13 := f8.step hb4
  clear f8
  have hb5 : Below w4.heap.size w4 (w4.alloc (.cells #[.int .i64 y0k, .slice A_x0_ d0.length c_x0_] 28)) := (Below.refl _ _).alloc (Nat.le_refl _) _
  have bb_x0_ := BK.made w4 28 #[.int .i64 y0k, .slice A_x0_ d0.length c_x0_]
  have lb5 := bb_x0_.1
  have s5_ := hb5.size
  have t5 := t4.trans (hb5.mono (by omega))
  have f14 := f12.step hb5 (by omega)
  clear f12
  have f15 := f13.step hb5
  clear f13
  have f16 := o_x0_.step hb5
  clear o_x0_
  have j17 := f15.cell 0
  have j18 := f15.cell 1
  have j19 := bb_x0_.cell 0
  have j20 := bb_x0_.cell 1
  simp at j17 j18 j19 j20
  go_wp2_with fail
  refine (HI.out _ _ (HG.out _ t5) ⟨_, rfl, (f16.ri.more (by omega))⟩).mono ?_; rintro e w6 ⟨rfl, hb6⟩
  have s6_ := hb6.size
  have t6 := t5.trans (hb6.mono (by omega))
  clear j17 j18 j19 j20
  have f21 := f14.step hb6 (by omega)
  clear f14
  have f22 := f15.step hb6
  clear f15
  have f23 := f16.step hb6
  clear f16
  have f24 := bb_x0_.step hb6
  clear bb_x0_
  have j25 := f22.cell 0
  have j26 := f22.cell 1
  have j27 := f24.cell 0
  have j28 := f24.cell 1
  simp at j25 j26 j27 j28
  go_upto_region 10 with fail
  go_cut [39] (fun s9 wx => s9 = .bool false ∧ Below w6.heap.size w6 wx)
  case first =>
    have R6 := RI.drewN f21 1
    have Q6 := RI.drewN f23.ri 1
    have X6 : BK (w6.drewN 1) _ _ _ := f24
    have T6 := below_drewN (Below.refl w6.heap.size w6) 1
    have y6 := T6.size
    go_region_with (first
      | (go_at_call 7; refine (toRing_any _ ⟨y0k, d0⟩ _ ⟨_, rfl, R6.more (by omega)⟩ hn0).mono ?_; rintro e w7 ⟨u7, rfl, ho7, hb7⟩; have t7 := T6.trans (hb7.mono (by omega)); have q7 := Q6.step hb7 (by omega); have x7 := X6.step hb7; have s7 := hb7.size; have d70 := x7.cell 0; have d71 := x7.cell 1; simp at d70 d71)
      | (go_at_call 9; refine (eqRing_same _ _ ⟨y0k, d0⟩ _ ⟨_, rfl, q7.more (by omega)⟩ ho7.rd hn0).mono ?_; rintro e w8 ⟨rfl, hb8⟩))
    all_goals
      go_wp2_with fail
      go_meet
      exact ⟨rfl, t7.trans (hb8.mono (by have := t7.size; omega))⟩
  case rest =>
    obtain ⟨rfl, hb7⟩ := hcut
    have s7_ := hb7.size
    have t7 := t6.trans (hb7.mono (by omega))
    clear j25 j26 j27 j28
    have f29 := f21.step hb7 (by omega)
    clear f21
    have f30 := f22.step hb7
    clear f22
    have f31 := f23.step hb7
    clear f23
    have f32 := f24.step hb7
    clear f24
    have j33 := f30.cell 0
    have j34 := f30.cell 1
    have j35 := f32.cell 0
    have j36 := f32.cell 1
    simp at j33 j34 j35 j36
    go_wp2_with fail
    go_ret
    exact ⟨rfl, t7⟩

theorem gN : Tryd.prog.globalNamed "internal/strconv.uint64pow10" = some 0 := by kernel_rfl
theorem gT : (Tryd.prog.globals[0]?).map (·.type) = some 66 := by kernel_rfl
theorem c20 : Tryd.prog.cellsOf 66 = 20 := by kernel_rfl
theorem c1 : Tryd.prog.cellsOf 58 = 1 := by kernel_rfl
theorem tab_of {W : World} (h : laidMet Tryd.prog Rows.fnExactRingTextRow.laid W) : Lib.TabIs Tryd.prog W "internal/strconv.uint64pow10" .u64 Lib.pow10Tab :=
  Lib.tabIs_of_head (zs := Lib.pow10Tab) gN gT Tryd.underlying66 Tryd.underlying58 c1 c20 (Go.laidMet.tail (Go.laidMet.tail h))

set_option maxRecDepth 100000 in
set_option maxHeartbeats 2000000 in
theorem lifted (os : Os) (started : os.Started) (H : Type) (enc : TypeId × Value → H) :
    ReturnsInHanded {} Tryd.checked os 3 .any (fun w args => (Rows.fnExactRingTextSpec.pre enc Tryd.prog Tryd.f3 [] false w args ∧ laidMetH Tryd.prog Rows.fnExactRingTextRow.laid w) ∧ sizedMet enc Tryd.prog Tryd.f3 (OpenSpec.ofChange Rows.fnExactRingTextSpec) false w args) (Rows.fnExactRingTextSpec.post enc Tryd.prog Tryd.f3 false true false false) := by
  refine returnsInHanded_of_change_and (C := Tryd.checked) (X := fun w _ => laidMetH Tryd.prog Rows.fnExactRingTextRow.laid w) (fun _ _ _ hh h => h.of_heap hh) own started (by kernel_rfl) Tryd.func3
    (ChangeSpec.witness_shaped (enc := enc) (C := Tryd.checked) (os := os) (X := fun w _ => laidMetH Tryd.prog Rows.fnExactRingTextRow.laid w) false (World.laidAll Tryd.prog os Rows.fnExactRingTextRow.laid) #[.agg #[.int .i64 0, .slice none 0 0]] 8 (World.laidAll_os _ _ _)
      (World.shaped_of_ZipB (by kernel_rfl) (by kernel_rfl)) (by kernel_rfl) (by kernel_rfl) (by kernel_rfl)
      (by rw [MakeChecks.laidMetH_plain _ _ _ (by kernel_rfl)]; exact laidMet_laidAll _ (by kernel_rfl) (by kernel_rfl))) ?_
  intro W base args ds gs before hval0 hW _ _ hL _
  rw [MakeChecks.laidMetH_plain _ _ _ (by kernel_rfl)] at hL
  have hval : ∀ (j : Nat) t v, Tryd.f3.params[j]? = some t → args[j]? = some v → Value.okWide Tryd.prog W .any base t v := hval0
  have hW' := hW
  obtain ⟨p, q, hA0, hV, rfl, hfz, hnd⟩ := hW
  have hA : DataW.TrodAll enc Tryd.prog W 0 (fun _ => true) true Tryd.f3.params.toList args.toList ds p := hA0
  rw [Tryd.params3] at hA hval
  obtain ⟨v0, vs0, d0, ds0, p0, q0, hargs, rfl, rfl, h0, r0⟩ := trodAll_cons hA
  obtain ⟨rfl, rfl, rfl⟩ := trodAll_nil r0
  obtain rfl : args = #[v0] := by cases args; simp_all
  obtain ⟨rfl, rfl⟩ := trodVars_none hV
  have k0 := h0
  have lt0 : ∀ x ∈ p0, x.block < W.heap.size := by obtain ⟨m, hm⟩ := k0; exact DataW.trod_lt m _ _ _ hm
  obtain ⟨e0_0, e0_1, y0_0, y0_1, m0, rfl, hd0, hp0, g0_0, g0_1⟩ := Go.Joins.open_agg2 Tryd.underlying24 (by kernel_rfl) (by kernel_rfl) (hval 0 24 v0 rfl rfl) h0
  obtain ⟨x0_0, hx0_0, _, w0_0⟩ := DataW.trod_int Tryd.underlying3 g0_0
  obtain rfl : e0_0 = .int .i64 x0_0 := by simpa using hx0_0
  obtain ⟨l0_1, w0_1⟩ : ∃ l, RI W W.heap.size e0_1 l ∧ (∀ x ∈ l, (Lit.int .i64 x).wf = true) ∧ l.length ≤ maxLen := by
    rcases open_ints Tryd.underlying22 Tryd.underlying3 (by kernel_rfl) g0_1 with ⟨hcs, _⟩ | ⟨x, l, c, zs, hcs, _, hl, hm, hz, _, hcell, hwz⟩
    · obtain rfl : e0_1 = .slice none 0 0 := by simpa using hcs
      exact ⟨[], ⟨none, 0, rfl, ⟨by simp, by simp, fun _ => rfl⟩, fun h => absurd h (by simp)⟩, by simp, by simp⟩
    · obtain rfl : e0_1 = .slice (some x) l c := by simpa using hcs
      have hz' : zs.length = c := by simpa using hz
      exact ⟨zs.take l, ri_of_cells (by omega) hz' hm hcell, fun y hy => hwz y (List.mem_of_mem_take hy), by simp; omega⟩
  clear hA0 hval0
  refine (walk ⟨x0_0, l0_1⟩ e0_1 W (tab_of hL) w0_1.1 w0_1.2.2).mono fun e W' ⟨he, bel⟩ => ?_
  subst he
  exact ⟨_, rfl, _, _, _, [], _, [], hW', trodAll_mk1 (shut_bool Tryd.underlying4 _), (trodAll_cons_mk (Below.trod laidOut (by kernel_rfl) (of_decide_eq_true (by kernel_rfl)) k0 bel lt0) trodAll_mk0), rfl, bel.frame _, fun h => by cases h⟩

theorem closed : joinedFacts Tryd.pinned.checked.prog 3 Tryd.f3 Rows.fnExactRingTextSpec Rows.fnExactRingTextRow = true := by
  unfold joinedFacts
  repeat' (with_reducible refine and_t ?_ ?_)
  all_goals first
    | (with_reducible exact init_mayEnter)
    | (with_reducible refine init_lifted ?_; as_aux_lemma => kernel_rfl)
    | (with_reducible refine init_mk ?_; as_aux_lemma => kernel_rfl)
    | (as_aux_lemma => kernel_rfl)

theorem over : Rows.fnExactRingTextRow.holds Tryd.pinned (OpenSpec.ofChange Rows.fnExactRingTextSpec) :=
  OpenClaim.holds_of_wide 3 Tryd.f3 rfl rfl rfl rfl rfl rfl rfl ⟨rfl, rfl, rfl, rfl, rfl⟩ rfl rfl rfl rfl rfl (by kernel_rfl) Tryd.func3 closed
    (of_decide_eq_true (by kernel_rfl)) (by unfold Func.isWrapper; first | (rw [if_pos (by decide +kernel)]; kernel_rfl) | (rw [if_neg (by decide +kernel)]; exact ⟨rfl, rfl⟩))
    (fun os started H enc _ => lifted os started H enc)

theorem looksAre : false = Tryd.pinned.checked.prog.looks [] := by kernel_rfl
/-- The given statement. -/
theorem proved : Rows.FnExactRingTextCardSaid :=
  Claim7.holds_tied_plain_at .later [] [.data, .data, .data] true (true, "74f02c93abaa29a4a26219a0ac5661a9615f0697aa72d7492976cbd4e7493e6a") false
    over (fun _ h => by cases h) (by kernel_rfl) (fun _ h => by cases h) fnExactRingText_row_tie rfl ⟨rfl, rfl⟩ (by kernel_rfl) rfl
    (fun f fn hf hfn => by
      obtain rfl : f = 3 := Option.some.inj ((show Tryd.prog.funcNamed "loop.example/g01176/laws.FnExactRingText" = some 3 by kernel_rfl).symm.trans hf) |>.symm
      obtain rfl : fn = Tryd.f3 := (Option.some.inj (Tryd.func3.symm.trans hfn)).symm
      exact ⟨looksAre, fun j t ht => by
        rw [Tryd.params3] at ht
        have hm : t ∈ [24] := by simpa using Array.mem_of_getElem? ht
        have hall : ([24].all fun u => !Tryd.prog.wantsStandIn u) = true := by kernel_rfl
        exact (show Tryd.prog.wantsStandIn t = false by simpa using List.all_eq_true.1 hall t hm)⟩)
    (by kernel_rfl)

end Go.Proofs.YtdpccmpongcioaaDoor.lawRingText
