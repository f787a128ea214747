/-
  FrameText answers as its model at every argument, writes into no argument, and its answer owns its memory. No condition.
-/
import Derived.Test.YthodkpiflmmkhaaDoorFt
import Derived.Test.YthodkpiflmmkhaaDoorFrm2
import Derived.Test.YthodkpiflmmkhaaDoorFrame
import Derived.Deep.RegionWith
import Derived.Deep.DeepCutAuto
import Derived.Lib.SmallJoins
import Derived.Lib.LaidTab
import Derived.Lay
import Derived.LaidMore
import Derived.OpenVars
import Derived.SevenTiedAt
import Derived.Stop.LaidErr
import Derived.Test.YthodkpiflmmkhaaDoorCards
import Derived.Test.YthodkpiflmmkhaaDoorTie
namespace Go.Proofs.YthodkpiflmmkhaaDoor.lawFrameText
open Go.RowKit Go.ChangeShapes Go.WideShapes Go.ChangeAt
set_option maxRecDepth 100000
set_option linter.unusedVariables false

set_option maxHeartbeats 4000000 in
theorem walk (z0 : Fr) (s0 : Value) (w : World) (hG : Lib.TabIs Tryd.prog w "internal/strconv.uint64pow10" .u64 Lib.pow10Tab) (h0 : RI w w.heap.size s0 z0.d) (hm0 : z0.d.length ≤ maxLen) :
    Calls Tryd.prog 3 #[frV z0 s0] w (RetV w (.bool true)) := by
  have HG := Lib.hid (Lib.tabBelow_of_tabIs hG)
  clear hG
  obtain ⟨y0f, y0t, y0p, d0⟩ := z0
  simp only [frV] at h0 hm0 ⊢
  have hr0 := h0
  obtain ⟨A0, c0, rfl, hlc0, hc0⟩ := h0
  clear hc0
  have t0 : Below w.heap.size w w := Below.refl _ _
  have hB1 := BK.made w 24 #[.int .i64 y0f, .int .i64 y0t, .int .i64 y0p, .slice A0 d0.length c0]
  have hb0 : Below w.heap.size w (w.alloc (.cells #[.int .i64 y0f, .int .i64 y0t, .int .i64 y0p, .slice A0 d0.length c0] 24)) := (Below.refl _ _).alloc (Nat.le_refl _) _
  have hf1 : RF (w.alloc (.cells #[.int .i64 y0f, .int .i64 y0t, .int .i64 y0p, .slice A0 d0.length c0] 24)) (w.alloc (.cells #[.int .i64 y0f, .int .i64 y0t, .int .i64 y0p, .slice A0 d0.length c0] 24)).heap.size (frV ⟨y0f, y0t, y0p, d0⟩ (.slice A0 d0.length c0)) ⟨y0f, y0t, y0p, d0⟩ := ⟨_, rfl, (hr0.below hb0).more hb0.size⟩
  by_cases hn : 1048576 < (d0.length : Int)
  · go_enter Tryd.func3, Tryd.ntmps3
    go_wp2_with fail
    refine (szFrame_any _ ⟨y0f, y0t, y0p, d0⟩ _ _ hf1 (by omega) (by omega) hm0).mono ?_; rintro e w1 ⟨rfl, hb1⟩
    rw [szLeft_neg (show (1048576 : Int) < (d0.length : Int) by omega)]
    go_wp2_with fail
    go_ret
    exact ⟨rfl, hb0.trans (hb1.mono hb0.size)⟩
  have hn0 : d0.length ≤ 1048576 := by omega
  have hp0 : 0 ≤ 1048576 - (d0.length : Int) := by omega
  have hq0 : (d0.length : Int) ≤ 1048576 := by omega
  obtain ⟨X, b, hX⟩ : ∃ X b, (X, b) = ftSays ⟨y0f, y0t, y0p, d0⟩ := ⟨_, _, rfl⟩
  have HI : Hid (∀ v0 w, Lib.TabIs Tryd.prog w "internal/strconv.uint64pow10" .u64 Lib.pow10Tab → RF w w.heap.size v0 ⟨y0f, y0t, y0p, d0⟩ → Calls Tryd.prog 7 #[v0] w (RetV w (.tuple #[.string X, .bool b]))) := by
    show ∀ v0 w, Lib.TabIs Tryd.prog w "internal/strconv.uint64pow10" .u64 Lib.pow10Tab → RF w w.heap.size v0 ⟨y0f, y0t, y0p, d0⟩ → Calls Tryd.prog 7 #[v0] w (RetV w (.tuple #[.string X, .bool b]))
    intro v0 w qG q0
    have h5 := implFrameText_any v0 ⟨y0f, y0t, y0p, d0⟩ w q0 hn0 qG
    rw [← hX] at h5
    exact h5
  have HS : Hid (∀ v0 w, RF w w.heap.size v0 ⟨y0f, y0t, y0p, d0⟩ → Calls Tryd.prog 5 #[v0] w (RetV w (.tuple #[.string X, .bool b]))) := by
    show ∀ v0 w, RF w w.heap.size v0 ⟨y0f, y0t, y0p, d0⟩ → Calls Tryd.prog 5 #[v0] w (RetV w (.tuple #[.string X, .bool b]))
    intro v0 w q0
    have h5 := specFrameText_any v0 ⟨y0f, y0t, y0p, d0⟩ w q0 hn0
    rw [← hX] at h5
    exact h5
  clear hX
  go_enter Tryd.func3, Tryd.ntmps3
  go_wp2_with fail
  refine (szFrame_any _ ⟨y0f, y0t, y0p, d0⟩ _ _ hf1 (by omega) (by omega) hm0).mono ?_; rintro e w1 ⟨rfl, hb1⟩
  rw [szLeft_pos (show ¬ (1048576 : Int) < (d0.length : Int) by omega)]
  have s1_ := hb1.size
  have t1 := hb0.trans (hb1.mono hb0.size)
  have b1 := hB1.step hb1
  have r1 := hr0.step t1 (Nat.le_refl _)
  have l1 := b1.1
  clear hb1 hb0 hB1 hf1
  have j1 := b1.cell 0
  have j2 := b1.cell 1
  have j3 := b1.cell 2
  have j4 := b1.cell 3
  simp at j1 j2 j3 j4
  go_wp2_with fail
  refine (toFrame_any _ ⟨y0f, y0t, y0p, d0⟩ _ ⟨_, rfl, (r1.more (by omega))⟩ hn0).mono ?_; rintro e w2 ⟨u_p0, rfl, o_p0, hb2⟩
  obtain ⟨s_p0, rfl, o_p0⟩ := o_p0
  obtain ⟨A_p0, c_p0, rfl, _, _⟩ := o_p0.ri
  simp only [frV]
  have s2_ := hb2.size
  have t2 := t1.trans (hb2.mono (by omega))
  clear j1 j2 j3 j4
  have f5 := r1.step hb2 (by omega)
  clear r1
  have f6 := b1.step hb2
  clear b1
  have j7 := f6.cell 0
  have j8 := f6.cell 1
  have j9 := f6.cell 2
  have j10 := f6.cell 3
  simp at j7 j8 j9 j10
  go_wp2_with fail
  refine (HS.out _ _ ⟨_, rfl, (o_p0.ri.more (by omega))⟩).mono ?_; rintro e w3 ⟨rfl, hb3⟩
  have s3_ := hb3.size
  have t3 := t2.trans (hb3.mono (by omega))
  clear j7 j8 j9 j10
  have f11 := f5.step hb3 (by omega)
  clear f5
  have f12 := f6.step hb3
  clear f6
  have f13 := o_p0.step hb3
  clear o_p0
  have j14 := f12.cell 0
  have j15 := f12.cell 1
  have j16 := f12.cell 2
  have j17 := f12.cell 3
  simp at j14 j15 j16 j17
  go_wp2_with fail
  refine (toFrame_any _ ⟨y0f, y0t, y0p, d0⟩ _ ⟨_, rfl, (f11.more (by omega))⟩ hn0).mono ?_; rintro e w4 ⟨u_x0_, rfl, o_x0_, hb4⟩
  obtain ⟨s_x0_, rfl, o_x0_⟩ := o_x0_
  obtain ⟨A_x0_, c_x0_, rfl, _, _⟩ := o_x0_.ri
  simp only [frV]
  have s4_ := hb4.size
  have t4 := t3.trans (hb4.mono (by omega))
  clear j14 j15 j16 j17
  have f18 := f11.step hb4 (by omega)
  clear f11
  have f19 := f12.step hb4
  clear f12
  have hb5 : Below w4.heap.size w4 (w4.alloc (.cells #[.int .i64 y0f, .int .i64 y0t, .int .i64 y0p, .slice A_x0_ d0.length c_x0_] 28)) := (Below.refl _ _).alloc (Nat.le_refl _) _
  have bb_x0_ := BK.made w4 28 #[.int .i64 y0f, .int .i64 y0t, .int .i64 y0p, .slice A_x0_ d0.length c_x0_]
  have lb5 := bb_x0_.1
  have s5_ := hb5.size
  have t5 := t4.trans (hb5.mono (by omega))
  have f20 := f18.step hb5 (by omega)
  clear f18
  have f21 := f19.step hb5
  clear f19
  have f22 := o_x0_.step hb5
  clear o_x0_
  have j23 := f21.cell 0
  have j24 := f21.cell 1
  have j25 := f21.cell 2
  have j26 := f21.cell 3
  have j27 := bb_x0_.cell 0
  have j28 := bb_x0_.cell 1
  have j29 := bb_x0_.cell 2
  have j30 := bb_x0_.cell 3
  simp at j23 j24 j25 j26 j27 j28 j29 j30
  go_wp2_with fail
  refine (HI.out _ _ (HG.out _ t5) ⟨_, rfl, (f22.ri.more (by omega))⟩).mono ?_; rintro e w6 ⟨rfl, hb6⟩
  have s6_ := hb6.size
  have t6 := t5.trans (hb6.mono (by omega))
  clear j23 j24 j25 j26 j27 j28 j29 j30
  have f31 := f20.step hb6 (by omega)
  clear f20
  have f32 := f21.step hb6
  clear f21
  have f33 := f22.step hb6
  clear f22
  have f34 := bb_x0_.step hb6
  clear bb_x0_
  have j35 := f32.cell 0
  have j36 := f32.cell 1
  have j37 := f32.cell 2
  have j38 := f32.cell 3
  have j39 := f34.cell 0
  have j40 := f34.cell 1
  have j41 := f34.cell 2
  have j42 := f34.cell 3
  simp at j35 j36 j37 j38 j39 j40 j41 j42
  go_upto_region 10 with fail
  go_cut [39] (fun s9 wx => s9 = .bool false ∧ Below w6.heap.size w6 wx)
  case first =>
    have R6 := RI.drewN f31 1
    have Q6 := RI.drewN f33.ri 1
    have X6 : BK (w6.drewN 1) _ _ _ := f34
    have T6 := below_drewN (Below.refl w6.heap.size w6) 1
    have y6 := T6.size
    go_region_with (first
      | (go_at_call 6; refine (toFrame_any _ ⟨y0f, y0t, y0p, d0⟩ _ ⟨_, rfl, R6.more (by omega)⟩ hn0).mono ?_; rintro e w7 ⟨u7, rfl, ho7, hb7⟩; have t7 := T6.trans (hb7.mono (by omega)); have q7 := Q6.step hb7 (by omega); have x7 := X6.step hb7; have s7 := hb7.size; have d70 := x7.cell 0; have d71 := x7.cell 1; have d72 := x7.cell 2; have d73 := x7.cell 3; simp at d70 d71 d72 d73)
      | (go_at_call 8; refine (eqFrame_same _ _ ⟨y0f, y0t, y0p, d0⟩ _ ⟨_, rfl, q7.more (by omega)⟩ ho7.rf hn0).mono ?_; rintro e w8 ⟨rfl, hb8⟩))
    all_goals
      go_wp2_with fail
      go_meet
      exact ⟨rfl, t7.trans (hb8.mono (by have := t7.size; omega))⟩
  case rest =>
    obtain ⟨rfl, hb7⟩ := hcut
    have s7_ := hb7.size
    have t7 := t6.trans (hb7.mono (by omega))
    clear j35 j36 j37 j38 j39 j40 j41 j42
    have f43 := f31.step hb7 (by omega)
    clear f31
    have f44 := f32.step hb7
    clear f32
    have f45 := f33.step hb7
    clear f33
    have f46 := f34.step hb7
    clear f34
    have j47 := f44.cell 0
    have j48 := f44.cell 1
    have j49 := f44.cell 2
    have j50 := f44.cell 3
    have j51 := f46.cell 0
    have j52 := f46.cell 1
    have j53 := f46.cell 2
    have j54 := f46.cell 3
    simp at j47 j48 j49 j50 j51 j52 j53 j54
    go_wp2_with fail
    go_ret
    exact ⟨rfl, t7⟩

theorem gN : Tryd.prog.globalNamed "internal/strconv.uint64pow10" = some 0 := by kernel_rfl
theorem gT : (Tryd.prog.globals[0]?).map (·.type) = some 64 := by kernel_rfl
theorem c20 : Tryd.prog.cellsOf 64 = 20 := by kernel_rfl
theorem c1 : Tryd.prog.cellsOf 55 = 1 := by kernel_rfl
theorem tab_of {W : World} (h : laidMet Tryd.prog Rows.fnExactFrameTextRow.laid W) : Lib.TabIs Tryd.prog W "internal/strconv.uint64pow10" .u64 Lib.pow10Tab :=
  Lib.tabIs_of_head (zs := Lib.pow10Tab) gN gT Tryd.underlying64 Tryd.underlying55 c1 c20 (Go.laidMet.tail (Go.laidMet.tail h))

set_option maxRecDepth 100000 in
set_option maxHeartbeats 2000000 in
theorem lifted (os : Os) (started : os.Started) (H : Type) (enc : TypeId × Value → H) :
    ReturnsInHanded {} Tryd.checked os 3 .any (fun w args => (Rows.fnExactFrameTextSpec.pre enc Tryd.prog Tryd.f3 [] false w args ∧ laidMetH Tryd.prog Rows.fnExactFrameTextRow.laid w) ∧ sizedMet enc Tryd.prog Tryd.f3 (OpenSpec.ofChange Rows.fnExactFrameTextSpec) false w args) (Rows.fnExactFrameTextSpec.post enc Tryd.prog Tryd.f3 false true false false) := by
  refine returnsInHanded_of_change_and (C := Tryd.checked) (X := fun w _ => laidMetH Tryd.prog Rows.fnExactFrameTextRow.laid w) (fun _ _ _ hh h => h.of_heap hh) own started (by kernel_rfl) Tryd.func3
    (ChangeSpec.witness_shaped (enc := enc) (C := Tryd.checked) (os := os) (X := fun w _ => laidMetH Tryd.prog Rows.fnExactFrameTextRow.laid w) false (World.laidAll Tryd.prog os Rows.fnExactFrameTextRow.laid) #[.agg #[.int .i64 0, .int .i64 0, .int .i64 0, .slice none 0 0]] 8 (World.laidAll_os _ _ _)
      (World.shaped_of_ZipB (by kernel_rfl) (by kernel_rfl)) (by kernel_rfl) (by kernel_rfl) (by kernel_rfl)
      (by rw [MakeChecks.laidMetH_plain _ _ _ (by kernel_rfl)]; exact laidMet_laidAll _ (by kernel_rfl) (by kernel_rfl))) ?_
  intro W base args ds gs before hval0 hW _ _ hL _
  rw [MakeChecks.laidMetH_plain _ _ _ (by kernel_rfl)] at hL
  have hval : ∀ (j : Nat) t v, Tryd.f3.params[j]? = some t → args[j]? = some v → Value.okWide Tryd.prog W .any base t v := hval0
  have hW' := hW
  obtain ⟨p, q, hA0, hV, rfl, hfz, hnd⟩ := hW
  have hA : DataW.TrodAll enc Tryd.prog W 0 (fun _ => true) true Tryd.f3.params.toList args.toList ds p := hA0
  rw [Tryd.params3] at hA hval
  obtain ⟨v0, vs0, d0, ds0, p0, q0, hargs, rfl, rfl, h0, r0⟩ := trodAll_cons hA
  obtain ⟨rfl, rfl, rfl⟩ := trodAll_nil r0
  obtain rfl : args = #[v0] := by cases args; simp_all
  obtain ⟨rfl, rfl⟩ := trodVars_none hV
  have k0 := h0
  have lt0 : ∀ x ∈ p0, x.block < W.heap.size := by obtain ⟨m, hm⟩ := k0; exact DataW.trod_lt m _ _ _ hm
  obtain ⟨e0_0, e0_1, e0_2, e0_3, y0_0, y0_1, y0_2, y0_3, m0, rfl, hd0, hp0, g0_0, g0_1, g0_2, g0_3⟩ := Go.Joins.open_agg4 Tryd.underlying24 (by kernel_rfl) (by kernel_rfl) (hval 0 24 v0 rfl rfl) h0
  obtain ⟨x0_0, hx0_0, _, w0_0⟩ := DataW.trod_int Tryd.underlying3 g0_0
  obtain rfl : e0_0 = .int .i64 x0_0 := by simpa using hx0_0
  obtain ⟨x0_1, hx0_1, _, w0_1⟩ := DataW.trod_int Tryd.underlying3 g0_1
  obtain rfl : e0_1 = .int .i64 x0_1 := by simpa using hx0_1
  obtain ⟨x0_2, hx0_2, _, w0_2⟩ := DataW.trod_int Tryd.underlying3 g0_2
  obtain rfl : e0_2 = .int .i64 x0_2 := by simpa using hx0_2
  obtain ⟨l0_3, w0_3⟩ : ∃ l, RI W W.heap.size e0_3 l ∧ (∀ x ∈ l, (Lit.int .i64 x).wf = true) ∧ l.length ≤ maxLen := by
    rcases open_ints Tryd.underlying22 Tryd.underlying3 (by kernel_rfl) g0_3 with ⟨hcs, _⟩ | ⟨x, l, c, zs, hcs, _, hl, hm, hz, _, hcell, hwz⟩
    · obtain rfl : e0_3 = .slice none 0 0 := by simpa using hcs
      exact ⟨[], ⟨none, 0, rfl, ⟨by simp, by simp, fun _ => rfl⟩, fun h => absurd h (by simp)⟩, by simp, by simp⟩
    · obtain rfl : e0_3 = .slice (some x) l c := by simpa using hcs
      have hz' : zs.length = c := by simpa using hz
      exact ⟨zs.take l, ri_of_cells (by omega) hz' hm hcell, fun y hy => hwz y (List.mem_of_mem_take hy), by simp; omega⟩
  clear hA0 hval0
  refine (walk ⟨x0_0, x0_1, x0_2, l0_3⟩ e0_3 W (tab_of hL) w0_3.1 w0_3.2.2).mono fun e W' ⟨he, bel⟩ => ?_
  subst he
  exact ⟨_, rfl, _, _, _, [], _, [], hW', trodAll_mk1 (shut_bool Tryd.underlying4 _), (trodAll_cons_mk (Below.trod laidOut (by kernel_rfl) (of_decide_eq_true (by kernel_rfl)) k0 bel lt0) trodAll_mk0), rfl, bel.frame _, fun h => by cases h⟩

theorem closed : joinedFacts Tryd.pinned.checked.prog 3 Tryd.f3 Rows.fnExactFrameTextSpec Rows.fnExactFrameTextRow = true := by
  unfold joinedFacts
  repeat' (with_reducible refine and_t ?_ ?_)
  all_goals first
    | (with_reducible exact init_mayEnter)
    | (with_reducible refine init_lifted ?_; as_aux_lemma => kernel_rfl)
    | (with_reducible refine init_mk ?_; as_aux_lemma => kernel_rfl)
    | (as_aux_lemma => kernel_rfl)

theorem over : Rows.fnExactFrameTextRow.holds Tryd.pinned (OpenSpec.ofChange Rows.fnExactFrameTextSpec) :=
  OpenClaim.holds_of_wide 3 Tryd.f3 rfl rfl rfl rfl rfl rfl rfl ⟨rfl, rfl, rfl, rfl, rfl⟩ rfl rfl rfl rfl rfl (by kernel_rfl) Tryd.func3 closed
    (of_decide_eq_true (by kernel_rfl)) (by unfold Func.isWrapper; first | (rw [if_pos (by decide +kernel)]; kernel_rfl) | (rw [if_neg (by decide +kernel)]; exact ⟨rfl, rfl⟩))
    (fun os started H enc _ => lifted os started H enc)

theorem looksAre : false = Tryd.pinned.checked.prog.looks [] := by kernel_rfl
/-- The given statement. -/
theorem proved : Rows.FnExactFrameTextCardSaid :=
  Claim7.holds_tied_plain_at .later [] [.data, .data, .data] true (true, "50f1ce20d3e30fb7a2855e12a9d355bc71ade09653d62bd293e9de9cbfecc666") false
    over (fun _ h => by cases h) (by kernel_rfl) (fun _ h => by cases h) fnExactFrameText_row_tie rfl ⟨rfl, rfl⟩ (by kernel_rfl) rfl
    (fun f fn hf hfn => by
      obtain rfl : f = 3 := Option.some.inj ((show Tryd.prog.funcNamed "loop.example/g01176/laws.FnExactFrameText" = some 3 by kernel_rfl).symm.trans hf) |>.symm
      obtain rfl : fn = Tryd.f3 := (Option.some.inj (Tryd.func3.symm.trans hfn)).symm
      exact ⟨looksAre, fun j t ht => by
        rw [Tryd.params3] at ht
        have hm : t ∈ [24] := by simpa using Array.mem_of_getElem? ht
        have hall : ([24].all fun u => !Tryd.prog.wantsStandIn u) = true := by kernel_rfl
        exact (show Tryd.prog.wantsStandIn t = false by simpa using List.all_eq_true.1 hall t hm)⟩)
    (by kernel_rfl)

end Go.Proofs.YthodkpiflmmkhaaDoor.lawFrameText
