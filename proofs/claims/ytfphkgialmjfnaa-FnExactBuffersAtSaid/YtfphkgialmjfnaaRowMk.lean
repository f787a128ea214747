/-
  A region that draws its order, whose results stand in a row of slots (and one more behind all): by what has been done, where the values are not known ahead (blocks that are made in any order). Blocks that are made in any order: what is known of them, and of the values that speak of them.
-/
import Derived.Test.YtfphkgialmjfnaaChanJ
import Derived.Test.YtfphkgialmjfnaaTabl
namespace Go.Proofs.Ytfphkgialmjfnaa
section
open Go.RowKit Go.Conc
set_option maxRecDepth 100000
set_option linter.unusedVariables false

/-- One operation, in a state that evaluates so: R holds of what it leaves. -/
inductive OpStepE (P : Program) (o : Oper) (ev : Operand → Value) (w : World) (R : Value → World → Prop) : Prop where
  | value (v : Value) (w' : World) (hr : (execOp ev o).run P w = .ok (.value v) w') (h : R v w')
  | skip (w' : World) (hr : (execOp ev o).run P w = .ok .skip w') (h : R undef w')
  | call (f : FuncId) (args : Array Value) (w' : World) (hr : (execOp ev o).run P w = .ok (.enter f args) w') (h : Calls P f args w' fun e w'' => ∃ v, e = .returned v ∧ R v w'')
theorem OpStepE.sem {P : Program} {ops : Array Oper} {Q : Exit → Act → World → Prop} {i : Nat} {rest : List Nat} {o : Oper} {a : Act} {w : World} {R : Value → World → Prop} (h : OpStepE P o a.eval w R) (ho : ops[i]? = some o) (hw : Region.wanted o (yielded ops a.tmps) = true)
    (hk : ∀ v w', R v w' → SemOps P ops Q rest (a.put o.dst v) w') : SemOps P ops Q (i :: rest) a w := by
  cases h with
  | value v w' hr h => exact SemOps.value ho hw hr (hk _ _ h)
  | skip w' hr h => exact SemOps.skip ho hw hr (hk _ _ h)
  | call f args w' hr h => exact SemOps.call ho hw hr (h.mono fun e w'' ⟨v, he, hR⟩ => ⟨v, he, hk _ _ hR⟩)
/-- No guards; the first k operations lay their results into the slots from lo on, the one behind them into slot e, the others into none. -/
def rowBE (ops : Array Oper) (lo k : Nat) (e : Option Nat) : Bool := (List.range ops.size).all fun i => ((ops[i]?).map fun o => decide (o.guard = none) && decide (o.dst = if i < k then some (lo + i) else if i = k then e else none)).getD false
theorem rowBE_at {ops : Array Oper} {lo k : Nat} {e : Option Nat} (h : rowBE ops lo k e = true) {i : Nat} (hi : i < ops.size) : ops[i].guard = none ∧ ops[i].dst = if i < k then some (lo + i) else if i = k then e else none := by
  unfold rowBE at h
  rw [List.all_eq_true] at h
  have h1 := h i (by simpa using hi)
  rw [Array.getElem?_eq_getElem hi] at h1
  simpa using h1
theorem put_getD {a : Act} {d : Nat} {v : Value} (hd : d < a.tmps.size) (t : Nat) : (a.put (some d) v).tmps.getD t undef = if t = d then v else a.tmps.getD t undef := by
  rw [Act.put]
  simp only [Array.getD_eq_getD_getElem?, Array.getElem?_setIfInBounds]
  by_cases e : d = t
  · subst e; simp [hd]
  · rw [if_neg e, if_neg (fun h => e h.symm)]
theorem put_getO {a : Act} {e : Option Nat} {v : Value} (hd : ∀ d, e = some d → d < a.tmps.size) (t : Nat) : (a.put e v).tmps.getD t undef = if e = some t then v else a.tmps.getD t undef := by
  cases e with
  | none => rw [if_neg (by simp)]; rfl
  | some d =>
    rw [put_getD (hd d rfl)]
    by_cases h : t = d
    · subst h; simp
    · rw [if_neg h, if_neg (fun h2 => h (Option.some.inj h2).symm)]
theorem put_sizeO {a : Act} {e : Option Nat} {v : Value} : (a.put e v).tmps.size = a.tmps.size := by cases e <;> simp [Act.put]
theorem put_defersO {a : Act} {e : Option Nat} {v : Value} : (a.put e v).defers = a.defers := by cases e <;> rfl
theorem wp_region_rowE {P : Program} {id : Nat} {ops : Array Oper} {Q : Exit → Act → World → Prop} {a : Act} {w : World} (hm : P.follows .mixedOrders = true) (he : edgesB ops = true) (lo k : Nat) (e : Option Nat) (hrow : rowBE ops lo k e = true) (hk : ops.size = k + 1) (hsz : lo + k ≤ a.tmps.size) (hel : ∀ d, e = some d → d < lo)
    (W : (Nat → Bool) → (Nat → Value) → World → Prop) (h0 : ∀ V, W (fun _ => false) V w.drew)
    (hs : ∀ (D D' : Nat → Bool) (V : Nat → Value) (ev : Operand → Value) (w : World) (i : Nat) (hi : i < ops.size), D i = false → (∀ e ∈ ops[i].after.toList, Region.binds .any e = true → D e.on = true) → (∀ j, D' j = if j = i then true else D j) →
      (∀ t, ev (.tmp t) = if (lo ≤ t ∧ t < lo + k) ∧ D (t - lo) = true then V (t - lo) else if e = some t ∧ D k = true then V k else a.tmps.getD t undef) → (∀ v, ev (.const v) = v) → (∀ f, ev (.func f) = .func (.func f) #[] #[]) → W D V w → OpStepE P ops[i] ev w fun v w' => W D' (fun j => if j = i then v else V j) w')
    (hend : ∀ D V w', (∀ i, i < ops.size → D i = true) → W D V w' → Q .normal ((putAll a lo V k).put e (V k)) w') : (Code.region id ops true).wp P Q a w := by
  refine wp_region_J hm he (fun L a' w' => L.size = ops.size ∧ a'.defers = a.defers ∧ a'.tmps.size = a.tmps.size ∧ ∃ V : Nat → Value, (∀ t, a'.tmps.getD t undef = if (lo ≤ t ∧ t < lo + k) ∧ L.getD (t - lo) false = true then V (t - lo) else if e = some t ∧ L.getD k false = true then V k else a.tmps.getD t undef) ∧ W (fun i => L.getD i false) V w') ⟨by simp, rfl, rfl, fun _ => undef, fun t => ?_, ?_⟩ ?_ ?_
  · have hf : ∀ i, (Array.replicate ops.size false).getD i false = false := by
      intro i
      simp only [Array.getD_eq_getD_getElem?, Array.getElem?_replicate]
      split <;> rfl
    rw [hf, hf]
    simp
  · have e : (fun i => (Array.replicate ops.size false).getD i false) = fun _ => false := by
      funext i
      simp only [Array.getD_eq_getD_getElem?, Array.getElem?_replicate]
      split <;> rfl
    rw [e]
    exact h0 _
  · intro L a' w' i rest hl hmem ⟨_, hd, hsz', V, hget, hW⟩ hk'
    have hmem' := hmem
    unfold Region.ready at hmem'
    rw [List.mem_filter] at hmem'
    have hi : i < ops.size := by simpa using hmem'.1
    have h2 := hmem'.2
    rw [Array.getElem?_eq_getElem hi] at h2
    simp only [Option.map_some, Option.getD_some, Bool.and_eq_true, Bool.not_eq_true'] at h2
    obtain ⟨hli, haf⟩ := h2
    have hrow' := rowBE_at hrow hi
    have hlf : L.getD i false = false := by
      rw [Array.getD_eq_getD_getElem?] at hli ⊢
      rw [Array.getElem?_eq_getElem (by omega)] at hli ⊢
      simpa using hli
    have hD' : ∀ j, (L.setIfInBounds i true).getD j false = if j = i then true else L.getD j false := by
      intro j
      rw [getD_put L i j false (by omega)]
      by_cases e : i = j
      · rw [if_pos e, if_pos e.symm]
      · rw [if_neg e, if_neg (fun h => e h.symm)]
    have hst := hs (fun j => L.getD j false) (fun j => (L.setIfInBounds i true).getD j false) V a'.eval w' i hi hlf ?_ hD' (fun t => hget t) (fun _ => rfl) (fun _ => rfl) hW
    · refine hst.sem (Array.getElem?_eq_getElem hi) (by simp [Region.wanted, hrow'.1]) fun v w'' hw'' => hk' _ _ ⟨by simp [hl], ?_, ?_, fun j => if j = i then v else V j, ?_, hw''⟩
      · rw [put_defersO]; exact hd
      · rw [put_sizeO]; exact hsz'
      · intro t
        rw [hrow'.2, hD', hD']
        by_cases hik : i < k
        · rw [if_pos hik, put_getD (by omega), hget t]
          have hki : ¬ k = i := by omega
          by_cases e1 : t = lo + i
          · subst e1
            rw [if_pos rfl, if_pos ⟨by omega, by rw [if_pos (by omega)]⟩]
            exact (if_pos (by omega)).symm
          · have e2 : lo ≤ t → ¬ t - lo = i := by omega
            by_cases e3 : lo ≤ t ∧ t < lo + k
            · simp only [e1, e3, e2 e3.1, hki, if_false]
            · simp only [e1, e3, hki, if_false, false_and]
        · have hik' : i = k := by omega
          subst hik'
          rw [if_neg hik, if_pos rfl, put_getO (fun d hd => by have := hel d hd; omega), hget t]
          by_cases e1 : e = some t
          · have := hel t e1
            rw [if_pos e1, if_neg (by omega), if_pos ⟨e1, by rw [if_pos rfl]⟩]
            exact (if_pos rfl).symm
          · rw [if_neg e1]
            by_cases e3 : lo ≤ t ∧ t < lo + i
            · have e4 : ¬ t - lo = i := by omega
              simp only [e3, e4, e1, if_false, false_and]
            · simp only [e3, e1, if_false, false_and]
    · intro e hm' hb
      rw [Array.all_eq_true] at haf
      obtain ⟨j, hj, rfl⟩ := List.getElem_of_mem hm'
      have := haf j (by simpa using hj)
      simp only [Array.getElem_toList] at hb ⊢
      rw [hb] at this
      simpa using this
  · intro L a' w' hall ⟨hl, hd, hsz', V, hget, hW⟩
    have hallf : ∀ i, i < ops.size → L.getD i false = true := by
      intro i hi
      have := hall i hi
      rw [Array.getD_eq_getD_getElem?] at this ⊢
      rw [Array.getElem?_eq_getElem (by omega)] at this ⊢
      simpa using this
    have e' : a' = (putAll a lo V k).put e (V k) := by
      have hs1 := putAll_size a lo V k
      refine act_ext ?_ (fun t => ?_) ?_
      · rw [put_sizeO]; omega
      · rw [put_getO (fun d hd => by have := hel d hd; omega), putAll_get a lo V k hsz t, hget t, hallf k (by omega)]
        by_cases e1 : e = some t
        · have := hel t e1
          rw [if_neg (by omega), if_pos ⟨e1, rfl⟩, if_pos e1]
        · rw [if_neg e1]
          by_cases e2 : lo ≤ t ∧ t < lo + k
          · rw [if_pos ⟨e2, hallf (t - lo) (by omega)⟩, if_pos e2]
          · rw [if_neg (fun h => e2 h.1), if_neg (fun h => e1 h.1), if_neg e2]
      · rw [put_defersO]; exact hd.trans (putAll_defers a lo V k).symm
    rw [e']
    exact hend _ _ _ hallf hW
end
section
open Go.RowKit Go.Conc
set_option maxRecDepth 100000
set_option linter.unusedVariables false

structure BW (wa : World) (ms : Nat → Bool) (C : (Nat → Bool) → Prop) (val : (Nat → Nat) → Nat → Value) (F : Nat → (Nat → Nat) → World → Prop) (D : Nat → Bool) (V : Nat → Value) (bl : Nat → Nat) (w : World) : Prop where
  bel : Below wa.heap.size wa w
  lo : ∀ i, ms i = true → D i = true → wa.heap.size ≤ bl i
  lt : ∀ i, ms i = true → D i = true → bl i < w.heap.size
  ne : ∀ i j, ms i = true → ms j = true → i ≠ j → D i = true → D j = true → bl i ≠ bl j
  cl : C D
  vals : ∀ i, D i = true → V i = val bl i
  facts : ∀ i, D i = true → F i bl w
section
variable {wa w w' : World} {ms : Nat → Bool} {C : (Nat → Bool) → Prop} {val : (Nat → Nat) → Nat → Value} {F : Nat → (Nat → Nat) → World → Prop} {D D' : Nat → Bool} {V : Nat → Value} {bl : Nat → Nat} {i : Nat}
theorem BW.start (hb : Below wa.heap.size wa w) (hc : C fun _ => false) (bl : Nat → Nat) (V : Nat → Value) : BW wa ms C val F (fun _ => false) V bl w :=
  ⟨hb, fun _ _ h => (nomatch h), fun _ _ h => (nomatch h), fun _ _ _ _ _ h => (nomatch h), hc, fun _ h => (nomatch h), fun _ h => (nomatch h)⟩
/-- A value that makes nothing. -/
theorem BW.pure (h : BW wa ms C val F D V bl w) (hD' : ∀ j, D' j = if j = i then true else D j) (hm : ms i = false) {v : Value} (hv : v = val bl i) (hf : F i bl w) (hc : C D') : BW wa ms C val F D' (fun j => if j = i then v else V j) bl w := by
  have old : ∀ j, ms j = true → D' j = true → D j = true := by
    intro j hj hd
    rw [hD'] at hd
    by_cases e : j = i
    · subst e; rw [hm] at hj; cases hj
    · rw [if_neg e] at hd; exact hd
  refine ⟨h.bel, fun j hj hd => h.lo j hj (old j hj hd), fun j hj hd => h.lt j hj (old j hj hd), fun j k hj hk hne hd hd2 => h.ne j k hj hk hne (old j hj hd) (old k hk hd2), hc, fun j hd => ?_, fun j hd => ?_⟩
  · by_cases e : j = i
    · subst e; rw [if_pos rfl]; exact hv
    · rw [hD', if_neg e] at hd; rw [if_neg e]; exact h.vals j hd
  · by_cases e : j = i
    · subst e; exact hf
    · rw [hD', if_neg e] at hd; exact h.facts j hd
/-- A value that makes a block. -/
theorem BW.mem (h : BW wa ms C val F D V bl w) (hD' : ∀ j, D' j = if j = i then true else D j) {b : Nat} (hb : w.heap.size ≤ b) (hb' : b < w'.heap.size) (hbel : Below w.heap.size w w')
    (hstep : ∀ j, F j bl w → F j bl w') (hst : ∀ j, j ≠ i → D j = true → val (up bl i b) j = val bl j ∧ (F j bl w' → F j (up bl i b) w'))
    {v : Value} (hv : v = val (up bl i b) i) (hf : F i (up bl i b) w') (hc : C D') : BW wa ms C val F D' (fun j => if j = i then v else V j) (up bl i b) w' := by
  have hs := h.bel.size
  have hs2 := hbel.size
  refine ⟨h.bel.trans (hbel.mono hs), fun j hj hd => ?_, fun j hj hd => ?_, fun j k hj hk hne hd hd2 => ?_, hc, fun j hd => ?_, fun j hd => ?_⟩
  · by_cases e : j = i
    · subst e; rw [up_same]; omega
    · rw [hD', if_neg e] at hd; rw [up_ne _ _ _ e]; exact h.lo j hj hd
  · by_cases e : j = i
    · subst e; rw [up_same]; exact hb'
    · rw [hD', if_neg e] at hd; rw [up_ne _ _ _ e]; have := h.lt j hj hd; omega
  · rw [hD'] at hd hd2
    by_cases e : j = i
    · subst e
      have e2 : k ≠ j := fun e => hne e.symm
      rw [if_neg e2] at hd2
      rw [up_same, up_ne _ _ _ e2]
      have := h.lt k hk hd2
      omega
    · rw [if_neg e] at hd
      rw [up_ne _ _ _ e]
      by_cases e2 : k = i
      · subst e2
        rw [up_same]
        have := h.lt j hj hd
        omega
      · rw [if_neg e2] at hd2
        rw [up_ne _ _ _ e2]
        exact h.ne j k hj hk hne hd hd2
  · by_cases e : j = i
    · subst e; rw [if_pos rfl]; exact hv
    · rw [hD', if_neg e] at hd; rw [if_neg e, (hst j e hd).1]; exact h.vals j hd
  · by_cases e : j = i
    · subst e; exact hf
    · rw [hD', if_neg e] at hd; exact (hst j e hd).2 (hstep j (h.facts j hd))
end
theorem ints_infoI : (Try.prog.info? 26).map (fun i => (i.zero, i.size, i.bytes)) = some (some (.slice none 0 0), 1, 24) := by kernel_rfl
theorem mkInts (n : Nat) (hn : n ≤ 1000) (w : World) : (Instr.makeSlice 26 (.int .i64 (n : Int)) (.int .i64 (n : Int))).run Try.prog w = .ok (.slice (some ⟨w.heap.size, 0, none⟩) n n) (w.alloc (.cells (madeCells #[.int .i64 0] n) 3)) :=
  run_make_row' (P := Try.prog) 26 3 (.int .i64 0) 8 Try.underlying26 int_info rfl .i64 .i64 n (by omega) (by omega) w
theorem mkRows (n : Nat) (hn : n ≤ 1000) (w : World) : (Instr.makeSlice 40 (.int .i64 (n : Int)) (.int .i64 (n : Int))).run Try.prog w = .ok (.slice (some ⟨w.heap.size, 0, none⟩) n n) (w.alloc (.cells (madeCells #[.slice none 0 0] n) 26)) :=
  run_make_row' (P := Try.prog) 40 26 (.slice none 0 0) 24 Try.underlying40 ints_infoI rfl .i64 .i64 n (by omega) (by omega) w
theorem madeRC (w : World) (n : Nat) (hn : n ≤ 1000) : RC (w.alloc (.cells (madeCells #[Value.int IntKind.i64 0] n) 3)) w.heap.size n (List.replicate n 0) := by
  have h := World.ownsRow_lit (base := w.heap.size) (e := 3) (size := 1) w (madeCells #[Value.int IntKind.i64 0] n) n (Nat.le_refl _) (by unfold maxLen; omega) (by rw [size_madeCells]; simp)
  rw [toList_madeCells_one] at h
  exact RC.of (by simpa [ics] using h) (by simp)
theorem madeA (v : Value) (n : Nat) : madeCells #[v] n = ((List.range n).map fun _ => v).toArray := by
  apply Array.ext'
  rw [toList_madeCells_one]
  apply List.ext_getElem (by simp)
  intro i h1 h2
  simp
theorem madeBK (w : World) (n : Nat) (v : Value) (t : TypeId) : BK (w.alloc (.cells (madeCells #[v] n) t)) w.heap.size t ((List.range n).map fun _ => v).toArray := by
  have := BK.made w t (madeCells #[v] n)
  rw [madeA] at this ⊢
  exact this
end
end Go.Proofs.Ytfphkgialmjfnaa
