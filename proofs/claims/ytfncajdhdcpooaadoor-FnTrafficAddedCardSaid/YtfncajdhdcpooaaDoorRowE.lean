/-
  A region that draws its order, whose results stand in a row of slots (and one more behind all): by what has been done, where the values are not known ahead (blocks that are made in any order).
-/
import Derived.Test.YtfncajdhdcpooaaDoorChanJ
namespace Go.Proofs.YtfncajdhdcpooaaDoor
open Go.RowKit Go.Conc
set_option maxRecDepth 100000
set_option linter.unusedVariables false

/-- One operation, in a state that evaluates so: R holds of what it leaves. -/
inductive OpStepE (P : Program) (o : Oper) (ev : Operand → Value) (w : World) (R : Value → World → Prop) : Prop where
  | value (v : Value) (w' : World) (hr : (execOp ev o).run P w = .ok (.value v) w') (h : R v w')
  | skip (w' : World) (hr : (execOp ev o).run P w = .ok .skip w') (h : R undef w')
  | call (f : FuncId) (args : Array Value) (w' : World) (hr : (execOp ev o).run P w = .ok (.enter f args) w') (h : Calls P f args w' fun e w'' => ∃ v, e = .returned v ∧ R v w'')
theorem OpStepE.sem {P : Program} {ops : Array Oper} {Q : Exit → Act → World → Prop} {i : Nat} {rest : List Nat} {o : Oper} {a : Act} {w : World} {R : Value → World → Prop} (h : OpStepE P o a.eval w R) (ho : ops[i]? = some o) (hw : Region.wanted o (yielded ops a.tmps) = true)
    (hk : ∀ v w', R v w' → SemOps P ops Q rest (a.put o.dst v) w') : SemOps P ops Q (i :: rest) a w := by
  cases h with
  | value v w' hr h => exact SemOps.value ho hw hr (hk _ _ h)
  | skip w' hr h => exact SemOps.skip ho hw hr (hk _ _ h)
  | call f args w' hr h => exact SemOps.call ho hw hr (h.mono fun e w'' ⟨v, he, hR⟩ => ⟨v, he, hk _ _ hR⟩)
/-- No guards; the first k operations lay their results into the slots from lo on, the one behind them into slot e, the others into none. -/
def rowBE (ops : Array Oper) (lo k : Nat) (e : Option Nat) : Bool := (List.range ops.size).all fun i => ((ops[i]?).map fun o => decide (o.guard = none) && decide (o.dst = if i < k then some (lo + i) else if i = k then e else none)).getD false
theorem rowBE_at {ops : Array Oper} {lo k : Nat} {e : Option Nat} (h : rowBE ops lo k e = true) {i : Nat} (hi : i < ops.size) : ops[i].guard = none ∧ ops[i].dst = if i < k then some (lo + i) else if i = k then e else none := by
  unfold rowBE at h
  rw [List.all_eq_true] at h
  have h1 := h i (by simpa using hi)
  rw [Array.getElem?_eq_getElem hi] at h1
  simpa using h1
theorem put_getD {a : Act} {d : Nat} {v : Value} (hd : d < a.tmps.size) (t : Nat) : (a.put (some d) v).tmps.getD t undef = if t = d then v else a.tmps.getD t undef := by
  rw [Act.put]
  simp only [Array.getD_eq_getD_getElem?, Array.getElem?_setIfInBounds]
  by_cases e : d = t
  · subst e; simp [hd]
  · rw [if_neg e, if_neg (fun h => e h.symm)]
theorem put_getO {a : Act} {e : Option Nat} {v : Value} (hd : ∀ d, e = some d → d < a.tmps.size) (t : Nat) : (a.put e v).tmps.getD t undef = if e = some t then v else a.tmps.getD t undef := by
  cases e with
  | none => rw [if_neg (by simp)]; rfl
  | some d =>
    rw [put_getD (hd d rfl)]
    by_cases h : t = d
    · subst h; simp
    · rw [if_neg h, if_neg (fun h2 => h (Option.some.inj h2).symm)]
theorem put_sizeO {a : Act} {e : Option Nat} {v : Value} : (a.put e v).tmps.size = a.tmps.size := by cases e <;> simp [Act.put]
theorem put_defersO {a : Act} {e : Option Nat} {v : Value} : (a.put e v).defers = a.defers := by cases e <;> rfl
theorem wp_region_rowE {P : Program} {id : Nat} {ops : Array Oper} {Q : Exit → Act → World → Prop} {a : Act} {w : World} (hm : P.follows .mixedOrders = true) (he : edgesB ops = true) (lo k : Nat) (e : Option Nat) (hrow : rowBE ops lo k e = true) (hk : ops.size = k + 1) (hsz : lo + k ≤ a.tmps.size) (hel : ∀ d, e = some d → d < lo)
    (W : (Nat → Bool) → (Nat → Value) → World → Prop) (h0 : ∀ V, W (fun _ => false) V w.drew)
    (hs : ∀ (D D' : Nat → Bool) (V : Nat → Value) (ev : Operand → Value) (w : World) (i : Nat) (hi : i < ops.size), D i = false → (∀ e ∈ ops[i].after.toList, Region.binds .any e = true → D e.on = true) → (∀ j, D' j = if j = i then true else D j) →
      (∀ t, ev (.tmp t) = if (lo ≤ t ∧ t < lo + k) ∧ D (t - lo) = true then V (t - lo) else if e = some t ∧ D k = true then V k else a.tmps.getD t undef) → (∀ v, ev (.const v) = v) → (∀ f, ev (.func f) = .func (.func f) #[] #[]) → W D V w → OpStepE P ops[i] ev w fun v w' => W D' (fun j => if j = i then v else V j) w')
    (hend : ∀ D V w', (∀ i, i < ops.size → D i = true) → W D V w' → Q .normal ((putAll a lo V k).put e (V k)) w') : (Code.region id ops true).wp P Q a w := by
  refine wp_region_J hm he (fun L a' w' => L.size = ops.size ∧ a'.defers = a.defers ∧ a'.tmps.size = a.tmps.size ∧ ∃ V : Nat → Value, (∀ t, a'.tmps.getD t undef = if (lo ≤ t ∧ t < lo + k) ∧ L.getD (t - lo) false = true then V (t - lo) else if e = some t ∧ L.getD k false = true then V k else a.tmps.getD t undef) ∧ W (fun i => L.getD i false) V w') ⟨by simp, rfl, rfl, fun _ => undef, fun t => ?_, ?_⟩ ?_ ?_
  · have hf : ∀ i, (Array.replicate ops.size false).getD i false = false := by
      intro i
      simp only [Array.getD_eq_getD_getElem?, Array.getElem?_replicate]
      split <;> rfl
    rw [hf, hf]
    simp
  · have e : (fun i => (Array.replicate ops.size false).getD i false) = fun _ => false := by
      funext i
      simp only [Array.getD_eq_getD_getElem?, Array.getElem?_replicate]
      split <;> rfl
    rw [e]
    exact h0 _
  · intro L a' w' i rest hl hmem ⟨_, hd, hsz', V, hget, hW⟩ hk'
    have hmem' := hmem
    unfold Region.ready at hmem'
    rw [List.mem_filter] at hmem'
    have hi : i < ops.size := by simpa using hmem'.1
    have h2 := hmem'.2
    rw [Array.getElem?_eq_getElem hi] at h2
    simp only [Option.map_some, Option.getD_some, Bool.and_eq_true, Bool.not_eq_true'] at h2
    obtain ⟨hli, haf⟩ := h2
    have hrow' := rowBE_at hrow hi
    have hlf : L.getD i false = false := by
      rw [Array.getD_eq_getD_getElem?] at hli ⊢
      rw [Array.getElem?_eq_getElem (by omega)] at hli ⊢
      simpa using hli
    have hD' : ∀ j, (L.setIfInBounds i true).getD j false = if j = i then true else L.getD j false := by
      intro j
      rw [getD_put L i j false (by omega)]
      by_cases e : i = j
      · rw [if_pos e, if_pos e.symm]
      · rw [if_neg e, if_neg (fun h => e h.symm)]
    have hst := hs (fun j => L.getD j false) (fun j => (L.setIfInBounds i true).getD j false) V a'.eval w' i hi hlf ?_ hD' (fun t => hget t) (fun _ => rfl) (fun _ => rfl) hW
    · refine hst.sem (Array.getElem?_eq_getElem hi) (by simp [Region.wanted, hrow'.1]) fun v w'' hw'' => hk' _ _ ⟨by simp [hl], ?_, ?_, fun j => if j = i then v else V j, ?_, hw''⟩
      · rw [put_defersO]; exact hd
      · rw [put_sizeO]; exact hsz'
      · intro t
        rw [hrow'.2, hD', hD']
        by_cases hik : i < k
        · rw [if_pos hik, put_getD (by omega), hget t]
          have hki : ¬ k = i := by omega
          by_cases e1 : t = lo + i
          · subst e1
            rw [if_pos rfl, if_pos ⟨by omega, by rw [if_pos (by omega)]⟩]
            exact (if_pos (by omega)).symm
          · have e2 : lo ≤ t → ¬ t - lo = i := by omega
            by_cases e3 : lo ≤ t ∧ t < lo + k
            · simp only [e1, e3, e2 e3.1, hki, if_false]
            · simp only [e1, e3, hki, if_false, false_and]
        · have hik' : i = k := by omega
          subst hik'
          rw [if_neg hik, if_pos rfl, put_getO (fun d hd => by have := hel d hd; omega), hget t]
          by_cases e1 : e = some t
          · have := hel t e1
            rw [if_pos e1, if_neg (by omega), if_pos ⟨e1, by rw [if_pos rfl]⟩]
            exact (if_pos rfl).symm
          · rw [if_neg e1]
            by_cases e3 : lo ≤ t ∧ t < lo + i
            · have e4 : ¬ t - lo = i := by omega
              simp only [e3, e4, e1, if_false, false_and]
            · simp only [e3, e1, if_false, false_and]
    · intro e hm' hb
      rw [Array.all_eq_true] at haf
      obtain ⟨j, hj, rfl⟩ := List.getElem_of_mem hm'
      have := haf j (by simpa using hj)
      simp only [Array.getElem_toList] at hb ⊢
      rw [hb] at this
      simpa using this
  · intro L a' w' hall ⟨hl, hd, hsz', V, hget, hW⟩
    have hallf : ∀ i, i < ops.size → L.getD i false = true := by
      intro i hi
      have := hall i hi
      rw [Array.getD_eq_getD_getElem?] at this ⊢
      rw [Array.getElem?_eq_getElem (by omega)] at this ⊢
      simpa using this
    have e' : a' = (putAll a lo V k).put e (V k) := by
      have hs1 := putAll_size a lo V k
      refine act_ext ?_ (fun t => ?_) ?_
      · rw [put_sizeO]; omega
      · rw [put_getO (fun d hd => by have := hel d hd; omega), putAll_get a lo V k hsz t, hget t, hallf k (by omega)]
        by_cases e1 : e = some t
        · have := hel t e1
          rw [if_neg (by omega), if_pos ⟨e1, rfl⟩, if_pos e1]
        · rw [if_neg e1]
          by_cases e2 : lo ≤ t ∧ t < lo + k
          · rw [if_pos ⟨e2, hallf (t - lo) (by omega)⟩, if_pos e2]
          · rw [if_neg (fun h => e2 h.1), if_neg (fun h => e1 h.1), if_neg e2]
      · rw [put_defersO]; exact hd.trans (putAll_defers a lo V k).symm
    rw [e']
    exact hend _ _ _ hallf hW
end Go.Proofs.YtfncajdhdcpooaaDoor
