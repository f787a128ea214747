/-
  A region that draws its order and whose operations lay their results into slots that stand in a row: by what has been done.
-/
import Derived.Test.YtehmhkbiofndaaaChan
namespace Go.Proofs.Ytehmhkbiofndaaa
open Go.RowKit Go.Conc
set_option maxRecDepth 100000
set_option linter.unusedVariables false

theorem run_call_any {P : Program} {w : World} {ρ : Operand → Value} {o : Oper} {f : FuncId} {fn : Func} {args : Array Operand} {ats : Array TypeId} (hop : o.op = .call { callee := .value (.func f), args, argTypes := ats })
    (hρ : ρ (.func f) = .func (.func f) #[] #[]) (hf : P.funcs[f]? = some fn) (hname : (fn.name == "runtime.NumGoroutine") = false) (hb : fn.body.isNone = false) : (execOp ρ o).run P w = .ok (.enter f (args.map ρ)) w := by
  have h1 : ¬ fn.name = "runtime.NumGoroutine" := by simpa using hname
  have h2 : ¬ fn.body = none := by cases hx : fn.body <;> simp_all
  unfold execOp
  simp [hop, resolve, Deferred.ofValue, invoke, callFunc, hf, h1, h2, hρ]
/-- One operation, in a state that evaluates so: it leaves the value v, and a world of which R holds. -/
inductive OpStep (P : Program) (o : Oper) (ev : Operand → Value) (w : World) (v : Value) (R : World → Prop) : Prop where
  | value (w' : World) (hr : (execOp ev o).run P w = .ok (.value v) w') (h : R w')
  | skip (w' : World) (hv : v = undef) (hr : (execOp ev o).run P w = .ok .skip w') (h : R w')
  | call (f : FuncId) (args : Array Value) (w' : World) (hr : (execOp ev o).run P w = .ok (.enter f args) w') (h : Calls P f args w' fun e w'' => e = .returned v ∧ R w'')
  | send (c cap s r : Nat) (buf : Array Value) (tm : Bool) (x z : Value) (w' : World) (hv : v = undef) (hr : (execOp ev o).run P w = .ok (.comm #[scase c x z] true .send) w')
      (hc : w'.heap[c]? = some (.chan cap buf false s r tm)) (hroom : buf.size < cap) (h : R (w'.setChan c cap (buf.push x) false (s + 1) r tm))
  | recv (c cap s r : Nat) (buf : Array Value) (closed tm : Bool) (z : Value) (w' : World) (hv : v = buf.getD 0 undef) (hr : (execOp ev o).run P w = .ok (.comm #[rcase c z] true (.recv false)) w')
      (hc : w'.heap[c]? = some (.chan cap buf closed s r tm)) (hsome : 0 < buf.size) (h : R (w'.setChan c cap (buf.extract 1 buf.size) closed s (r + 1) tm))
theorem OpStep.sem {P : Program} {ops : Array Oper} {Q : Exit → Act → World → Prop} {i : Nat} {rest : List Nat} {o : Oper} {a : Act} {w : World} {v : Value} {R : World → Prop} (h : OpStep P o a.eval w v R) (ho : ops[i]? = some o) (hw : Region.wanted o (yielded ops a.tmps) = true)
    (hk : ∀ w', R w' → SemOps P ops Q rest (a.put o.dst v) w') : SemOps P ops Q (i :: rest) a w := by
  cases h with
  | value w' hr h => exact SemOps.value ho hw hr (hk _ h)
  | skip w' hv hr h => subst hv; exact SemOps.skip ho hw hr (hk _ h)
  | call f args w' hr h => exact SemOps.call ho hw hr (h.mono fun e w'' ⟨he, hR⟩ => ⟨v, he, hk _ hR⟩)
  | send c cap s r buf tm x z w' hv hr hc hroom h => subst hv; exact SemOps.send ho hw hr hc hroom (hk _ h)
  | recv c cap s r buf closed tm z w' hv hr hc hsome h => subst hv; exact SemOps.recv ho hw hr hc hsome (hk _ h)
/-- No guards; the first k operations lay their results into the slots from lo on, the others into none. -/
def rowB (ops : Array Oper) (lo k : Nat) : Bool := (List.range ops.size).all fun i => ((ops[i]?).map fun o => decide (o.guard = none) && decide (o.dst = if i < k then some (lo + i) else none)).getD false
theorem rowB_at {ops : Array Oper} {lo k : Nat} (h : rowB ops lo k = true) {i : Nat} (hi : i < ops.size) : ops[i].guard = none ∧ ops[i].dst = if i < k then some (lo + i) else none := by
  unfold rowB at h
  rw [List.all_eq_true] at h
  have h1 := h i (by simpa using hi)
  rw [Array.getElem?_eq_getElem hi] at h1
  simpa using h1
/-- All results laid. -/
def putAll (a : Act) (lo : Nat) (V : Nat → Value) : Nat → Act
  | 0 => a
  | i + 1 => (putAll a lo V i).put (some (lo + i)) (V i)
theorem putAll_defers (a : Act) (lo : Nat) (V : Nat → Value) (k : Nat) : (putAll a lo V k).defers = a.defers := by
  induction k with
  | zero => rfl
  | succ k ih => rw [putAll, Act.put]; exact ih
theorem putAll_size (a : Act) (lo : Nat) (V : Nat → Value) (k : Nat) : (putAll a lo V k).tmps.size = a.tmps.size := by
  induction k with
  | zero => rfl
  | succ k ih => rw [putAll, Act.put]; simpa using ih
theorem putAll_get (a : Act) (lo : Nat) (V : Nat → Value) (k : Nat) (hk : lo + k ≤ a.tmps.size) (t : Nat) : (putAll a lo V k).tmps.getD t undef = if lo ≤ t ∧ t < lo + k then V (t - lo) else a.tmps.getD t undef := by
  induction k with
  | zero => rw [putAll, if_neg (by omega)]
  | succ k ih =>
    have ih := ih (by omega)
    have hs := putAll_size a lo V k
    rw [putAll, Act.put]
    simp only [Array.getD_eq_getD_getElem?, Array.getElem?_setIfInBounds] at ih ⊢
    by_cases e : lo + k = t
    · subst e
      rw [if_pos rfl, if_pos (by omega), if_pos (by omega)]
      simp
    · rw [if_neg e, ih]
      by_cases e2 : lo ≤ t ∧ t < lo + k
      · rw [if_pos e2, if_pos (by omega)]
      · rw [if_neg e2, if_neg (by omega)]
theorem act_ext {a b : Act} (h1 : a.tmps.size = b.tmps.size) (h2 : ∀ t, a.tmps.getD t undef = b.tmps.getD t undef) (h3 : a.defers = b.defers) : a = b := by
  obtain ⟨ta, da⟩ := a
  obtain ⟨tb, db⟩ := b
  simp only at h1 h2 h3
  subst h3
  congr 1
  apply Array.ext h1
  intro i hi hi'
  have := h2 i
  simp only [Array.getD_eq_getD_getElem?, Array.getElem?_eq_getElem hi, Array.getElem?_eq_getElem hi', Option.getD_some] at this
  exact this
theorem wp_region_row {P : Program} {id : Nat} {ops : Array Oper} {Q : Exit → Act → World → Prop} {a : Act} {w : World} (hm : P.follows .mixedOrders = true) (he : edgesB ops = true) (lo k : Nat) (hrow : rowB ops lo k = true) (hk : k ≤ ops.size) (hsz : lo + k ≤ a.tmps.size)
    (V : Nat → Value) (W : (Nat → Bool) → World → Prop) (h0 : W (fun _ => false) w.drew)
    (hs : ∀ (D D' : Nat → Bool) (ev : Operand → Value) (w : World) (i : Nat) (hi : i < ops.size), D i = false → (∀ e ∈ ops[i].after.toList, Region.binds .any e = true → D e.on = true) → (∀ j, D' j = if j = i then true else D j) →
      (∀ t, ev (.tmp t) = if (lo ≤ t ∧ t < lo + k) ∧ D (t - lo) = true then V (t - lo) else a.tmps.getD t undef) → (∀ v, ev (.const v) = v) → (∀ f, ev (.func f) = .func (.func f) #[] #[]) → W D w → OpStep P ops[i] ev w (if i < k then V i else undef) (W D'))
    (hend : ∀ D w', (∀ i, i < ops.size → D i = true) → W D w' → Q .normal (putAll a lo V k) w') : (Code.region id ops true).wp P Q a w := by
  refine wp_region_J hm he (fun L a' w' => L.size = ops.size ∧ a'.defers = a.defers ∧ a'.tmps.size = a.tmps.size ∧ (∀ t, a'.tmps.getD t undef = if (lo ≤ t ∧ t < lo + k) ∧ L.getD (t - lo) false = true then V (t - lo) else a.tmps.getD t undef) ∧ W (fun i => L.getD i false) w') ⟨by simp, rfl, rfl, fun t => ?_, ?_⟩ ?_ ?_
  · rw [if_neg]
    rintro ⟨h1, h2⟩
    simp [Array.getD_eq_getD_getElem?, Array.getElem?_replicate] at h2
    split at h2 <;> simp at h2
  · have e : (fun i => (Array.replicate ops.size false).getD i false) = fun _ => false := by
      funext i
      simp only [Array.getD_eq_getD_getElem?, Array.getElem?_replicate]
      split <;> rfl
    rw [e]
    exact h0
  · intro L a' w' i rest hl hmem ⟨_, hd, hsz', hget, hW⟩ hk'
    have hmem' := hmem
    unfold Region.ready at hmem'
    rw [List.mem_filter] at hmem'
    have hi : i < ops.size := by simpa using hmem'.1
    have h2 := hmem'.2
    rw [Array.getElem?_eq_getElem hi] at h2
    simp only [Option.map_some, Option.getD_some, Bool.and_eq_true, Bool.not_eq_true'] at h2
    obtain ⟨hli, haf⟩ := h2
    have hrow' := rowB_at hrow hi
    have hlf : L.getD i false = false := by
      rw [Array.getD_eq_getD_getElem?] at hli ⊢
      rw [Array.getElem?_eq_getElem (by omega)] at hli ⊢
      simpa using hli
    have hst := hs (fun j => L.getD j false) (fun j => (L.setIfInBounds i true).getD j false) a'.eval w' i hi hlf ?_ ?_ ?_ (fun _ => rfl) (fun _ => rfl) hW
    · refine hst.sem (Array.getElem?_eq_getElem hi) (by simp [Region.wanted, hrow'.1]) fun w'' hw'' => hk' _ _ ⟨by simp [hl], ?_, ?_, ?_, hw''⟩
      · rw [hrow'.2]
        split <;> (rw [Act.put]; exact hd)
      · rw [hrow'.2]
        split
        · rw [Act.put]; simpa using hsz'
        · rw [Act.put]; exact hsz'
      · intro t
        rw [hrow'.2]
        by_cases hik : i < k
        · rw [if_pos hik, if_pos hik, Act.put]
          simp only [Array.getD_eq_getD_getElem?, Array.getElem?_setIfInBounds] at hget ⊢
          by_cases e : lo + i = t
          · subst e
            rw [if_pos rfl, if_pos (by omega), if_pos]
            · simp
            · refine ⟨by omega, ?_⟩
              simp only [Nat.add_sub_cancel_left]
              rw [if_pos trivial, if_pos (by omega)]
              rfl
          · rw [if_neg e, hget t]
            by_cases e2 : lo ≤ t ∧ t < lo + k
            · have e3 : ¬ i = t - lo := by omega
              simp only [e2, e3, and_self, true_and, if_false]
            · simp only [e2, false_and]
        · rw [if_neg hik, if_neg hik, Act.put]
          rw [hget t]
          by_cases e2 : lo ≤ t ∧ t < lo + k
          · have e3 : ¬ i = t - lo := by omega
            simp only [e2, and_self, true_and, Array.getD_eq_getD_getElem?, Array.getElem?_setIfInBounds, e3, if_false]
          · simp only [e2, false_and]
    · intro e hm' hb
      rw [Array.all_eq_true] at haf
      obtain ⟨j, hj, rfl⟩ := List.getElem_of_mem hm'
      have := haf j (by simpa using hj)
      simp only [Array.getElem_toList] at hb ⊢
      rw [hb] at this
      simpa using this
    · intro j
      show (L.setIfInBounds i true).getD j false = _
      rw [getD_put L i j false (by omega)]
      by_cases e : i = j
      · rw [if_pos e, if_pos e.symm]
      · rw [if_neg e, if_neg (fun h => e h.symm)]
    · intro t
      exact hget t
  · intro L a' w' hall ⟨hl, hd, hsz', hget, hW⟩
    have e : a' = putAll a lo V k := by
      refine act_ext (hsz'.trans (putAll_size a lo V k).symm) (fun t => ?_) (hd.trans (putAll_defers a lo V k).symm)
      rw [hget t, putAll_get a lo V k hsz t]
      by_cases e2 : lo ≤ t ∧ t < lo + k
      · have h1 : L.getD (t - lo) false = true := by
          have := hall (t - lo) (by omega)
          rw [Array.getD_eq_getD_getElem?] at this ⊢
          rw [Array.getElem?_eq_getElem (by omega)] at this ⊢
          simpa using this
        rw [if_pos ⟨e2, h1⟩, if_pos e2]
      · rw [if_neg (fun h => e2 h.1), if_neg e2]
    rw [e]
    refine hend _ _ (fun i hi => ?_) hW
    have := hall i hi
    show L.getD i false = true
    rw [Array.getD_eq_getD_getElem?] at this ⊢
    rw [Array.getElem?_eq_getElem (by omega)] at this ⊢
    simpa using this
end Go.Proofs.Ytehmhkbiofndaaa
