/-
  Channels with room, in one goroutine: a send and a receive as steps of a region, and regions that draw their order by what they have done.
-/
import Derived.Test.YtehmhkbiofndaaaBase
import Derived.Conc.LoneCalls
import Derived.Orders
import Derived.BigRegion
namespace Go.Proofs.Ytehmhkbiofndaaa
open Go.RowKit Go.Conc
set_option maxRecDepth 100000
set_option linter.unusedVariables false

theorem stepG_comm_any {P : Program} {b : Frame} {a : Act} {k : List Item} {cs : List Frame} {w w' : World} {ops : Array Oper} {i : Nat} {rest : List Nat} {o : Oper} {cases : Array CommCase} {blocking : Bool} {shape : CommShape} (ho : ops[i]? = some o) (hw : Region.wanted o (yielded ops a.tmps) = true)
    (hr : (execOp a.eval o).run P w = .ok (.comm cases blocking shape) w') :
    ∃ es, stepG P true (G (b.at a (.inRegion ops (i :: rest) :: k)) cs) w = .comm (G (b.at a (.inRegion ops (i :: rest) :: k)) cs) cases blocking shape w' es := by
  rw [stepG_oper ho hw]
  cases hk : (b.kind == CallKind.early) <;> simp [stepG.apply, hr, G, Frame.at, hk, GStep.after]
/-- From here, with this region's operations to come in this order: the rest of the region is gone through, and then Q holds. -/
def SemOps (P : Program) (ops : Array Oper) (Q : Exit → Act → World → Prop) (l : List Nat) (a : Act) (w : World) : Prop :=
  ∀ (b : Frame) (k : List Item) (cs : List Frame), ∃ e a' w', Q e a' w' ∧ Arrives P (lone (b.at a (.inRegion ops l :: k)) cs w) b k cs e a' w'
section
variable {P : Program} {ops : Array Oper} {Q : Exit → Act → World → Prop} {i : Nat} {rest l : List Nat} {o : Oper} {a : Act} {w w' : World}
theorem SemOps.of_wp (h : wpOps P ops Q l a w) : SemOps P ops Q l a w := wp_ops l a w h
theorem SemOps.nil (h : Q .normal a w) : SemOps P ops Q [] a w := fun b k cs => ⟨.normal, a, w, h, .one step_region_end⟩
theorem wp_region_sem {id : Nat} (h : SemOps P ops Q (List.range ops.size) a w) : (Code.region id ops false).wp P Q a w :=
  fun b k cs => let ⟨e, a', w', q, r⟩ := h b k cs; ⟨e, a', w', q, .of_steps (.one step_region) r⟩
theorem wp_region_sem_draw {id : Nat} (h : ∀ t, SemOps P ops Q (Region.schedule (P.follows .mixedOrders) ops t) a { w with drawn := w.drawn + 1 }) : (Code.region id ops true).wp P Q a w :=
  fun b k cs => let ⟨e, a', w', q, r⟩ := h _ b k cs; ⟨e, a', w', q, .of_steps (.one step_region_draw) r⟩
/-- An operation that yields a value. -/
theorem SemOps.value {v : Value} (ho : ops[i]? = some o) (hw : Region.wanted o (yielded ops a.tmps) = true) (hr : (execOp a.eval o).run P w = .ok (.value v) w') (h : SemOps P ops Q rest (a.put o.dst v) w') : SemOps P ops Q (i :: rest) a w := by
  intro b k cs
  obtain ⟨e, a', w'', hq, harr⟩ := h b k cs
  have hg := stepG_op (P := P) (b := b) (k := k) (cs := cs) (w := w) (rest := rest) ho hw
  have hfin : (b.at a (.inRegion ops (i :: rest) :: k)).finish v = b.at (a.put o.dst v) (.inRegion ops rest :: k) := by rw [Frame.finish_at, ho]; rfl
  refine ⟨e, a', w'', hq, .of_steps (.one (step_lone_go ?_)) harr⟩
  rw [hg, ← hfin]
  simp [stepG.apply, hr]
/-- .. that yields nothing. -/
theorem SemOps.skip (ho : ops[i]? = some o) (hw : Region.wanted o (yielded ops a.tmps) = true) (hr : (execOp a.eval o).run P w = .ok .skip w') (h : SemOps P ops Q rest (a.put o.dst undef) w') : SemOps P ops Q (i :: rest) a w := by
  intro b k cs
  obtain ⟨e, a', w'', hq, harr⟩ := h b k cs
  have hg := stepG_op (P := P) (b := b) (k := k) (cs := cs) (w := w) (rest := rest) ho hw
  have hfin : (b.at a (.inRegion ops (i :: rest) :: k)).finish undef = b.at (a.put o.dst undef) (.inRegion ops rest :: k) := by rw [Frame.finish_at, ho]; rfl
  refine ⟨e, a', w'', hq, .of_steps (.one (step_lone_go ?_)) harr⟩
  rw [hg, ← hfin]
  simp [stepG.apply, hr]
/-- .. that calls. -/
theorem SemOps.call {f : FuncId} {args : Array Value} (ho : ops[i]? = some o) (hw : Region.wanted o (yielded ops a.tmps) = true) (hr : (execOp a.eval o).run P w = .ok (.enter f args) w') (hc : Calls P f args w' fun e w'' => ∃ v, e = .returned v ∧ SemOps P ops Q rest (a.put o.dst v) w'') : SemOps P ops Q (i :: rest) a w := by
  intro b k cs
  have hg := stepG_op (P := P) (b := b) (k := k) (cs := cs) (w := w) (rest := rest) ho hw
  obtain ⟨e, w'', fr, ⟨v, he, hR⟩, hsteps, _, hleave⟩ := hc (b.at a (.inRegion ops (i :: rest) :: k) :: cs)
  subst he
  have hfin : (b.at a (.inRegion ops (i :: rest) :: k)).finish v = b.at (a.put o.dst v) (.inRegion ops rest :: k) := by rw [Frame.finish_at, ho]; rfl
  have henter : step P (lone (b.at a (.inRegion ops (i :: rest) :: k)) cs w) = .next (lone (Frame.enter P f args .normal) (b.at a (.inRegion ops (i :: rest) :: k) :: cs) w') :=
    step_lone_go (by rw [hg]; simp [stepG.apply, hr, Frame.at])
  obtain ⟨e, a', w₃, hq, harr⟩ := hR b k cs
  refine ⟨e, a', w₃, hq, .of_steps (.head henter (Steps.trans hsteps (.one ?_))) harr⟩
  rw [← hfin]
  exact step_leave_returned hleave
/-- .. that sends, and there is room. -/
theorem SemOps.send {c cap s r : Nat} {buf : Array Value} {tm : Bool} {v z : Value} (ho : ops[i]? = some o) (hw : Region.wanted o (yielded ops a.tmps) = true) (hr : (execOp a.eval o).run P w = .ok (.comm #[scase c v z] true .send) w')
    (hc : w'.heap[c]? = some (.chan cap buf false s r tm)) (hroom : buf.size < cap) (h : SemOps P ops Q rest (a.put o.dst undef) (w'.setChan c cap (buf.push v) false (s + 1) r tm)) : SemOps P ops Q (i :: rest) a w := by
  intro b k cs
  obtain ⟨e, a', w'', hq, harr⟩ := h b k cs
  obtain ⟨es, hg⟩ := stepG_comm_any (b := b) (k := k) (cs := cs) (rest := rest) ho hw hr
  have hfin : (b.at a (.inRegion ops (i :: rest) :: k)).finish undef = b.at (a.put o.dst undef) (.inRegion ops rest :: k) := by rw [Frame.finish_at, ho]; rfl
  have hst := step_lone_send_room hg hc hroom
  rw [hfin] at hst
  exact ⟨e, a', w'', hq, .of_steps (.one hst) harr⟩
/-- .. that receives, and there is something. -/
theorem SemOps.recv {c cap s r : Nat} {buf : Array Value} {closed tm : Bool} {z : Value} (ho : ops[i]? = some o) (hw : Region.wanted o (yielded ops a.tmps) = true) (hr : (execOp a.eval o).run P w = .ok (.comm #[rcase c z] true (.recv false)) w')
    (hc : w'.heap[c]? = some (.chan cap buf closed s r tm)) (hsome : 0 < buf.size) (h : SemOps P ops Q rest (a.put o.dst (buf.getD 0 undef)) (w'.setChan c cap (buf.extract 1 buf.size) closed s (r + 1) tm)) : SemOps P ops Q (i :: rest) a w := by
  intro b k cs
  obtain ⟨e, a', w'', hq, harr⟩ := h b k cs
  obtain ⟨es, hg⟩ := stepG_comm_any (b := b) (k := k) (cs := cs) (rest := rest) ho hw hr
  have hfin : (b.at a (.inRegion ops (i :: rest) :: k)).finish (buf.getD 0 undef) = b.at (a.put o.dst (buf.getD 0 undef)) (.inRegion ops rest :: k) := by rw [Frame.finish_at, ho]; rfl
  have hst := step_lone_recv_buf false hg hc hsome
  simp only [got, Bool.false_eq_true, if_false] at hst
  rw [hfin] at hst
  exact ⟨e, a', w'', hq, .of_steps (.one hst) harr⟩
end

/-! ### A region that draws its order: by what has been done. -/
/-- All edges lead back in the text. -/
def edgesB (ops : Array Oper) : Bool := (List.range ops.size).all fun i => ((ops[i]?).map (·.after.all fun e => !Region.binds .any e || decide (e.on < i))).getD false
def cntL (L : Array Bool) : Nat → Nat
  | 0 => 0
  | i + 1 => cntL L i + if L.getD i true = false then 1 else 0
theorem cntL_le (L : Array Bool) (n : Nat) : cntL L n ≤ n := by
  induction n with
  | zero => exact Nat.le_refl _
  | succ n ih => rw [cntL]; split <;> omega
theorem getD_put (L : Array Bool) (i j : Nat) (d : Bool) (hi : i < L.size) : (L.setIfInBounds i true).getD j d = if i = j then true else L.getD j d := by
  simp only [Array.getD_eq_getD_getElem?, Array.getElem?_setIfInBounds]
  split
  · rename_i e
    rfl
  · rfl
theorem cntL_set {L : Array Bool} {i : Nat} (hi : i < L.size) (h : L.getD i true = false) (n : Nat) : cntL (L.setIfInBounds i true) n = if i < n then cntL L n - 1 else cntL L n := by
  induction n with
  | zero => simp [cntL]
  | succ n ih =>
    rw [cntL, cntL, ih, getD_put L i n true hi]
    have h1 := cntL_le L n
    by_cases e : i = n
    · subst e
      simp [h]
    · rw [if_neg e]
      by_cases e2 : i < n
      · rw [if_pos e2, if_pos (show i < n + 1 by omega)]
        have h2 : 0 < cntL L n := by
          clear ih
          induction n with
          | zero => omega
          | succ n ih2 =>
            rw [cntL]
            by_cases e3 : i = n
            · subst e3; rw [if_pos h]; omega
            · have := ih2 (cntL_le L n) e3 (by omega)
              omega
        omega
      · rw [if_neg e2, if_neg (show ¬ i < n + 1 by omega)]
theorem cntL_zero {L : Array Bool} {n : Nat} (h : cntL L n = 0) : ∀ i, i < n → L.getD i true = true := by
  induction n with
  | zero => intro i hi; omega
  | succ n ih =>
    rw [cntL] at h
    intro i hi
    by_cases e : i = n
    · subst e
      cases h2 : L.getD i true
      · rw [h2] at h; simp at h
      · rfl
    · exact ih (by omega) i (by omega)
/-- Where nothing is ready all has been done. -/
theorem ready_nil {ops : Array Oper} {L : Array Bool} (he : edgesB ops = true) (hs : L.size = ops.size) (h : Region.ready .any ops L = []) : ∀ i, i < ops.size → L.getD i true = true := by
  intro i
  induction i using Nat.strongRecOn with
  | _ i ih =>
    intro hi
    unfold edgesB at he
    rw [List.all_eq_true] at he
    have h1 := he i (by simpa using hi)
    unfold Region.ready at h
    rw [List.filter_eq_nil_iff] at h
    have h2 := h i (by simpa using hi)
    cases h3 : L.getD i true
    · exfalso
      apply h2
      rw [h3]
      have hoi : ops[i]? = some ops[i] := Array.getElem?_eq_getElem hi
      rw [hoi] at h1 ⊢
      simp only [Option.map_some, Option.getD_some, Bool.not_false, Bool.true_and] at h1 ⊢
      rw [Array.all_eq_true] at h1 ⊢
      intro j hj
      have h4 := h1 j hj
      cases hb : Region.binds .any (ops[i].after[j]) with
      | false => simp
      | true =>
        rw [hb] at h4
        have h5 : (ops[i].after[j]).on < i := by simpa using h4
        have h6 := ih _ h5 (by omega)
        have h7 : L.getD (ops[i].after[j]).on false = true := by
          rw [Array.getD_eq_getD_getElem?] at h6 ⊢
          rw [Array.getElem?_eq_getElem (by omega)] at h6 ⊢
          simpa using h6
        simp [h7]
    · rfl
theorem semJ {P : Program} {ops : Array Oper} {Q : Exit → Act → World → Prop} (he : edgesB ops = true) (J : Array Bool → Act → World → Prop)
    (hs : ∀ (L : Array Bool) (a : Act) (w : World) (i : Nat) (rest : List Nat), L.size = ops.size → i ∈ Region.ready .any ops L → J L a w → (∀ a' w', J (L.setIfInBounds i true) a' w' → SemOps P ops Q rest a' w') → SemOps P ops Q (i :: rest) a w)
    (hend : ∀ L a w, (∀ i, i < ops.size → L.getD i true = true) → J L a w → Q .normal a w) :
    ∀ (fuel t : Nat) (L : Array Bool) (a : Act) (w : World), L.size = ops.size → cntL L ops.size = fuel → J L a w → SemOps P ops Q (Region.linearise.go .any ops fuel t L []) a w := by
  intro fuel
  induction fuel with
  | zero =>
    intro t L a w hl hc hj
    simp only [Region.linearise.go, List.reverse_nil]
    exact SemOps.nil (hend L a w (cntL_zero hc) hj)
  | succ fuel ih =>
    intro t L a w hl hc hj
    simp only [Region.linearise.go]
    change SemOps P ops Q (match (Region.ready .any ops L)[t % (Region.ready .any ops L).length]? with
      | some i => Region.linearise.go .any ops fuel (t / (Region.ready .any ops L).length) (L.setIfInBounds i true) [i]
      | none => [].reverse) a w
    cases hi : (Region.ready .any ops L)[t % (Region.ready .any ops L).length]? with
    | none =>
      have hnil : Region.ready .any ops L = [] := by
        cases hr : Region.ready .any ops L with
        | nil => rfl
        | cons x xs =>
          rw [hr] at hi
          have hlt : t % (x :: xs).length < (x :: xs).length := Nat.mod_lt _ (by simp)
          simp at hi
          simp at hlt
          omega
      simp only [List.reverse_nil]
      exact SemOps.nil (hend L a w (ready_nil he hl hnil) hj)
    | some i =>
      simp only []
      rw [linearise_go_acc, List.reverse_singleton, List.singleton_append]
      have hmem := List.mem_of_getElem? hi
      have hir : i < ops.size ∧ L.getD i true = false := by
        unfold Region.ready at hmem
        rw [List.mem_filter] at hmem
        have h1 := hmem.2
        simp only [Bool.and_eq_true, Bool.not_eq_true'] at h1
        exact ⟨by simpa using hmem.1, h1.1⟩
      refine hs L a w i _ hl hmem hj fun a' w' hj' => ih _ _ a' w' (by simp [hl]) ?_ hj'
      rw [cntL_set (by omega) hir.2, if_pos hir.1]
      omega
theorem cntL_new (n m : Nat) (h : m ≤ n) : cntL (Array.replicate n false) m = m := by
  induction m with
  | zero => rfl
  | succ m ih =>
    rw [cntL, ih (by omega), if_pos]
    simp [Array.getD_eq_getD_getElem?, show m < n by omega]
/-- A region that draws its order, by what has been done. -/
theorem wp_region_J {P : Program} {id : Nat} {ops : Array Oper} {Q : Exit → Act → World → Prop} {a : Act} {w : World} (hm : P.follows .mixedOrders = true) (he : edgesB ops = true) (J : Array Bool → Act → World → Prop)
    (h0 : J (Array.replicate ops.size false) a w.drew)
    (hs : ∀ (L : Array Bool) (a : Act) (w : World) (i : Nat) (rest : List Nat), L.size = ops.size → i ∈ Region.ready .any ops L → J L a w → (∀ a' w', J (L.setIfInBounds i true) a' w' → SemOps P ops Q rest a' w') → SemOps P ops Q (i :: rest) a w)
    (hend : ∀ L a w, (∀ i, i < ops.size → L.getD i true = true) → J L a w → Q .normal a w) : (Code.region id ops true).wp P Q a w :=
  wp_region_sem_draw fun t => by
    simp only [Region.schedule, hm, Bool.true_or, if_true, Region.linearise]
    exact semJ he J hs hend ops.size t _ a _ (by simp) (cntL_new _ _ (Nat.le_refl _)) h0
end Go.Proofs.Ytehmhkbiofndaaa
