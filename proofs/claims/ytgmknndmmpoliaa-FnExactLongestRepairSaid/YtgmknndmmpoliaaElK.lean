/-
  A store at a key that is there into a map that is ranged over: what a range loop has still to come stays.
-/
import Derived.Maps.RangeWalk
import Derived.Maps.OwnSet
import Derived.Test.YtgmknndmmpoliaaWords
namespace Go.Proofs.Ytgmknndmmpoliaa
open Go.RowKit Go.Maps Go.ChangeMaps Go.MapKept Go.WideShapes
open Go.WideElems (Fit rd rg pl rd_key rd_val rg_of rd_mk other_key)
set_option maxRecDepth 100000
set_option linter.unusedVariables false

theorem filter_set_len {α : Type} (p : α → Bool) : ∀ (l : List α) (j : Nat) (a b : α), l[j]? = some a → p b = p a → ((l.set j b).filter p).length = (l.filter p).length
  | [], j, a, b, h, _ => by simp at h
  | x :: l, 0, a, b, h, hp => by
    simp at h
    subst h
    rw [List.set_cons_zero, List.filter_cons, List.filter_cons, hp]
    split <;> simp
  | x :: l, j + 1, a, b, h, hp => by
    have ih := filter_set_len p l j a b (by simpa using h) hp
    rw [List.set_cons_succ, List.filter_cons, List.filter_cons]
    split
    · simp [ih]
    · exact ih
theorem ranges_store {H : Type} {P : Program} {k t e : TypeId} {R : Value → Option (DataW H × List MemPlace)} {w : World} {b r n : Nat} {D : DataW H} {left : Lit → Bool} {cnt : Nat} (h : w.ranges P k R b r n D left cnt) (K : Keyed P k) (ht : P.underlying t = some (.map k e)) (hn : n < maxLen)
    {key val : Value} {kl : Lit} {d : DataW H} {ps : List MemPlace} (hkey : keyOf P k key = some kl) (hv : R val = some (d, ps)) (hhas : Maps.has D kl = true) :
    ∃ w', (Instr.mapUpdate t (.map (some b)) key val).run P w = .ok () w' ∧ w'.ranges P k R b r n (D.put kl d) left cnt ∧ w.grownBy w' (some b) := by
  have hne := h.ne
  obtain ⟨es, clock, since, seen, c0, hb, F, hs, rfl, hr, hold, rfl, hl1, hl2, hsc, hsk⟩ := h
  obtain ⟨es', clock', hrun, F', hput, _, _, hwho⟩ := Maps.fit_store (R' := R) K ht hb F (Nat.lt_of_le_of_lt hs hn) (fun _ _ _ _ hz => hz) hkey hv
  rcases K.find w hkey es.toList (fun x hx => by obtain ⟨y, hy⟩ := F.reads x hx; exact ⟨_, rd_key hy⟩) with ⟨h1, h2⟩ | ⟨j, e0, h1, h2, h3⟩
  · exfalso
    rw [has_eq, List.any_eq_true] at hhas
    obtain ⟨p, hp, hpk⟩ := hhas
    obtain ⟨x, hx, rfl⟩ := List.mem_map.1 (mem_sorted.1 hp)
    obtain ⟨y, hy⟩ := F.reads x hx
    have hk2 := WideAt.sameKey_eq hpk
    rw [rg_of hy] at hk2
    have := rd_key hy
    rw [hk2] at this
    exact h2 x hx (K.inj this hkey)
  · have hj : es[j]? = some e0 := by simpa using h2
    have hrun2 : (Instr.mapUpdate t (.map (some b)) key val).run P w = .ok () (setBlock w b (.map (es.modify j (fun e' => { e' with key := key, val := val })) clock)) := by
      simp [Instr.mapUpdate, run_underlying ht, MapKept.run_getObj_map hb, K.check w false hkey, h1, hj, h3, K.stays w hkey, MapKept.run_setObj_map _ hb, Result.andThen, setBlock]
    have heq : es' = es.modify j (fun e' => { e' with key := key, val := val }) ∧ clock' = clock := by
      rw [hrun2] at hrun
      injection hrun with _ hw
      have h9 := congrArg (fun W : World => W.heap[b]?) hw
      rw [heap_setBlock_same hb _, heap_setBlock_same hb _] at h9
      injection h9 with h9
      injection h9 with h9 h10
      exact ⟨h9.symm, h10.symm⟩
    obtain ⟨rfl, rfl⟩ := heq
    have he0 : e0 ∈ es.toList := List.mem_of_getElem? h2
    have hlist : (es.modify j (fun e' => { e' with key := key, val := val })).toList = es.toList.set j { e0 with key := key, val := val } := by
      rw [Array.toList_modify]
      apply List.ext_getElem?
      intro i
      rw [List.getElem?_modify, List.getElem?_set]
      by_cases hij : j = i
      · subst hij
        have hjl : j < es.toList.length := (List.getElem?_eq_some_iff.1 h2).1
        rw [h2]
        simp [show j < es.size from by simpa using hjl]
      · simp [hij]
    have hnew : (rg P k R ({ e0 with key := key, val := val } : MapEntry)).1 = kl := by rw [rg_of (rd_mk hkey hv)]
    have hold0 : (rg P k R e0).1 = kl := by
      obtain ⟨y, hy⟩ := F.reads e0 he0
      rw [rg_of hy]
      have := rd_key hy
      rw [h3, hkey] at this
      exact (Option.some.inj this).symm
    have hmem : ∀ x ∈ (es.modify j (fun e' => { e' with key := key, val := val })).toList, x ∈ es.toList ∨ x = { e0 with key := key, val := val } := by
      intro x hx
      rw [hlist] at hx
      exact List.mem_or_eq_of_mem_set hx
    refine ⟨_, hrun, ⟨_, clock', since, seen, c0, heap_setBlock_same hb _, F', by simpa using hs, by rw [DataW.put_eq, hput], (heap_setBlock_other hb _ hne).trans hr, fun x hx => ?_, ?_, fun x hx => ?_, fun x0 hx0 => ?_, hsc, hsk⟩, ⟨rfl, rfl, rfl, by simp [setBlock], fun i _ hi => heap_setBlock_other hb _ (fun e => hi (by rw [e]))⟩⟩
    · rcases hmem x hx with h9 | rfl
      · exact hold x h9
      · exact hold e0 he0
    · have e1 : ∀ a : Array MapEntry, (leftOf a seen).size = (a.toList.filter fun e => !seen.contains e.born).length := fun a => by
        unfold leftOf
        rw [← Array.toList_filter, Array.length_toList]
      rw [e1, e1, hlist]
      exact filter_set_len _ _ j e0 _ h2 rfl
    · rcases hmem x hx with h9 | rfl
      · exact hl1 x h9
      · have := hl1 e0 he0
        rw [hold0] at this
        rw [hnew]
        exact this
    · obtain ⟨x, hx, hxk⟩ := hl2 x0 hx0
      obtain ⟨i, hi, hxi⟩ := List.getElem_of_mem hx
      by_cases hij : j = i
      · subst hij
        have he : x = e0 := by
          rw [List.getElem?_eq_getElem hi] at h2
          injection h2 with h2
          rw [← hxi, h2]
        refine ⟨{ e0 with key := key, val := val }, ?_, by rw [hnew, ← hxk, he, hold0]⟩
        rw [hlist]
        exact List.mem_set hi _
      · refine ⟨x, ?_, hxk⟩
        rw [hlist]
        refine List.mem_of_getElem (i := i) (h := by simpa using hi) ?_
        rw [List.getElem_set_ne hij]
        exact hxi
theorem wpList_store_ranges {H : Type} {P : Program} (w : World) {ops : Array Oper} {rest : List Oper} {o : Oper} {a : Act} {Q : Exit → Act → World → Prop}
    (hg : o.guard = none) (m x v : Operand) (t : TypeId) (hop : o.op = Op.mapUpdate t m x v)
    (k e : TypeId) (K : Keyed P k) (ht : P.underlying t = some (.map k e)) (R : Value → Option (DataW H × List MemPlace)) (b r n : Nat) (D : DataW H) (left : Lit → Bool) (cnt : Nat)
    (hm : a.eval m = .map (some b)) (hr : w.ranges P k R b r n D left cnt) (hn : n < maxLen) (key val : Value) (kl : Lit) (hx : a.eval x = key) (hv : a.eval v = val) (hkey : keyOf P k key = some kl)
    (d : DataW H) (ps : List MemPlace) (hval : R val = some (d, ps)) (hhas : Maps.has D kl = true)
    (hK : ∀ w', w'.ranges P k R b r n (D.put kl d) left cnt → w.grownBy w' (some b) → wpList P ops Q rest (a.put o.dst undef) w') :
    wpList P ops Q (o :: rest) a w := by
  refine wpList_plain hg fun K' hK' => ?_
  obtain ⟨w', hrun, r1, r2⟩ := ranges_store hr K ht hn hkey hval hhas
  unfold Oper.wp
  simp [execOp, hop, hm, hx, hv, hrun, Result.andThen]
  exact hK' _ _ (hK w' r1 r2)
end Go.Proofs.Ytgmknndmmpoliaa
