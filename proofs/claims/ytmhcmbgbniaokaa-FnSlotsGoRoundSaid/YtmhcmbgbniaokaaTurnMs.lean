/-
  The contracts of TurnMessages, both sides.
-/
import Derived.Test.YtmhcmbgbniaokaaSlC
import Derived.Test.YtmhcmbgbniaokaaRow5
import Derived.Deep.RegionHeldLaw
namespace Go.Proofs.Ytmhcmbgbniaokaa
open Go.RowKit
set_option maxRecDepth 100000
set_option linter.unusedVariables false

/-- 'append(out, T{..})', T of k ints, as a step of a region. -/
theorem step_pushK {P : Program} {w : World} {ops : Array Oper} {o : Oper} {a : Act} {K : Act → World → Prop} {Q : Exit → Act → World → Prop} {R : Prop} (hgd : o.guard = none) (s x : Operand) (t : TypeId)
    (ho : o.op = .call { callee := .builtin .append, args := #[s, x], argTypes := #[t, t] }) (E : TypeId) (i : TypeInfo) (ht : P.underlying t = some (.slice E)) (hi : P.info? E = some i) (z : Value) (k bytes : Nat)
    (hz0 : i.zero = some z) (hz1 : i.size = k) (hz2 : i.bytes = bytes) (hzs : z.cells.size = k) (hk : 0 < k) (hby : bytes ≤ 1000) (W w0 : World) (lo : Nat) (v : Value) (n : Nat) (l ys : List Int) (cs : Array Value)
    (hw : w = W.alloc (.cells cs E)) (hcs : cs.toList = ics ys) (hys : ys.length = k) (hs : a.eval s = v) (hacc : AccK k E W lo v n l) (hx : a.eval x = .slice (some ⟨W.heap.size, 0, none⟩) 1 1) (hn : n < 1000000000) (hlo : lo ≤ W.heap.size) (hb : Below lo w0 W)
    (h : ∀ v' w', AccK k E w' lo v' (n + 1) (l ++ ys) → Below lo w0 w' → (∀ p u, W.cell? p = some u → some p.block ≠ v.ownBlock → w'.cell? p = some u) → K (a.put o.dst v') w') : if Region.wanted o (yielded ops a.tmps) = true then Oper.wp P o a w K Q else R := by
  rw [if_pos (show Region.wanted o (yielded ops a.tmps) = true by simp [Region.wanted, hgd])]
  subst hw
  have hown : (W.alloc (.cells cs E)).ownsRow lo E k v n (ics l) := World.ownsRow.alloc hacc.2 _
  have hcl : lo ≤ (W.alloc (.cells cs E)).heap.size := by simp; omega
  refine wp_append_own _ s x t ho lo E i z k bytes ht hi hz0 hz1 hz2 hzs hk v n (ics l) hs hown ⟨W.heap.size, 0, none⟩ 1 1 (ics ys) hx (by simp [ics, hys]) ?_ ?_ (by unfold maxLen; omega) (Nat.le_trans (Nat.mul_le_mul (show n + 1 ≤ 1000000000 by omega) hby) (by decide)) hcl ?_
  · intro j u hj
    rw [← hcs] at hj
    rw [addr_add]
    rw [cell_of_row _ W.heap.size (0 + j) cs E (0, 0) (heap_alloc_new W _), Nat.zero_add]
    simpa using hj
  · exact ics_oneCell ys
  · intro v' w' h1 h2 _
    refine h v' w' ⟨?_, ?_⟩ ?_ (fun p u hp hne => h2.cell ((World.cell?_alloc_lt W _ p (World.block_lt_of_cell? W p hp)).trans hp) hne)
    · rw [List.length_append, hacc.1, hys]
      exact (Nat.succ_mul n k).symm
    · have e : ics (l ++ ys) = ics l ++ ics ys := by simp [ics]
      rw [e]
      exact h1
    · exact (hb.alloc hlo _).grown h2 hcl (fun k hk => ((World.ownsRow.lt hown) k hk).1)
theorem AccK.step {k : Nat} {E : TypeId} {w w' : World} {lo : Nat} {v : Value} {n : Nat} {l : List Int} (h : AccK k E w lo v n l) (hb : Below w.heap.size w w') : AccK k E w' lo v n l := by
  refine ⟨h.1, ?_⟩
  have h0 := h.2
  rcases h0.2 with ⟨hv, hr⟩ | ⟨g, c, cur, hv, _⟩
  · exact ⟨h0.1, .inl ⟨hv, hr⟩⟩
  · subst hv
    exact rowk_far h0 (Wr.of_below hb w.heap.size w.heap.size) (.inl (rowk_parts h0).2.1)
theorem flatMs_snoc (l : List Ms) (x : Ms) : flatMs (l ++ [x]) = flatMs l ++ [x.t, x.f, x.o] := by simp [flatMs]
theorem turnMs_at (k b : Int) (l : List Ms) (j : Nat) (hj : j < l.length) : (l.map (turnMs k b)).take (j + 1) = (l.map (turnMs k b)).take j ++ [turnMs k b l[j]!] := by
  rw [List.take_succ_eq_append_getElem (by simpa using hj)]
  simp [getElem!_pos l j hj]
/-- The copy so far of a list of messages. -/
def partMs (l : List Ms) (j : Nat) : List Value := partCopy (flatMs l) (j * 3)
theorem partMs_set (l : List Ms) (j : Nat) (hj : j < l.length) : (((partMs l j).set (j * 3) (.int .i64 l[j]!.t)).set (j * 3 + 1) (.int .i64 l[j]!.f)).set (j * 3 + 2) (.int .i64 l[j]!.o) = partMs l (j + 1) := partCopy_Ms l j hj

end Go.Proofs.Ytmhcmbgbniaokaa
