/-
  Words on memory for slices whose elements are structs of ints: one that reads as a list, one that the call owns. No dump is imported.
-/
import Derived.Test.YteoggoopfjkdkaaOne
namespace Go.Proofs.Yteoggoopfjkdkaa
open Go.RowKit
set_option maxRecDepth 100000

/-- The slice value v, of n elements of k cells each, reads as the ints l, and lies below block B. -/
def RK (k : Nat) (w : World) (B : Nat) (v : Value) (n : Nat) (l : List Int) : Prop :=
  ∃ A c, v = .slice A n c ∧ l.length = n * k ∧ (n ≤ c ∧ c ≤ maxLen ∧ (A = none → c = 0)) ∧ (0 < n → ∃ b off, A = some ⟨b, off, none⟩ ∧ b < B ∧ ∀ j, j < n * k → w.cell? ⟨b, off + j, none⟩ = some (.int .i64 (l.getD j 0)))
/-- The slice value v owns n elements of k cells each, the ints l, in a block of [lo, hi) (or has none). -/
def OK (k : Nat) (E : TypeId) (w : World) (lo hi : Nat) (v : Value) (n : Nat) (l : List Int) : Prop :=
  (n = 0 ∧ l = [] ∧ ∃ A c, v = .slice A 0 c ∧ c ≤ maxLen ∧ (A = none → c = 0)) ∨ ∃ g c, v = .slice (some ⟨g, 0, none⟩) n c ∧ lo ≤ g ∧ g < hi ∧ l.length = n * k ∧ w.ownsRow lo E k (.slice (some ⟨g, 0, none⟩) n c) n (ics l)
section
variable {k : Nat} {w w' : World} {B B' : Nat} {v : Value} {n : Nat} {l : List Int}
theorem RK.keep (h : RK k w B v n l) (hk : ∀ b o, b < B → w'.cell? ⟨b, o, none⟩ = w.cell? ⟨b, o, none⟩) : RK k w' B v n l := by
  obtain ⟨A, c, hv, hl, hlc, hc⟩ := h
  refine ⟨A, c, hv, hl, hlc, fun hn => ?_⟩
  obtain ⟨b, off, hA, hb, hcell⟩ := hc hn
  exact ⟨b, off, hA, hb, fun j hj => (hk _ _ hb).trans (hcell j hj)⟩
theorem RK.below (h : RK k w B v n l) (hb : Below B w w') : RK k w' B v n l := h.keep fun _ _ hp => hb.cell (p := ⟨_, _, none⟩) hp
theorem RK.more (h : RK k w B v n l) (hB : B ≤ B') : RK k w B' v n l := by
  obtain ⟨A, c, hv, hl, hlc, hc⟩ := h
  refine ⟨A, c, hv, hl, hlc, fun hn => ?_⟩
  obtain ⟨b, off, hA, hb, hcell⟩ := hc hn
  exact ⟨b, off, hA, by omega, hcell⟩
theorem RK.step (h : RK k w B v n l) (hb : Below w.heap.size w w') (hB : B ≤ w.heap.size) : RK k w' B v n l := h.below (hb.mono hB)
theorem RK.far {a b : Nat} (h : RK k w B v n l) (hg : Wr a b w w') (hB : B ≤ a) (hs : B ≤ w.heap.size) : RK k w' B v n l := h.below (hg.below hB hs)
theorem RK.drewN (h : RK k w B v n l) (m : Nat) : RK k (w.drewN m) B v n l := h
end
section
variable {k : Nat} {E : TypeId} {w w' : World} {lo hi lo' hi' : Nat} {v : Value} {n : Nat} {l : List Int}
theorem rowk_parts {g c n : Nat} {xs : List Value} (h : w.ownsRow lo E k (.slice (some ⟨g, 0, none⟩) n c) n xs) : lo ≤ g ∧ g < w.heap.size ∧ n ≤ c ∧ c ≤ maxLen ∧ ∃ cur, w.heap[g]? = some (.cells cur E (0, 0)) ∧ cur.size = c * k ∧ cur.toList.take (n * k) = xs := by
  rcases h.2 with ⟨hv, _⟩ | ⟨g', c', cur, hv, hg, hh, hc, hcm, r1, r2⟩
  · cases hv
  · injection hv with h1 h2 h3
    injection h1 with h1
    injection h1 with h1
    subst h1; subst h3
    exact ⟨hg, (Array.getElem?_eq_some_iff.1 hh).1, hc, hcm, cur, hh, r1, r2⟩
theorem rowk_far {g c n a b : Nat} {xs : List Value} (h : w.ownsRow lo E k (.slice (some ⟨g, 0, none⟩) n c) n xs) (hg : Wr a b w w') (hne : g < a ∨ b ≤ g) : w'.ownsRow lo E k (.slice (some ⟨g, 0, none⟩) n c) n xs := by
  obtain ⟨h1, h2, h3, h4, cur, h5, h6, h7⟩ := rowk_parts h
  exact ⟨h.1, .inr ⟨g, c, cur, rfl, h1, by rw [hg.block g h2 hne]; exact h5, h3, h4, h6, h7⟩⟩
theorem rowk_lower {g c n : Nat} {xs : List Value} (h : w.ownsRow lo E k (.slice (some ⟨g, 0, none⟩) n c) n xs) (hl : lo' ≤ lo) : w.ownsRow lo' E k (.slice (some ⟨g, 0, none⟩) n c) n xs := by
  obtain ⟨h1, h2, h3, h4, cur, h5, h6, h7⟩ := rowk_parts h
  exact ⟨h.1, .inr ⟨g, c, cur, rfl, by omega, h5, h3, h4, h6, h7⟩⟩
theorem OK.rk (h : OK k E w lo hi v n l) : RK k w hi v n l := by
  rcases h with ⟨rfl, rfl, A, c, rfl, hc⟩ | ⟨g, c, rfl, hg, hlt, hl, hr⟩
  · exact ⟨A, c, rfl, by simp, ⟨by simp, hc⟩, fun h => absurd h (by simp)⟩
  · obtain ⟨_, _, h3, h4, _⟩ := rowk_parts hr
    refine ⟨some ⟨g, 0, none⟩, c, rfl, hl, ⟨h3, h4, fun h => by cases h⟩, fun _ => ⟨g, 0, rfl, hlt, fun j hj => ?_⟩⟩
    have := World.ownsRow.cellAt hr j hj
    rw [Nat.zero_add, this, ics_get l j (by omega)]
theorem OK.wide (h : OK k E w lo hi v n l) (h1 : lo' ≤ lo) (h2 : hi ≤ hi') : OK k E w lo' hi' v n l := by
  rcases h with h | ⟨g, c, rfl, hg, hlt, hl, hr⟩
  · exact .inl h
  · exact .inr ⟨g, c, rfl, by omega, by omega, hl, rowk_lower hr h1⟩
theorem OK.far {a b : Nat} (h : OK k E w lo hi v n l) (hg : Wr a b w w') (hne : hi ≤ a ∨ b ≤ lo) : OK k E w' lo hi v n l := by
  rcases h with h | ⟨g, c, rfl, h1, hlt, hl, hr⟩
  · exact .inl h
  · exact .inr ⟨g, c, rfl, h1, hlt, hl, rowk_far hr hg (by omega)⟩
theorem OK.step (h : OK k E w lo hi v n l) (hb : Below w.heap.size w w') : OK k E w' lo hi v n l := h.far (Wr.of_below hb hi hi) (.inl (Nat.le_refl _))
theorem OK.of_row (hl : l.length = n * k) (h : w.ownsRow lo E k v n (ics l)) : OK k E w lo w.heap.size v n l := by
  rcases h.2 with ⟨hv, hn⟩ | ⟨g, c, cur, rfl, hg, hh, r⟩
  · exact .inl ⟨hn, List.eq_nil_of_length_eq_zero (by rw [hl, hn]; simp), none, 0, by rw [hv], by simp, fun _ => rfl⟩
  · exact .inr ⟨g, c, rfl, hg, (Array.getElem?_eq_some_iff.1 hh).1, hl, h⟩
theorem OK.nil (k : Nat) (E : TypeId) (w : World) (lo hi : Nat) : OK k E w lo hi (.slice none 0 0) 0 [] := .inl ⟨rfl, rfl, none, 0, rfl, by simp, fun _ => rfl⟩
end
/-- What a call gathers by append, in a block from lo on. -/
def AccK (k : Nat) (E : TypeId) (w : World) (lo : Nat) (v : Value) (n : Nat) (l : List Int) : Prop := l.length = n * k ∧ w.ownsRow lo E k v n (ics l)
theorem AccK.nil (k : Nat) (E : TypeId) (w : World) (lo : Nat) : AccK k E w lo (.slice none 0 0) 0 [] := ⟨by simp, World.ownsRow_nil _ _ _ _⟩
theorem AccK.ok {k : Nat} {E : TypeId} {w : World} {lo : Nat} {v : Value} {n : Nat} {l : List Int} (h : AccK k E w lo v n l) : OK k E w lo w.heap.size v n l := OK.of_row h.1 h.2
theorem AccK.drewN {k : Nat} {E : TypeId} {w : World} {lo : Nat} {v : Value} {n : Nat} {l : List Int} (h : AccK k E w lo v n l) (m : Nat) : AccK k E (w.drewN m) lo v n l := h
/-- 'out = append(out, T{..})', T of k ints. -/
theorem wpList_pushK {P : Program} {w : World} {ops : Array Oper} {rest : List Oper} {o : Oper} {a : Act} {Q : Exit → Act → World → Prop} (hgd : o.guard = none) (s x : Operand) (t : TypeId)
    (ho : o.op = .call { callee := .builtin .append, args := #[s, x], argTypes := #[t, t] }) (E : TypeId) (i : TypeInfo) (ht : P.underlying t = some (.slice E)) (hi : P.info? E = some i) (z : Value) (k bytes : Nat)
    (hz0 : i.zero = some z) (hz1 : i.size = k) (hz2 : i.bytes = bytes) (hzs : z.cells.size = k) (hk : 0 < k) (hby : bytes ≤ 1000) (W w0 : World) (lo : Nat) (v : Value) (n : Nat) (l ys : List Int) (cs : Array Value)
    (hw : w = W.alloc (.cells cs E)) (hcs : cs.toList = ics ys) (hys : ys.length = k) (hs : a.eval s = v) (hacc : AccK k E W lo v n l) (hx : a.eval x = .slice (some ⟨W.heap.size, 0, none⟩) 1 1) (hn : n < 1000000000) (hlo : lo ≤ W.heap.size) (hb : Below lo w0 W)
    (h : ∀ v' w', AccK k E w' lo v' (n + 1) (l ++ ys) → Below lo w0 w' → wpList P ops Q rest (a.put o.dst v') w') : wpList P ops Q (o :: rest) a w := by
  subst hw
  have hown : (W.alloc (.cells cs E)).ownsRow lo E k v n (ics l) := World.ownsRow.alloc hacc.2 _
  have hcl : lo ≤ (W.alloc (.cells cs E)).heap.size := by simp; omega
  refine wpList_append_own _ hgd s x t ho lo E i z k bytes ht hi hz0 hz1 hz2 hzs hk v n (ics l) hs hown ⟨W.heap.size, 0, none⟩ 1 1 (ics ys) hx (by simp [ics, hys]) ?_ ?_ (by unfold maxLen; omega) (Nat.le_trans (Nat.mul_le_mul (show n + 1 ≤ 1000000000 by omega) hby) (by decide)) hcl ?_
  · intro j u hj
    rw [← hcs] at hj
    rw [addr_add]
    rw [cell_of_row _ W.heap.size (0 + j) cs E (0, 0) (heap_alloc_new W _), Nat.zero_add]
    simpa using hj
  · exact ics_oneCell ys
  · intro v' w' h1 h2 _
    refine h v' w' ⟨?_, ?_⟩ ?_
    · rw [List.length_append, hacc.1, hys]
      exact (Nat.succ_mul n k).symm
    · have e : ics (l ++ ys) = ics l ++ ics ys := by simp [ics]
      rw [e]
      exact h1
    · exact (hb.alloc hlo _).grown h2 hcl (fun k hk => ((World.ownsRow.lt hown) k hk).1)
theorem madeCells_noughts (k n : Nat) (hk : 0 < k) (z : Array Value) (hz : z = (List.replicate k (Value.int .i64 0)).toArray) : (madeCells z (n * k)).toList = List.replicate (n * k) (.int .i64 0) := by
  subst hz
  apply List.ext_getElem?
  intro j
  have hm : j % k < k := Nat.mod_lt _ hk
  by_cases hj : j < n * k
  · simp [madeCells, hj]
    rw [getElem!_pos _ _ (by simpa using hm)]
    simp
  · simp [madeCells, hj]
end Go.Proofs.Yteoggoopfjkdkaa
