/-
  Whole slices appended: a law for the walk, and the contracts of slices.Grow (of nil) and slices.Concat at slices of ints.
-/
import Derived.Test.YtdlmacoblmnajaaOne
import Derived.Laws.AppendOwnNone
import Derived.Lib.AppendZeros
namespace Go.Proofs.Ytdlmacoblmnajaa
open Go.RowKit
set_option maxRecDepth 100000

theorem acc_shape {E : TypeId} {w : World} {lo : Nat} {v : Value} {l : List Int} (h : Acc E w lo v l) : ∃ A c, v = .slice A l.length c := by
  rcases h.2 with ⟨hv, hn⟩ | ⟨g, c, cur, hv, _⟩
  · exact ⟨none, 0, by rw [hv, hn]⟩
  · exact ⟨_, c, hv⟩
/-- 'out = append(out, s...)', s read as the ints m, nil or not. -/
theorem wpList_cat {P : Program} {w : World} {ops : Array Oper} {rest : List Oper} {o : Oper} {a : Act} {Q : Exit → Act → World → Prop} (hgd : o.guard = none) (s x : Operand) (t : TypeId)
    (ho : o.op = .call { callee := .builtin .append, args := #[s, x], argTypes := #[t, t] }) (E : TypeId) (i : TypeInfo) (ht : P.underlying t = some (.slice E)) (hi : P.info? E = some i)
    (hz0 : i.zero = some (.int .i64 0)) (hz1 : i.size = 1) (hz2 : i.bytes = 8) (w0 : World) (lo B : Nat) (v vx : Value) (l m : List Int)
    (hs : a.eval s = v) (hacc : Acc E w lo v l) (hx : a.eval x = vx) (hr : RI w B vx m) (hnil : vx = .slice none 0 0 ∨ ∃ ad n c, vx = .slice (some ad) n c) (hn : l.length + m.length < 1000000000) (hb : Below lo w0 w) (hlo : lo ≤ w.heap.size)
    (h : ∀ v' w', Acc E w' lo v' (l ++ m) → Below lo w0 w' → wpList P ops Q rest (a.put o.dst v') w') : wpList P ops Q (o :: rest) a w := by
  rcases hnil with rfl | ⟨ad, n, c, rfl⟩
  · obtain ⟨A, c, hv, hlc, hc⟩ := hr
    injection hv with h1 h2 h3
    have hm : m = [] := List.eq_nil_of_length_eq_zero h2.symm
    subst hm
    refine wpList_append_own_none hgd s x t ho lo E i 1 ht hi v l.length (ics l) hs hacc hx (h v w (by simpa using hacc) hb)
  · obtain ⟨A, c', hv, hlc, hc⟩ := hr
    injection hv with h1 h2 h3
    subst h2
    subst h3
    have hcell : ∀ j u, (ics m)[j]? = some u → w.cell? (ad.add j) = some u := by
      intro j u hj
      have hjl : j < m.length := by
        rcases Nat.lt_or_ge j m.length with h | h
        · exact h
        · rw [List.getElem?_eq_none (by rw [ics_length]; omega)] at hj; cases hj
      obtain ⟨b, off, hA, hbb, hcl⟩ := hc (by omega)
      rw [hA] at h1
      injection h1 with h1
      subst h1
      rw [ics_get m j hjl] at hj
      injection hj with hj
      rw [addr_add, hcl j hjl, hj]
    refine wpList_append_own _ hgd s x t ho lo E i (.int .i64 0) 1 8 ht hi hz0 hz1 hz2 rfl (by decide) v l.length (ics l) hs hacc ad m.length c (ics m) hx (by rw [ics_length]; omega) hcell (ics_oneCell m) (by unfold maxLen; omega) (by omega) hlo ?_
    intro v' w' h4 h5 _
    refine h v' w' ?_ (hb.grown h5 hlo (fun k hk => (World.ownsRow.lt hacc k hk).1))
    unfold Acc
    rw [List.length_append]
    have e : ics (l ++ m) = ics l ++ ics m := by simp [ics]
    rw [e]
    exact h4

/-- A list of slices and of what they read as, side by side. -/
def AllRI (w : World) (B : Nat) (ss : List (Value × List Int)) : Prop := ∀ p ∈ ss, RI w B p.1 p.2 ∧ (p.1 = .slice none 0 0 ∨ ∃ ad n c, p.1 = .slice (some ad) n c)
def cat (ss : List (Value × List Int)) : List Int := ss.flatMap (·.2)
theorem cat_snoc (ss : List (Value × List Int)) (k : Nat) (hk : k < ss.length) : cat (ss.take (k + 1)) = cat (ss.take k) ++ ss[k].2 := by
  rw [List.take_succ_eq_append_getElem hk]
  simp only [cat, List.flatMap_append, List.flatMap_cons, List.flatMap_nil, List.append_nil]
theorem cat_take_le (ss : List (Value × List Int)) (k : Nat) : (cat (ss.take k)).length ≤ (cat ss).length := by
  conv => rhs; rw [← List.take_append_drop k ss]
  simp only [cat, List.flatMap_append, List.length_append]
  omega
end Go.Proofs.Ytdlmacoblmnajaa
