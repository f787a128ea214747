/-
  Whole slices appended: a law for the walk, and the contracts of slices.Grow (of nil) and slices.Concat at slices of ints.
-/
import Derived.Test.YtkaemocojgmlnaaDoorOne
import Derived.Laws.AppendOwnNone
import Derived.Lib.AppendZeros
namespace Go.Proofs.YtkaemocojgmlnaaDoor
open Go.RowKit
set_option maxRecDepth 100000

theorem acc_shape {E : TypeId} {w : World} {lo : Nat} {v : Value} {l : List Int} (h : Acc E w lo v l) : ∃ A c, v = .slice A l.length c := by
  rcases h.2 with ⟨hv, hn⟩ | ⟨g, c, cur, hv, _⟩
  · exact ⟨none, 0, by rw [hv, hn]⟩
  · exact ⟨_, c, hv⟩
/-- 'out = append(out, s...)', s read as the ints m, nil or not. -/
theorem wpList_cat {P : Program} {w : World} {ops : Array Oper} {rest : List Oper} {o : Oper} {a : Act} {Q : Exit → Act → World → Prop} (hgd : o.guard = none) (s x : Operand) (t : TypeId)
    (ho : o.op = .call { callee := .builtin .append, args := #[s, x], argTypes := #[t, t] }) (E : TypeId) (i : TypeInfo) (ht : P.underlying t = some (.slice E)) (hi : P.info? E = some i)
    (hz0 : i.zero = some (.int .i64 0)) (hz1 : i.size = 1) (hz2 : i.bytes = 8) (w0 : World) (lo B : Nat) (v vx : Value) (l m : List Int)
    (hs : a.eval s = v) (hacc : Acc E w lo v l) (hx : a.eval x = vx) (hr : RI w B vx m) (hnil : vx = .slice none 0 0 ∨ ∃ ad n c, vx = .slice (some ad) n c) (hn : l.length + m.length < 1000000000) (hb : Below lo w0 w) (hlo : lo ≤ w.heap.size)
    (h : ∀ v' w', Acc E w' lo v' (l ++ m) → Below lo w0 w' → wpList P ops Q rest (a.put o.dst v') w') : wpList P ops Q (o :: rest) a w := by
  rcases hnil with rfl | ⟨ad, n, c, rfl⟩
  · obtain ⟨A, c, hv, hlc, hc⟩ := hr
    injection hv with h1 h2 h3
    have hm : m = [] := List.eq_nil_of_length_eq_zero h2.symm
    subst hm
    refine wpList_append_own_none hgd s x t ho lo E i 1 ht hi v l.length (ics l) hs hacc hx (h v w (by simpa using hacc) hb)
  · obtain ⟨A, c', hv, hlc, hc⟩ := hr
    injection hv with h1 h2 h3
    subst h2
    subst h3
    have hcell : ∀ j u, (ics m)[j]? = some u → w.cell? (ad.add j) = some u := by
      intro j u hj
      have hjl : j < m.length := by
        rcases Nat.lt_or_ge j m.length with h | h
        · exact h
        · rw [List.getElem?_eq_none (by rw [ics_length]; omega)] at hj; cases hj
      obtain ⟨b, off, hA, hbb, hcl⟩ := hc (by omega)
      rw [hA] at h1
      injection h1 with h1
      subst h1
      rw [ics_get m j hjl] at hj
      injection hj with hj
      rw [addr_add, hcl j hjl, hj]
    refine wpList_append_own _ hgd s x t ho lo E i (.int .i64 0) 1 8 ht hi hz0 hz1 hz2 rfl (by decide) v l.length (ics l) hs hacc ad m.length c (ics m) hx (by rw [ics_length]; omega) hcell (ics_oneCell m) (by unfold maxLen; omega) (by omega) hlo ?_
    intro v' w' h4 h5 _
    refine h v' w' ?_ (hb.grown h5 hlo (fun k hk => (World.ownsRow.lt hacc k hk).1))
    unfold Acc
    rw [List.length_append]
    have e : ics (l ++ m) = ics l ++ ics m := by simp [ics]
    rw [e]
    exact h4

theorem grow_nil (n : Nat) (w : World) (hn : n ≤ 100000000) :
    Calls Tryd.prog 88 #[.slice none 0 0, .int .i64 n] w (fun e w' => ∃ u, e = .returned u ∧ Acc 3 w' w.heap.size u [] ∧ Below w.heap.size w w') := by
  obtain ⟨i0, hi, hz0, hz1, hz2⟩ := info_parts int_info
  have hn' : (n : Int) ≤ 100000000 := by omega
  rcases Nat.eq_zero_or_pos n with rfl | h0
  · go_enter Tryd.func88, Tryd.ntmps88
    go_wp2
    go_ret
    exact ⟨_, rfl, Acc.nil _ _ _, Below.refl _ _⟩
  · have h0' : (0 : Int) < (n : Int) := by omega
    have hrun := Lib.run_append_nil_zeros (P := Tryd.prog) w 22 3 22 3 i0 (.int .i64 0) .i64 .i64 Tryd.underlying22 Tryd.underlying3 hi hz0 n h0 (by omega) (by omega) (by rw [hz2]; omega)
    have HR := Lib.hid hrun
    clear hrun
    have hge := grownCap_ge w n 0 3
    have hle := grownCap_le_maxLen w n 0 3 (by unfold maxLen; omega)
    generalize hcap : grownCap w n 0 3 = cap at HR hge hle
    clear hcap
    have hz : (Builtin.zeroCells (Value.int .i64 0).cells n ++ Builtin.zeroCells (Value.int .i64 0).cells (cap - n)).size = cap := by
      rw [Array.size_append, size_zeroCells, size_zeroCells]
      have : (Value.int IntKind.i64 0).cells.size = 1 := rfl
      rw [this]; omega
    generalize (Builtin.zeroCells (Value.int .i64 0).cells n ++ Builtin.zeroCells (Value.int .i64 0).cells (cap - n)) = cs at HR hz
    have HZ := Lib.hid hz
    clear hz
    go_enter Tryd.func88, Tryd.ntmps88
    go_wp2_with (at_builtin; refine Lib.wpList_append_run _ rfl (.tmp 20) (.tmp 21) 22 3 rfl _ _ rfl rfl _ _ HR.out ?_)
    go_ret
    exact ⟨_, rfl, World.ownsRow_made w.drew cs cap (Nat.le_refl _) hle (by rw [HZ.out]; omega), (Below.refl _ _).drew.alloc (Nat.le_refl _) _⟩

/-- A list of slices and of what they read as, side by side. -/
def AllRI (w : World) (B : Nat) (ss : List (Value × List Int)) : Prop := ∀ p ∈ ss, RI w B p.1 p.2 ∧ (p.1 = .slice none 0 0 ∨ ∃ ad n c, p.1 = .slice (some ad) n c)
def cat (ss : List (Value × List Int)) : List Int := ss.flatMap (·.2)
theorem cat_snoc (ss : List (Value × List Int)) (k : Nat) (hk : k < ss.length) : cat (ss.take (k + 1)) = cat (ss.take k) ++ ss[k].2 := by
  rw [List.take_succ_eq_append_getElem hk]
  simp only [cat, List.flatMap_append, List.flatMap_cons, List.flatMap_nil, List.append_nil]
theorem cat_take_le (ss : List (Value × List Int)) (k : Nat) : (cat (ss.take k)).length ≤ (cat ss).length := by
  conv => rhs; rw [← List.take_append_drop k ss]
  simp only [cat, List.flatMap_append, List.length_append]
  omega
theorem concat_any (g c : Nat) (ss : List (Value × List Int)) (w : World) (hg : g < w.heap.size) (hcell : ∀ j (h : j < ss.length), w.cell? ⟨g, j, none⟩ = some ss[j].1) (hall : AllRI w w.heap.size ss) (hk : ss.length ≤ 1000) (hlen : (cat ss).length ≤ 1048576) :
    Calls Tryd.prog 58 #[.slice (some ⟨g, 0, none⟩) ss.length c] w (RetL 3 w (cat ss)) := by
  obtain ⟨i0, hi, hz0, hz1, hz2⟩ := info_parts int_info
  have HA := Lib.hid hall
  have HC := Lib.hid hcell
  have hk' : (ss.length : Int) ≤ 1000 := by omega
  clear hall hcell
  go_enter Tryd.func58, Tryd.ntmps58
  go_wp2
  go_loop [3, 11] (fun t i => ∃ k : Nat, k ≤ ss.length ∧ i = .int .i64 k ∧ t = .int .i64 ((cat (ss.take k)).length : Nat)) (fun _ i => ss.length - (intOf i).toNat)
  case atStart => exact ⟨0, Nat.zero_le _, rfl, rfl⟩
  case round =>
    obtain ⟨k, hkk, rfl, rfl⟩ := hrel
    have hle := cat_take_le ss k
    by_cases hlt : k < ss.length
    · have hcx := HC.out k hlt
      have hr := (HA.out ss[k] (List.getElem_mem hlt)).1
      have HS := Lib.hid (cat_snoc ss k hlt)
      have hle2 := cat_take_le ss (k + 1)
      have HL : Hid ((cat (ss.take (k + 1))).length = (cat (ss.take k)).length + ss[k].2.length) := by show _ = _; rw [HS.out, List.length_append]
      have hm : ss[k].2.length ≤ 1048576 := by have := HL.out; omega
      generalize ss[k] = p at hcx hr HS HL hm
      obtain ⟨v, m⟩ := p
      simp only at hcx hr HS HL hm
      obtain ⟨A, c', rfl, _, _⟩ := hr
      have hm' : (m.length : Int) ≤ 1048576 := by omega
      have hle' : (((cat (ss.take k)).length : Nat) : Int) ≤ 1048576 := by omega
      generalize (cat (ss.take k)).length = q at HL hle hle' ⊢
      go_wp2
      go_round
      case rel => exact ⟨k + 1, by omega, by go_num, by rw [HL.out]; go_num⟩
      case measure => simp [intOf]; omega
    · obtain rfl : k = ss.length := by omega
      rw [List.take_length]
      go_wp2_with fail
      refine (grow_nil _ w (by omega)).mono ?_; rintro e w1 ⟨u, rfl, ho, hb⟩
      obtain ⟨A1, c1, rfl⟩ := acc_shape ho
      go_wp2_with fail
      go_loopw [6, 27] (fun v i wr => ∃ k : Nat, k ≤ ss.length ∧ i = .int .i64 k ∧ Acc 3 wr w.heap.size v (cat (ss.take k)) ∧ Below w.heap.size w wr) (fun _ i _ => ss.length - (intOf i).toNat)
      case atStart => exact ⟨0, Nat.zero_le _, rfl, ho, hb⟩
      case round =>
        obtain ⟨k, hkk, rfl, hacc, hb2⟩ := hrel
        by_cases hlt2 : k < ss.length
        · have hcx := (hb2.cell (p := ⟨g, k, none⟩) hg).trans (HC.out k hlt2)
          obtain ⟨hr, hnil⟩ := HA.out ss[k] (List.getElem_mem hlt2)
          have hr2 := hr.step hb2 (Nat.le_refl _)
          have HS := Lib.hid (cat_snoc ss k hlt2)
          have hle2 := cat_take_le ss (k + 1)
          have HL : Hid ((cat (ss.take (k + 1))).length = (cat (ss.take k)).length + ss[k].2.length) := by show _ = _; rw [HS.out, List.length_append]
          have hm : (cat (ss.take k)).length + ss[k].2.length ≤ 1048576 := by have := HL.out; omega
          have hsz := hb2.size
          generalize ss[k] = p at hcx hr hr2 HS HL hm hnil
          obtain ⟨v, m⟩ := p
          simp only at hcx hr hr2 HS HL hm hnil
          obtain ⟨A, c', rfl, _, _⟩ := hr
          have HN := Lib.hid hnil
          clear hnil
          go_wp2_with (at_builtin; refine wpList_cat rfl (.tmp 31) (.tmp 32) 22 rfl 3 i0 Tryd.underlying22 hi hz0 hz1 hz2 w w.heap.size w.heap.size _ _ _ m rfl hacc rfl hr2 HN.out (by omega) hb2 hsz ?_; intro v2 w2 hacc2 hb3)
          go_roundw
          case rel => first | exact ⟨k + 1, by omega, by go_num, by rw [HS.out]; exact hacc2, hb3⟩ | exact ⟨k + 1, by omega, by omega, by rw [HS.out]; exact hacc2⟩
          case measure => simp [intOf]; omega
        · obtain rfl : k = ss.length := by omega
          rw [List.take_length] at hacc
          go_wp2
          go_ret
          exact ⟨_, rfl, hacc.oi, hb2⟩
end Go.Proofs.YtkaemocojgmlnaaDoor
