/-
  WireOf: the model's side.
-/
import Derived.Test.YtkaemocojgmlnaaDoorWireI
import Derived.Deep.RegionHeldLaw
namespace Go.Proofs.YtkaemocojgmlnaaDoor
open Go.RowKit
set_option maxRecDepth 100000
set_option linter.unusedVariables false

theorem acc_step {E : TypeId} {w w' : World} {lo : Nat} {v : Value} {l : List Int} (h : Acc E w lo v l) (hb : Below w.heap.size w w') : Acc E w' lo v l := by
  have h0 := h
  rcases h.2 with ⟨rfl, hn⟩ | ⟨g, c, cur, rfl, hg, _⟩
  · exact ⟨h.1, .inl ⟨rfl, hn⟩⟩
  · exact row_far h0 (Wr.of_below hb w.heap.size w.heap.size) (by obtain ⟨_, h2, _⟩ := row_parts h0; omega)
/-- 'append(a, b...)', b not nil, as a step of a region. -/
theorem step_cat {P : Program} {w : World} {ops : Array Oper} {o : Oper} {a : Act} {K : Act → World → Prop} {Q : Exit → Act → World → Prop} {R : Prop} (hgd : o.guard = none) (s x : Operand) (t : TypeId)
    (ho : o.op = .call { callee := .builtin .append, args := #[s, x], argTypes := #[t, t] }) (E : TypeId) (i : TypeInfo) (ht : P.underlying t = some (.slice E)) (hi : P.info? E = some i)
    (hz0 : i.zero = some (.int .i64 0)) (hz1 : i.size = 1) (hz2 : i.bytes = 8) (w0 : World) (lo B : Nat) (v : Value) (ad : Addr) (n c : Nat) (l m : List Int)
    (hs : a.eval s = v) (hacc : Acc E w lo v l) (hx : a.eval x = .slice (some ad) n c) (hr : RI w B (.slice (some ad) n c) m) (hn : l.length + m.length < 1000000000) (hb : Below lo w0 w) (hlo : lo ≤ w.heap.size)
    (h : ∀ v' w', Acc E w' lo v' (l ++ m) → Below lo w0 w' → K (a.put o.dst v') w') : if Region.wanted o (yielded ops a.tmps) = true then Oper.wp P o a w K Q else R := by
  rw [if_pos (show Region.wanted o (yielded ops a.tmps) = true by simp [Region.wanted, hgd])]
  obtain ⟨A, c', hv, hlc, hc⟩ := hr
  injection hv with h1 h2 h3
  subst h2
  subst h3
  have hcell : ∀ j u, (ics m)[j]? = some u → w.cell? (ad.add j) = some u := by
    intro j u hj
    have hjl : j < m.length := by
      rcases Nat.lt_or_ge j m.length with h | h
      · exact h
      · rw [List.getElem?_eq_none (by rw [ics_length]; omega)] at hj; cases hj
    obtain ⟨b, off, hA, hbb, hcl⟩ := hc (by omega)
    rw [hA] at h1
    injection h1 with h1
    subst h1
    rw [ics_get m j hjl] at hj
    injection hj with hj
    rw [addr_add, hcl j hjl, hj]
  refine wp_append_own _ s x t ho lo E i (.int .i64 0) 1 8 ht hi hz0 hz1 hz2 rfl (by decide) v l.length (ics l) hs hacc ad m.length c (ics m) hx (by rw [ics_length]; omega) hcell (ics_oneCell m) (by unfold maxLen; omega) (by omega) hlo ?_
  intro v' w' h4 h5 _
  refine h v' w' ?_ (hb.grown h5 hlo (fun k hk => (World.ownsRow.lt hacc k hk).1))
  unfold Acc
  rw [List.length_append]
  have e : ics (l ++ m) = ics l ++ ics m := by simp [ics]
  rw [e]
  exact h4
theorem frFlag_any (w : World) : Calls Tryd.prog 54 #[] w (RetL 3 w flagL) := by
  have hm := BK.made w 3 #[.int .i64 0, .int .i64 1, .int .i64 1, .int .i64 1, .int .i64 1, .int .i64 1, .int .i64 1, .int .i64 0]
  have hb : Below w.heap.size w (w.alloc (.cells #[.int .i64 0, .int .i64 1, .int .i64 1, .int .i64 1, .int .i64 1, .int .i64 1, .int .i64 1, .int .i64 0] 3)) := (Below.refl _ _).alloc (Nat.le_refl _) _
  have hacc : Acc 3 (w.alloc (.cells #[.int .i64 0, .int .i64 1, .int .i64 1, .int .i64 1, .int .i64 1, .int .i64 1, .int .i64 1, .int .i64 0] 3)) w.heap.size (.slice (some ⟨w.heap.size, 0, none⟩) 8 8) flagL :=
    ⟨rfl, .inr ⟨_, 8, _, rfl, Nat.le_refl _, heap_alloc_new w _, Nat.le_refl _, by unfold maxLen; omega, rfl, rfl⟩⟩
  have HO := Lib.hid hacc.oi
  have HB := Lib.hid hb
  clear hacc hb hm
  go_enter Tryd.func54, Tryd.ntmps54
  go_wp2_with fail
  go_ret
  exact ⟨_, rfl, HO.out, HB.out⟩
theorem ri_some {w : World} {B : Nat} {v : Value} {l : List Int} (h : RI w B v l) (hl : 0 < l.length) : ∃ ad n c, v = .slice (some ad) n c := by
  rcases h.shape with rfl | h2
  · obtain ⟨A, c, hv, _⟩ := h
    injection hv with _ h2 _
    omega
  · exact h2
theorem stuffOf_pos {l : List Int} (h : 0 < l.length) : 0 < (stuffOf l).length := by
  obtain ⟨k, hk⟩ : ∃ k, l.length = k + 1 := ⟨l.length - 1, by omega⟩
  have e := stf_snoc l k (by omega)
  rw [← hk, List.take_length] at e
  unfold stuffOf
  rw [e]
  unfold stfStep
  split
  · simp
  · split <;> simp

theorem specWireOf_any (v : Value) (x : Fr) (w : World) (h : RF w w.heap.size v x) (hn : x.d.length ≤ 1048576) :
    Calls Tryd.prog 27 #[v] w (RetLB 3 w (wireOf x).1 (wireOf x).2) := by
  obtain ⟨s, rfl, h⟩ := h
  obtain ⟨f, t, p, d⟩ := x
  simp only [frV] at h hn ⊢
  have h0 := h
  obtain ⟨A, c, rfl, hlc, hc⟩ := h
  clear hc
  have hb0 : Below w.heap.size w (w.alloc (.cells #[.int .i64 f, .int .i64 t, .int .i64 p, .slice A d.length c] 40)) := (Below.refl _ _).alloc (Nat.le_refl _) _
  have x0 := BK.made w 40 #[.int .i64 f, .int .i64 t, .int .i64 p, .slice A d.length c]
  have hf1 : RF _ _ (frV ⟨f, t, p, d⟩ (.slice A d.length c)) ⟨f, t, p, d⟩ := ⟨_, rfl, (h0.below hb0).more hb0.size⟩
  obtain ⟨i0, hi, hz0, hz1, hz2⟩ := info_parts int_info
  cases hF : isFr ⟨f, t, p, d⟩
  · rw [wireOf_no hF]
    go_enter Tryd.func27, Tryd.ntmps27
    go_wp2_with fail
    refine (frGood_any _ ⟨f, t, p, d⟩ _ hf1 hn).mono ?_; rintro e w1 ⟨rfl, hb1⟩
    go_wp2_with fail
    go_ret2
    exact ⟨_, rfl, (Acc.nil _ _ _).oi, hb0.trans (hb1.mono hb0.size)⟩
  · rw [wireOf_yes hF]
    have HF := Lib.hid hF
    go_enter Tryd.func27, Tryd.ntmps27
    go_wp2_with fail
    refine (frGood_any _ ⟨f, t, p, d⟩ _ hf1 hn).mono ?_; rintro e w1 ⟨rfl, hb1⟩
    have t1 := hb0.trans (hb1.mono hb0.size)
    have x1 := x0.step hb1
    have c10 := x1.cell 0
    have c11 := x1.cell 1
    have c12 := x1.cell 2
    have c13 := x1.cell 3
    simp at c10 c11 c12 c13
    have q1 := t1.size
    have r1 := (h0.below t1).more q1
    have hlen := wire_lens hF
    have HL1 : Hid ((bytesF ⟨f, t, p, d⟩).length ≤ 1048576) := by show _ ≤ _; omega
    have HL2 : Hid ((bitsL (bytesF ⟨f, t, p, d⟩)).length ≤ 1048576) := by show _ ≤ _; omega
    have HL3 : Hid (flagL.length + (stuffOf (bitsL (bytesF ⟨f, t, p, d⟩))).length < 1000000000) := by show _ < _; simp only [flagL, List.length_cons, List.length_nil]; omega
    have HL4 : Hid ((flagL ++ stuffOf (bitsL (bytesF ⟨f, t, p, d⟩))).length + flagL.length < 1000000000) := by show _ < _; simp only [flagL, List.length_append, List.length_cons, List.length_nil]; omega
    have HLP : Hid (0 < (stuffOf (bitsL (bytesF ⟨f, t, p, d⟩))).length) := by
      show 0 < _
      refine stuffOf_pos ?_
      rw [bitsL_length, bytesF_length]
      omega
    have HK1 := Lib.hid (bytesF_ok hF)
    have HK2 := Lib.hid (bitsL_ok (bytesF ⟨f, t, p, d⟩))
    have HWI : Hid (wireF ⟨f, t, p, d⟩ = flagL ++ stuffOf (bitsL (bytesF ⟨f, t, p, d⟩)) ++ flagL) := rfl
    have HX2 := Lib.hid x1
    have HT2 := Lib.hid t1
    have HBY := Lib.hid (fun wz (h : Below w1.heap.size w1 wz) => frList_any (frV ⟨f, t, p, d⟩ (.slice A d.length c)) ⟨f, t, p, d⟩ wz ⟨_, rfl, (r1.below h).more h.size⟩ HF.out)
    simp only [frV] at HBY
    clear x1 r1 t1 h0 hlen
    go_upto_region 3 with fail
    clear hF
    go_region_held_law (fun w' => w'.cell? ⟨w.heap.size, 0, none⟩ = some (.int .i64 f) ∧ w'.cell? ⟨w.heap.size, 1, none⟩ = some (.int .i64 t) ∧ w'.cell? ⟨w.heap.size, 2, none⟩ = some (.int .i64 p) ∧ w'.cell? ⟨w.heap.size, 3, none⟩ = some (.slice A d.length c)) (with_reducible first | exact ⟨c10, c11, c12, c13⟩ | exact ⟨d0, d1, d2, d3⟩ | exact ⟨e0, e1, e2, e3⟩ | exact ⟨k0, k1, k2, k3⟩ | exact ⟨j0, j1, j2, j3⟩ | exact ⟨m0, m1, m2, m3⟩ | go_keep)
      (first
        | (refine step_cat rfl (.tmp 8) (.tmp 12) 22 rfl 3 i0 Tryd.underlying22 hi hz0 hz1 hz2 w1 w1.heap.size w6.heap.size _ A6 _ c6 flagL (stuffOf (bitsL (bytesF ⟨f, t, p, d⟩))) rfl HAC.out rfl HR6.out HL3.out t6 t6.size ?_; intro v7 w7 hacc7 t7; have y7 := HX2.out.step t7; have m0 := y7.cell 0; have m1 := y7.cell 1; have m2 := y7.cell 2; have m3 := y7.cell 3; simp at m0 m1 m2 m3)
        | (go_at_call 54; (with_reducible refine (frFlag_any _).mono ?_); rintro e w3 ⟨u3, rfl, ho3, hb3⟩; have t3 := (Below.refl w1.heap.size w1).drew.trans hb3; have y3 := HX2.out.step t3; have d0 := y3.cell 0; have d1 := y3.cell 1; have d2 := y3.cell 2; have d3 := y3.cell 3; simp at d0 d1 d2 d3; have HA3 := Lib.hid (ho3.acc (by decide)))
        | (go_at_call 57; (with_reducible refine (HBY.out _ t3).mono ?_); rintro e w4 ⟨u4, rfl, ho4, hb4⟩; have t4 := t3.trans (hb4.mono t3.size); have y4 := HX2.out.step t4; have e0 := y4.cell 0; have e1 := y4.cell 1; have e2 := y4.cell 2; have e3 := y4.cell 3; simp at e0 e1 e2 e3; have HR4 := Lib.hid ho4.ri)
        | (go_at_call 56; (with_reducible refine (frBits_any _ _ _ HR4.out HL1.out HK1.out).mono ?_); rintro e w5 ⟨u5, rfl, ho5, hb5⟩; have t5 := t4.trans (hb5.mono t4.size); have y5 := HX2.out.step t5; have k0 := y5.cell 0; have k1 := y5.cell 1; have k2 := y5.cell 2; have k3 := y5.cell 3; simp at k0 k1 k2 k3; have HR5 := Lib.hid ho5.ri)
        | (go_at_call 55; (with_reducible refine (frStuff_any _ _ _ HR5.out HL2.out HK2.out).mono ?_); rintro e w6 ⟨u6, rfl, ho6, hb6⟩; have t6 := t5.trans (hb6.mono t5.size); have y6 := HX2.out.step t6; have j0 := y6.cell 0; have j1 := y6.cell 1; have j2 := y6.cell 2; have j3 := y6.cell 3; simp at j0 j1 j2 j3; obtain ⟨A6, n6, c6, rfl⟩ := ri_some ho6.ri HLP.out; have HR6 := Lib.hid ho6.ri; have HAC := Lib.hid (acc_step HA3.out ((hb4.trans (hb5.mono hb4.size)).trans (hb6.mono (Nat.le_trans hb4.size hb5.size))))))
    · have HA7 := Lib.hid hacc7
      have HB7 := Lib.hid t7
      have hq7 := t7.size
      clear hacc7 t7 ho3 ho4 ho5 ho6
      go_wp2_with fail
      refine (frFlag_any _).mono ?_; rintro e w8 ⟨u8, rfl, ho8, hb8⟩
      have HB8 := Lib.hid (HB7.out.trans (hb8.mono hq7))
      have HA8 := Lib.hid (acc_step HA7.out hb8)
      have hri8 := ho8.ri
      have hsz8 := HB8.out.size
      go_wp2_with (at_builtin; refine wpList_cat rfl (.tmp 14) (.tmp 15) 22 rfl 3 i0 Tryd.underlying22 hi hz0 hz1 hz2 w1 w1.heap.size w8.heap.size _ _ _ flagL rfl HA8.out rfl hri8 hri8.shape HL4.out HB8.out hsz8 ?_; intro v9 w9 hacc9 hb9)
      have hq1 := HT2.out.size
      have HO := Lib.hid (hacc9.oi.wide (lo' := w.heap.size) (by omega) (Nat.le_refl _))
      have HT := Lib.hid (HT2.out.trans (hb9.mono hq1))
      go_ret2
      exact ⟨_, rfl, by rw [HWI.out]; exact HO.out, HT.out⟩
end Go.Proofs.YtkaemocojgmlnaaDoor
