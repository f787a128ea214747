/-
  A frame as the laws' inputs are drawn: its data grow in a struct while the cursor steps.
-/
import Derived.Test.YtkmopfgeenadgaaCurC
import Derived.Test.YtkmopfgeenadgaaRowE
import Derived.Test.YtkmopfgeenadgaaIsFrame
import Derived.Deep.RegionWith
import Derived.Deep.DeepCutAuto
namespace Go.Proofs.Ytkmopfgeenadgaa
open Go.RowKit Go.Conc
set_option maxRecDepth 100000
set_option linter.unusedVariables false

theorem run_appF {P : Program} {w w' : World} {ev : Operand → Value} {o : Oper} {s x : Operand} {t : TypeId} {v u v' : Value} (ho : o.op = .call { callee := .builtin .append, args := #[s, x], argTypes := #[t, t] })
    (hs : ev s = v) (hx : ev x = u) (hr : (Builtin.append_ #[t, t] o.type #[v, u]).run P w = .ok v' w') : (execOp ev o).run P w = .ok (.value v') w' := by
  unfold execOp
  simp only [ho, resolve, invoke, builtin, Sem.run_bind, Sem.run_pure, Result.andThen_ok, List.map_toArray, List.map_cons, List.map_nil, hs, hx, hr]
def RetByteC (g B n k : Nat) (w : World) (e : Ending) (w' : World) : Prop := ∃ v : Int, e = .returned (.int .i64 v) ∧ 0 ≤ v ∧ v ≤ 255 ∧ CurAt w' g B n k ∧ Wr g (g + 1) w w'
theorem byteOf_any (g B n k : Nat) (w : World) (h : CurAt w g B n k) (hk : k ≤ 100000000) (hn : n ≤ 1048576) :
    Calls Try.prog 44 #[.pointer (some ⟨g, 0, none⟩)] w (RetByteC g B n (k + 6) w) := by
  have hgw := h.lt
  go_enter Try.func44, Try.ntmps44
  go_wp2_with fail
  refine (pick_any g B n _ 256 _ h (by omega) hn (by omega) (by omega)).mono ?_; rintro e w1 ⟨x, rfl, x0, x1, h1, g1⟩
  go_wp2_with fail
  refine (pick_any g B n _ 256 _ h1 (by omega) hn (by omega) (by omega)).mono ?_; rintro e w2 ⟨y, rfl, y0, y1, h2, g2⟩
  have g12 := g1.trans g2
  have hs := g12.size
  go_wp2_with fail
  refine (among_any g B n _ _ [0, 255, 126, 127, 1, 128, x, y] _ (h2.below ((Below.refl _ _).alloc (Nat.le_refl _) _) (by omega)) (by omega) hn _ _ (litN [0, 255, 126, 127, 1, 128, x, y] 8 _ rfl (by omega) rfl (by simp)) (by omega) (by simp) (by simp)).mono ?_; rintro e w3 ⟨j1, hj1, rfl, h3, g3⟩
  have gA : Wr g (g + 1) w2 w3 := (Wr.of_below ((Below.refl _ _).alloc (Nat.le_refl _) _) g (g + 1)).trans g3
  have hq : 0 ≤ List.getD ([0, 255, 126, 127, 1, 128, x, y] : List Int) j1 0 ∧ List.getD ([0, 255, 126, 127, 1, 128, x, y] : List Int) j1 0 ≤ 255 := by
    match j1, hj1 with
    | 0, _ => exact ⟨by simp, by simp⟩
    | 1, _ => exact ⟨by simp, by simp⟩
    | 2, _ => exact ⟨by simp, by simp⟩
    | 3, _ => exact ⟨by simp, by simp⟩
    | 4, _ => exact ⟨by simp, by simp⟩
    | 5, _ => exact ⟨by simp, by simp⟩
    | 6, _ => exact ⟨x0, by show x ≤ 255; omega⟩
    | 7, _ => exact ⟨y0, by show y ≤ 255; omega⟩
  generalize List.getD ([0, 255, 126, 127, 1, 128, x, y] : List Int) j1 0 = q at hq
  go_wp2_with fail
  go_ret
  exact ⟨q, rfl, hq.1, hq.2, h3, g12.trans gA⟩

theorem Wr.aset {a b G : Nat} {w0 w : World} (h : Wr a b w0 w) (hG : w0.heap.size ≤ G) (i : Nat) (u : Value) : Wr a b w0 (w.setCell ⟨G, i, none⟩ u) :=
  h.and_below (lo := w0.heap.size) ((Below.refl _ _).setCell (p := ⟨G, i, none⟩) hG _) (Nat.le_refl _)
theorem Acc.set_lowF {E : TypeId} {w : World} {lo G : Nat} {v : Value} {l : List Int} (h : Acc E w lo v l) {i : Nat} {u : Value} (hG : G < lo) : Acc E (w.setCell ⟨G, i, none⟩ u) lo v l := by
  rcases h.2 with ⟨hv, hr⟩ | ⟨g, c, cur, hv, h1, h2, rest⟩
  · exact ⟨h.1, .inl ⟨hv, hr⟩⟩
  · refine ⟨h.1, .inr ⟨g, c, cur, hv, h1, ?_, rest⟩⟩
    rw [Below.heap_setCell _ _ _ _ (show g ≠ G by omega)]
    exact h2
theorem Acc.stepF {E : TypeId} {w w' : World} {lo : Nat} {v : Value} {l : List Int} (h : Acc E w lo v l) (hb : Below w.heap.size w w') : Acc E w' lo v l := h.farC (Wr.of_below hb 0 0) (Nat.zero_le _)
/-- What the drawn region knows: the frame's variable G, the result's variable R, the cursor g, the data gathered from lo on. -/
structure PF (T E : TypeId) (w0 : World) (R G lo g B n k : Nat) (a b c : Int) (s0 : Value) (L : List Int) (D : Nat → Bool) (V : Nat → Value) (w' : World) : Prop where
  wr : Wr g (g + 1) w0 w'
  big : lo ≤ w'.heap.size
  cur : CurAt w' g B n (if D 3 = true then k + 6 else k)
  res : BK w' R T #[.int .i64 0, .int .i64 0, .int .i64 0, .slice none 0 0]
  o5 : D 5 = true → D 1 = true ∧ D 4 = true
  o7 : D 7 = true → D 5 = true
  str : BK w' G T #[.int .i64 a, .int .i64 b, .int .i64 c, if D 7 = true then V 5 else s0]
  own : if D 5 = true then ∃ x : Int, (0 ≤ x ∧ x ≤ 255) ∧ Acc E w' lo (V 5) (L ++ [x]) else Acc E w' lo s0 L
  v0 : D 0 = true → V 0 = .pointer (some ⟨G, 3, none⟩)
  v1 : D 1 = true → V 1 = s0
  v2 : D 2 = true → V 2 = .pointer (some ⟨g, 0, none⟩)
  v3 : D 3 = true → ∃ x : Int, V 3 = .int .i64 x ∧ 0 ≤ x ∧ x ≤ 255
  v4 : D 4 = true → D 5 = false → ∃ (q : Nat) (x : Int), V 4 = .slice (some ⟨q, 0, none⟩) 1 1 ∧ BK w' q E #[.int .i64 x] ∧ (0 ≤ x ∧ x ≤ 255) ∧ lo ≤ q
  v6 : D 6 = true → V 6 = .pointer (some ⟨G, 3, none⟩)
section
variable {T E : TypeId} {w0 w' w'' : World} {R G lo g B n k : Nat} {a b c x : Int} {s0 v : Value} {L : List Int} {D D' : Nat → Bool} {V : Nat → Value} {i : Nat}
theorem PF.no (h : PF T E w0 R G lo g B n k a b c s0 L D V w') {j : Nat} (hj : D j = false) (h1 : j = 1 ∨ j = 4 ∨ j = 5) : D 5 = false ∧ D 7 = false := by
  have h5 : D 5 = false := by
    rcases e : D 5 with _ | _
    · rfl
    · have := h.o5 e
      rcases h1 with rfl | rfl | rfl
      · rw [hj] at this; cases this.1
      · rw [hj] at this; cases this.2
      · rw [hj] at e; cases e
  refine ⟨h5, ?_⟩
  rcases e : D 7 with _ | _
  · rfl
  · have := h.o7 e; rw [h5] at this; cases this
theorem PF.put (h : PF T E w0 R G lo g B n k a b c s0 L D V w') (hD' : ∀ j, D' j = if j = i then true else D j)
    (hi : (i = 0 ∧ v = .pointer (some ⟨G, 3, none⟩)) ∨ (i = 1 ∧ v = s0) ∨ (i = 2 ∧ v = .pointer (some ⟨g, 0, none⟩)) ∨ (i = 6 ∧ v = .pointer (some ⟨G, 3, none⟩))) : PF T E w0 R G lo g B n k a b c s0 L D' (fun j => if j = i then v else V j) w' := by
  have d3 : D' 3 = D 3 := by rw [hD', if_neg (by omega)]
  have d4 : D' 4 = D 4 := by rw [hD', if_neg (by omega)]
  have d5 : D' 5 = D 5 := by rw [hD', if_neg (by omega)]
  have d7 : D' 7 = D 7 := by rw [hD', if_neg (by omega)]
  have u3 : (if 3 = i then v else V 3) = V 3 := if_neg (by omega)
  have u4 : (if 4 = i then v else V 4) = V 4 := if_neg (by omega)
  have u5 : (if 5 = i then v else V 5) = V 5 := if_neg (by omega)
  refine ⟨h.wr, h.big, by rw [d3]; exact h.cur, h.res, fun h5 => ?_, fun h7 => ?_, ?_, ?_, fun hk => ?_, fun hk => ?_, fun hk => ?_, fun hk => ?_, fun hk hn => ?_, fun hk => ?_⟩
  · rw [d5] at h5
    rw [d4]
    refine ⟨?_, (h.o5 h5).2⟩
    rw [hD']
    split
    · rfl
    · exact (h.o5 h5).1
  · rw [d7] at h7; rw [d5]; exact h.o7 h7
  · simp only [d7, u5]; exact h.str
  · simp only [d5, u5]; exact h.own
  · by_cases e : 0 = i
    · simp only [e, if_true]; subst e; simp at hi; exact hi
    · simp only [e, if_false]; rw [hD', if_neg e] at hk; exact h.v0 hk
  · by_cases e : 1 = i
    · simp only [e, if_true]; subst e; simp at hi; exact hi
    · simp only [e, if_false]; rw [hD', if_neg e] at hk; exact h.v1 hk
  · by_cases e : 2 = i
    · simp only [e, if_true]; subst e; simp at hi; exact hi
    · simp only [e, if_false]; rw [hD', if_neg e] at hk; exact h.v2 hk
  · simp only [u3]; rw [d3] at hk; exact h.v3 hk
  · simp only [u4]; rw [d4] at hk; rw [d5] at hn; exact h.v4 hk hn
  · by_cases e : 6 = i
    · simp only [e, if_true]; subst e; simp at hi; exact hi
    · simp only [e, if_false]; rw [hD', if_neg e] at hk; exact h.v6 hk
theorem PF.call (h : PF T E w0 R G lo g B n k a b c s0 L D V w') (h3 : D 3 = false) (hD' : ∀ j, D' j = if j = 3 then true else D j) (hgR : g < R) (hgG : g < G) (hgl : g < lo) (hx : 0 ≤ x ∧ x ≤ 255)
    (hc : CurAt w'' g B n (k + 6)) (hw : Wr g (g + 1) w' w'') : PF T E w0 R G lo g B n k a b c s0 L D' (fun j => if j = 3 then .int .i64 x else V j) w'' := by
  have hs := h.str
  have ho := h.own
  refine ⟨h.wr.trans hw, Nat.le_trans h.big hw.size, by rw [hD', if_pos rfl, if_pos rfl]; exact hc, h.res.far hw (.inr (by omega)), fun h5 => ?_, fun h7 => ?_, ?_, ?_, fun hk => ?_, fun hk => ?_, fun hk => ?_, fun hk => ?_, fun hk hn => ?_, fun hk => ?_⟩
  · simp only [hD', show ¬ (5 = 3) by omega, show ¬ (1 = 3) by omega, show ¬ (4 = 3) by omega, if_false] at h5 ⊢; exact h.o5 h5
  · simp only [hD', show ¬ (7 = 3) by omega, show ¬ (5 = 3) by omega, if_false] at h7 ⊢; exact h.o7 h7
  · simp only [hD', show ¬ (7 = 3) by omega, show ¬ (5 = 3) by omega, if_false]; exact hs.far hw (.inr (by omega))
  · simp only [hD', show ¬ (5 = 3) by omega, if_false]
    split
    · rename_i h5; rw [if_pos h5] at ho
      obtain ⟨y, hy, ha⟩ := ho
      exact ⟨y, hy, ha.farC hw (by omega)⟩
    · rename_i h5; rw [if_neg h5] at ho; exact ho.farC hw (by omega)
  · simp only [hD', show ¬ (0 = 3) by omega, if_false] at hk ⊢; exact h.v0 hk
  · simp only [hD', show ¬ (1 = 3) by omega, if_false] at hk ⊢; exact h.v1 hk
  · simp only [hD', show ¬ (2 = 3) by omega, if_false] at hk ⊢; exact h.v2 hk
  · exact ⟨x, by simp, hx⟩
  · simp only [hD', show ¬ (4 = 3) by omega, show ¬ (5 = 3) by omega, if_false] at hk hn ⊢
    obtain ⟨q, y, q1, q2, q3, q4⟩ := h.v4 hk hn
    exact ⟨q, y, q1, q2.far hw (.inr (by omega)), q3, q4⟩
  · simp only [hD', show ¬ (6 = 3) by omega, if_false] at hk ⊢; exact h.v6 hk
theorem PF.lit (h : PF T E w0 R G lo g B n k a b c s0 L D V w') (h4 : D 4 = false) (hD' : ∀ j, D' j = if j = 4 then true else D j) (hx : 0 ≤ x ∧ x ≤ 255) (hg0 : g < w0.heap.size) :
    PF T E w0 R G lo g B n k a b c s0 L D' (fun j => if j = 4 then .slice (some ⟨w'.heap.size, 0, none⟩) 1 1 else V j) (w'.alloc (.cells #[.int .i64 x] E)) := by
  have hb : Below w'.heap.size w' (w'.alloc (.cells #[.int .i64 x] E)) := (Below.refl _ _).alloc (Nat.le_refl _) _
  obtain ⟨h5, h7⟩ := h.no h4 (.inr (.inl rfl))
  have hs := h.str
  have ho := h.own
  rw [h7] at hs
  rw [h5] at ho
  simp only [Bool.false_eq_true, if_false] at hs ho
  refine ⟨h.wr.trans (Wr.of_below hb _ _), Nat.le_trans h.big hb.size, by rw [hD', if_neg (show ¬ (3 = 4) by omega)]; exact h.cur.below hb (Nat.lt_of_lt_of_le hg0 h.wr.size), h.res.step hb, fun h5' => ?_, fun h7' => ?_, ?_, ?_, fun hk => ?_, fun hk => ?_, fun hk => ?_, fun hk => ?_, fun hk hn => ?_, fun hk => ?_⟩
  · simp [hD', h5] at h5'
  · simp [hD', h7] at h7'
  · simp only [hD', h7, show ¬ (7 = 4) by omega, if_false, Bool.false_eq_true]; exact hs.step hb
  · simp only [hD', h5, show ¬ (5 = 4) by omega, if_false, Bool.false_eq_true]; exact ho.stepF hb
  · simp only [hD', show ¬ (0 = 4) by omega, if_false] at hk ⊢; exact h.v0 hk
  · simp only [hD', show ¬ (1 = 4) by omega, if_false] at hk ⊢; exact h.v1 hk
  · simp only [hD', show ¬ (2 = 4) by omega, if_false] at hk ⊢; exact h.v2 hk
  · simp only [hD', show ¬ (3 = 4) by omega, if_false] at hk ⊢; exact h.v3 hk
  · exact ⟨w'.heap.size, x, by simp, BK.made w' E _, hx, h.big⟩
  · simp only [hD', show ¬ (6 = 4) by omega, if_false] at hk ⊢; exact h.v6 hk
theorem PF.app (h : PF T E w0 R G lo g B n k a b c s0 L D V w') (h5 : D 5 = false) (h1 : D 1 = true) (h4 : D 4 = true) (hD' : ∀ j, D' j = if j = 5 then true else D j) (hRl : R < lo) (hGl : G < lo) (hgl : g < lo) (hx : 0 ≤ x ∧ x ≤ 255) (hl0 : w0.heap.size ≤ lo)
    (ha : Acc E w'' lo v (L ++ [x])) (hg : w'.grownBy w'' s0.ownBlock) :
    PF T E w0 R G lo g B n k a b c s0 L D' (fun j => if j = 5 then v else V j) w'' := by
  obtain ⟨_, h7⟩ := h.no h5 (.inr (.inr rfl))
  have hs := h.str
  have ho := h.own
  rw [h7] at hs
  rw [h5] at ho
  simp only [Bool.false_eq_true, if_false] at hs ho
  have hb : Below lo w' w'' := (Below.refl lo w').grown hg h.big (fun k hk => ((World.ownsRow.lt ho) k hk).1)
  refine ⟨h.wr.and_below hb hl0, Nat.le_trans h.big hb.size, by rw [hD', if_neg (show ¬ (3 = 5) by omega)]; exact h.cur.below hb hgl, ⟨Nat.lt_of_lt_of_le h.res.1 hb.size, (hb.block R hRl).trans h.res.2⟩, fun _ => ?_, fun h7' => ?_, ?_, ?_, fun hk => ?_, fun hk => ?_, fun hk => ?_, fun hk => ?_, fun hk hn => ?_, fun hk => ?_⟩
  · simp [hD', h1, h4]
  · simp [hD', h7] at h7'
  · simp only [hD', h7, show ¬ (7 = 5) by omega, if_false, Bool.false_eq_true]
    exact ⟨Nat.lt_of_lt_of_le hs.1 hb.size, (hb.block G hGl).trans hs.2⟩
  · simp only [hD', if_true]; exact ⟨x, hx, ha⟩
  · simp only [hD', show ¬ (0 = 5) by omega, if_false] at hk ⊢; exact h.v0 hk
  · simp only [hD', show ¬ (1 = 5) by omega, if_false] at hk ⊢; exact h.v1 hk
  · simp only [hD', show ¬ (2 = 5) by omega, if_false] at hk ⊢; exact h.v2 hk
  · simp only [hD', show ¬ (3 = 5) by omega, if_false] at hk ⊢; exact h.v3 hk
  · simp [hD'] at hn
  · simp only [hD', show ¬ (6 = 5) by omega, if_false] at hk ⊢; exact h.v6 hk
theorem PF.sto (h : PF T E w0 R G lo g B n k a b c s0 L D V w') (h7 : D 7 = false) (h5 : D 5 = true) (hD' : ∀ j, D' j = if j = 7 then true else D j) (hGl : G < lo) (hG0 : w0.heap.size ≤ G) (hRG : R < G) (hg0 : g < w0.heap.size) :
    PF T E w0 R G lo g B n k a b c s0 L D' (fun j => if j = 7 then v else V j) (w'.setCell ⟨G, 3, none⟩ (V 5)) := by
  have hs := h.str
  have ho := h.own
  rw [h7] at hs
  rw [h5] at ho
  simp only [Bool.false_eq_true, if_false, if_true] at hs ho
  obtain ⟨y, hy, ha⟩ := ho
  have hb : Below G w' (w'.setCell ⟨G, 3, none⟩ (V 5)) := (Below.refl _ _).setCell (p := ⟨G, 3, none⟩) (Nat.le_refl _) _
  refine ⟨h.wr.aset hG0 3 (V 5), Nat.le_trans h.big hb.size, by rw [hD', if_neg (show ¬ (3 = 7) by omega)]; exact h.cur.below hb (by omega), ⟨Nat.lt_of_lt_of_le h.res.1 hb.size, (hb.block R hRG).trans h.res.2⟩, fun _ => ?_, fun _ => ?_, ?_, ?_, fun hk => ?_, fun hk => ?_, fun hk => ?_, fun hk => ?_, fun hk hn => ?_, fun hk => ?_⟩
  · simp [hD', (h.o5 h5).1, (h.o5 h5).2]
  · simp [hD', h5]
  · simp only [hD', if_true, show ¬ (5 = 7) by omega, if_false]
    exact hs.put 3 (V 5)
  · simp only [hD', h5, if_true, show ¬ (5 = 7) by omega, if_false]
    exact ⟨y, hy, ha.set_lowF hGl⟩
  · simp only [hD', show ¬ (0 = 7) by omega, if_false] at hk ⊢; exact h.v0 hk
  · simp only [hD', show ¬ (1 = 7) by omega, if_false] at hk ⊢; exact h.v1 hk
  · simp only [hD', show ¬ (2 = 7) by omega, if_false] at hk ⊢; exact h.v2 hk
  · simp only [hD', show ¬ (3 = 7) by omega, if_false] at hk ⊢; exact h.v3 hk
  · simp [hD', h5] at hn
  · simp only [hD', show ¬ (6 = 7) by omega, if_false] at hk ⊢; exact h.v6 hk
end
end Go.Proofs.Ytkmopfgeenadgaa
