/-
  Mathematics of FnBitsStuffed: what is stuffed comes back, and has no six ones in a row; bits come back from bytes.
-/
import Derived.Test.YtkmopfgeenadgaaStuff2
import Derived.Test.YtkmopfgeenadgaaBits
import Derived.Test.YtkmopfgeenadgaaFromBits
namespace Go.Proofs.Ytkmopfgeenadgaa
open Go.RowKit
set_option maxRecDepth 100000
set_option linter.unusedVariables false

/-- A list grows at its end. -/
theorem snoc_ind {P : List Int → Prop} (h0 : P []) (h1 : ∀ l x, P l → P (l ++ [x])) (l : List Int) : P l := by
  have h : ∀ n, n ≤ l.length → P (l.take n) := by
    intro n
    induction n with
    | zero => intro _; simpa using h0
    | succ n ih =>
      intro hn
      rw [List.take_succ_eq_append_getElem (by omega)]
      exact h1 _ _ (ih (by omega))
  have := h l.length (Nat.le_refl _)
  rwa [List.take_length] at this
theorem stf_app (l : List Int) (x : Int) : stf (l ++ [x]) = stfStep (stf l) x := by simp [stf, List.foldl_append]
theorem un_app (l : List Int) (x : Int) : un (l ++ [x]) = unStep (un l) x := by simp [un, List.foldl_append]
theorem stf_n (l : List Int) : (stf l).2 ≤ 4 := by
  have := (stf_bd l l.length (Nat.le_refl _)).1
  rwa [List.take_length] at this
theorem okAll_iff {lo hi : Int} {l : List Int} : okAll lo hi l = true ↔ ∀ x ∈ l, lo ≤ x ∧ x ≤ hi := by simp [okAll]
/-- Stuffed bits come back. -/
theorem un_stf (l : List Int) (h : okAll 0 1 l = true) : un (stf l).1 = some (l, (stf l).2) := by
  revert h
  refine snoc_ind (P := fun l => okAll 0 1 l = true → un (stf l).1 = some (l, (stf l).2)) ?_ ?_ l
  · intro _; simp [stf, un]
  · intro l x ih h
    have h1 := okAll_iff.1 h
    have h2 : okAll 0 1 l = true := okAll_iff.2 fun y hy => h1 y (by simp [hy])
    have h3 := h1 x (by simp)
    have h4 := ih h2
    have h5 := stf_n l
    rw [stf_app]
    unfold stfStep
    by_cases hx : x = 0
    · rw [if_pos hx]
      show un ((stf l).1 ++ [x]) = _
      rw [un_app, h4]
      simp only [unStep]
      rw [if_neg (by omega), if_pos hx]
    · rw [if_neg hx]
      by_cases h6 : (stf l).2 = 4
      · rw [if_pos h6]
        show un ((stf l).1 ++ [x] ++ [0]) = _
        rw [un_app, un_app, h4]
        simp only [unStep]
        rw [if_neg (by omega), if_neg hx]
        simp [h6]
      · rw [if_neg h6]
        show un ((stf l).1 ++ [x]) = _
        rw [un_app, h4]
        simp only [unStep]
        rw [if_neg (by omega), if_neg hx]
theorem stf_bits (l : List Int) (h : okAll 0 1 l = true) : okAll 0 1 (stf l).1 = true := by
  revert h
  refine snoc_ind (P := fun l => okAll 0 1 l = true → okAll 0 1 (stf l).1 = true) ?_ ?_ l
  · intro _; simp [stf, okAll]
  · intro l x ih h
    have h1 := okAll_iff.1 h
    have h2 : okAll 0 1 l = true := okAll_iff.2 fun y hy => h1 y (by simp [hy])
    have h3 := h1 x (by simp)
    have h4 := okAll_iff.1 (ih h2)
    rw [stf_app]
    refine okAll_iff.2 fun y hy => ?_
    unfold stfStep at hy
    split at hy
    · simp only [List.mem_append, List.mem_singleton] at hy
      rcases hy with hy | rfl
      · exact h4 y hy
      · exact h3
    · split at hy
      · simp only [List.mem_append, List.mem_singleton] at hy
        rcases hy with (hy | rfl) | rfl
        · exact h4 y hy
        · exact h3
        · omega
      · simp only [List.mem_append, List.mem_singleton] at hy
        rcases hy with hy | rfl
        · exact h4 y hy
        · exact h3
/-- The sum of numbers. -/
def sumZ (l : List Int) : Int := l.foldl (· + ·) 0
theorem sumZ_app (l : List Int) (x : Int) : sumZ (l ++ [x]) = sumZ l + x := by simp [sumZ, List.foldl_append]
theorem stf_sum (l : List Int) : sumZ (stf l).1 = sumZ l := by
  refine snoc_ind (P := fun l => sumZ (stf l).1 = sumZ l) ?_ ?_ l
  · simp [stf]
  · intro l x ih
    rw [stf_app, sumZ_app]
    unfold stfStep
    split
    · show sumZ ((stf l).1 ++ [x]) = _
      rw [sumZ_app, ih]
    · split
      · show sumZ ((stf l).1 ++ [x] ++ [0]) = _
        rw [sumZ_app, sumZ_app, ih]; omega
      · show sumZ ((stf l).1 ++ [x]) = _
        rw [sumZ_app, ih]
/-- How many ones stand at the end. -/
def rowN (l : List Int) : Int := l.foldl (fun r x => (r + 1) * x) 0
theorem rowN_app (l : List Int) (x : Int) : rowN (l ++ [x]) = (rowN l + 1) * x := by simp [rowN, List.foldl_append]
theorem rowN_take (l : List Int) (k : Nat) (hk : k < l.length) : rowN (l.take (k + 1)) = (rowN (l.take k) + 1) * l.getD k 0 := by
  have hg : l.getD k 0 = l[k] := by simp [hk]
  rw [List.take_succ_eq_append_getElem hk, rowN_app, hg]
theorem un_row (l : List Int) (h : okAll 0 1 l = true) (o : List Int) (n : Nat) (hu : un l = some (o, n)) : rowN l = n := by
  revert o n
  revert h
  refine snoc_ind (P := fun l => okAll 0 1 l = true → ∀ o n, un l = some (o, n) → rowN l = n) ?_ ?_ l
  · intro _ o n hu
    simp [un] at hu
    simp [rowN, ← hu.2]
  · intro l x ih h o n hu
    have h1 := okAll_iff.1 h
    have h2 : okAll 0 1 l = true := okAll_iff.2 fun y hy => h1 y (by simp [hy])
    have h3 := h1 x (by simp)
    rw [un_app] at hu
    cases hul : un l with
    | none => rw [hul] at hu; cases hu
    | some s =>
      obtain ⟨o', n'⟩ := s
      have h4 := ih h2 o' n' hul
      rw [hul] at hu
      simp only [unStep] at hu
      rw [rowN_app, h4]
      by_cases h5 : n' = 5
      · rw [if_pos h5] at hu
        by_cases hx : x = 0
        · rw [if_pos hx] at hu
          injection hu with hu; injection hu with h6 h7
          rw [← h7, hx]; simp
        · rw [if_neg hx] at hu; cases hu
      · rw [if_neg h5] at hu
        injection hu with hu; injection hu with h6 h7
        by_cases hx : x = 0
        · rw [if_pos hx] at h7
          rw [← h7, hx]; simp
        · rw [if_neg hx] at h7
          obtain rfl : x = 1 := by omega
          rw [← h7]; omega
/-- No six ones in a row. -/
theorem row_five {S o : List Int} {n : Nat} (h : okAll 0 1 S = true) (hu : un S = some (o, n)) (k : Nat) (hk : k ≤ S.length) : 0 ≤ rowN (S.take k) ∧ rowN (S.take k) ≤ 5 := by
  have h1 : okAll 0 1 (S.take k) = true := okAll_iff.2 fun y hy => okAll_iff.1 h y (List.mem_of_mem_take hy)
  cases hq : un (S.take k) with
  | none => rw [un_none S k hq] at hu; cases hu
  | some s =>
    obtain ⟨o', n'⟩ := s
    have h2 := un_row _ h1 o' n' hq
    have h3 := (un_bd S k hk o' n' hq).1
    omega
/-- What is unstuffed is stuffed again. -/
theorem stf_un (L : List Int) : ∀ o n, un L = some (o, n) → (n ≠ 5 → stf o = (L, n)) ∧ (n = 5 → stf o = (L ++ [0], 0)) ∧ (∀ x ∈ o, x ∈ L) ∧ n ≤ 5 := by
  refine snoc_ind (P := fun L => ∀ o n, un L = some (o, n) → (n ≠ 5 → stf o = (L, n)) ∧ (n = 5 → stf o = (L ++ [0], 0)) ∧ (∀ x ∈ o, x ∈ L) ∧ n ≤ 5) ?_ ?_ L
  · intro o n hu
    simp [un] at hu
    obtain ⟨rfl, rfl⟩ := hu
    exact ⟨fun _ => rfl, fun h => by omega, fun x hx => by simp at hx, by omega⟩
  · intro L x ih o n hu
    rw [un_app] at hu
    cases hul : un L with
    | none => rw [hul] at hu; cases hu
    | some s =>
      obtain ⟨o', n'⟩ := s
      obtain ⟨i1, i2, i3, i4⟩ := ih o' n' hul
      rw [hul] at hu
      simp only [unStep] at hu
      by_cases h5 : n' = 5
      · rw [if_pos h5] at hu
        by_cases hx : x = 0
        · rw [if_pos hx] at hu
          injection hu with hu; injection hu with h6 h7
          subst h6; subst h7; subst hx
          exact ⟨fun _ => i2 h5, fun h => by omega, fun y hy => by simp [i3 y hy], by omega⟩
        · rw [if_neg hx] at hu; cases hu
      · rw [if_neg h5] at hu
        injection hu with hu; injection hu with h6 h7
        subst h6
        have i5 := i1 h5
        have hm : ∀ y ∈ o' ++ [x], y ∈ L ++ [x] := by
          intro y hy
          simp only [List.mem_append, List.mem_singleton] at hy ⊢
          rcases hy with hy | hy
          · exact .inl (i3 y hy)
          · exact .inr hy
        by_cases hx : x = 0
        · rw [if_pos hx] at h7
          subst h7
          refine ⟨fun _ => ?_, fun h => by omega, hm, by omega⟩
          rw [stf_app, i5]
          simp only [stfStep]
          rw [if_pos hx]
        · rw [if_neg hx] at h7
          subst h7
          refine ⟨fun h => ?_, fun h => ?_, hm, by omega⟩
          · rw [stf_app, i5]
            simp only [stfStep]
            rw [if_neg hx, if_neg (by omega)]
          · rw [stf_app, i5]
            simp only [stfStep]
            rw [if_neg hx, if_pos (by omega)]

theorem areBit_of {l : List Int} (h1 : okAll 0 1 l = true) (h2 : l.length ≤ 400) : areBit l = true := by simp [areBit, h1, h2]
/-- The first part of the law. -/
theorem stuff_back {l : List Int} (h : (stuffBits l).2 = true) : unstuffBits (stuffBits l).1 = (l, true) ∧ sumZ (stuffBits l).1 = sumZ l ∧ (∀ k, k ≤ (stuffBits l).1.length → 0 ≤ rowN ((stuffBits l).1.take k) ∧ rowN ((stuffBits l).1.take k) ≤ 5) ∧ okAll 0 1 (stuffBits l).1 = true ∧ (stuffBits l).1.length ≤ 400 ∧ okAll 0 1 l = true ∧ l.length ≤ 400 := by
  by_cases hq : areBit l = true ∧ (stuffOf l).length ≤ 400
  · have e := stuffBits_yes hq.1 hq.2
    have h1 := areBit_ok hq.1
    have h2 := stf_bits l h1
    have h3 := un_stf l h1
    rw [e]
    have h4 : areBit (stuffOf l) = true := areBit_of h2 hq.2
    refine ⟨?_, stf_sum l, fun k hk => row_five h2 h3 k hk, h2, hq.2, h1, areBit_len hq.1⟩
    show unstuffBits (stuffOf l) = _
    rw [unstuffBits_yes h4]
    exact unOf_yes h3 (by have := stf_n l; omega)
  · rw [stuffBits_no hq] at h; cases h
/-- The second part. -/
theorem unstuff_back {l : List Int} (h : (unstuffBits l).2 = true) : stuffBits (unstuffBits l).1 = (l, true) := by
  cases ha : areBit l
  · rw [unstuffBits_no ha] at h; cases h
  · rw [unstuffBits_yes ha] at h ⊢
    cases hu : un l with
    | none => rw [unOf_none hu] at h; cases h
    | some s =>
      obtain ⟨o, n⟩ := s
      by_cases h5 : n = 5
      · subst h5; rw [unOf_five hu] at h; cases h
      · rw [unOf_yes hu h5]
        obtain ⟨i1, _, i3, _⟩ := stf_un l o n hu
        have e : stuffOf o = l := by unfold stuffOf; rw [i1 h5]
        have h1 : okAll 0 1 o = true := okAll_iff.2 fun x hx => okAll_iff.1 (areBit_ok ha) x (i3 x hx)
        have h2 := (un_bd l l.length (Nat.le_refl _) o n (by rw [List.take_length]; exact hu)).2
        have h3 := areBit_len ha
        show stuffBits o = _
        rw [stuffBits_yes (areBit_of h1 (by omega)) (by rw [e]; exact h3), e]

/-- Eight bits and the byte that they are. -/
theorem byte_bits : ∀ b : Fin 256, (bitsB b.val).foldl (fun b x => 2 * b + x) 0 = (b.val : Int) := by decide +kernel
theorem bits_byte : ∀ a b c d e f g h : Fin 2, bitsB ((([(a.val : Int), b.val, c.val, d.val, e.val, f.val, g.val, h.val] : List Int).foldl (fun b x => 2 * b + x) 0).toNat) = [(a.val : Int), b.val, c.val, d.val, e.val, f.val, g.val, h.val] := by decide +kernel
theorem bitsL_app (l m : List Int) : bitsL (l ++ m) = bitsL l ++ bitsL m := by simp [bitsL, List.flatMap_append]
theorem fromB_cons (a l : List Int) (n : Nat) (ha : a.length = 8) : fromB (a ++ l) (n + 1) = a.foldl (fun b x => 2 * b + x) 0 :: fromB l n := by
  unfold fromB
  rw [List.range_succ_eq_map, List.map_cons, List.map_map]
  congr 1
  · simp [pc, ← ha]
  · apply List.map_congr_left
    intro i _
    show pc (a ++ l) (8 * (i + 1)) 8 = pc l (8 * i) 8
    have e : (a ++ l).drop (8 * (i + 1)) = l.drop (8 * i) := by
      rw [List.drop_append, List.drop_eq_nil_of_le (by omega), List.nil_append, ha]
      congr 1
    unfold pc
    rw [e]
theorem fromB_bits (l : List Int) (h : okAll 0 255 l = true) : fromB (bitsL l) l.length = l := by
  induction l with
  | nil => rfl
  | cons x l ih =>
    have h1 := okAll_iff.1 h
    have h2 := h1 x (by simp)
    have e : bitsL (x :: l) = bitsB x.toNat ++ bitsL l := by simp [bitsL]
    rw [e, List.length_cons, fromB_cons _ _ _ (bitsB_length _), ih (okAll_iff.2 fun y hy => h1 y (by simp [hy]))]
    have h3 := byte_bits ⟨x.toNat, by omega⟩
    rw [h3]
    congr 1
    show ((x.toNat : Nat) : Int) = x
    omega
theorem fin2_of {x : Int} (h : 0 ≤ x ∧ x ≤ 1) : ∃ a : Fin 2, x = (a.val : Int) := by
  rcases (show x = 0 ∨ x = 1 by omega) with rfl | rfl
  · exact ⟨0, rfl⟩
  · exact ⟨1, rfl⟩
theorem bits_fromB (n : Nat) (l : List Int) (hl : l.length = 8 * n) (h : okAll 0 1 l = true) : bitsL (fromB l n) = l ∧ okAll 0 255 (fromB l n) = true := by
  induction n generalizing l with
  | zero =>
    obtain rfl := List.eq_nil_of_length_eq_zero (show l.length = 0 by omega)
    exact ⟨rfl, by simp [fromB, okAll]⟩
  | succ n ih =>
    match l, hl with
    | a :: b :: c :: d :: e :: f :: g :: i :: l, hl =>
      have h1 := okAll_iff.1 h
      have hl2 : l.length = 8 * n := by simp at hl; omega
      obtain ⟨j1, j2⟩ := ih l hl2 (okAll_iff.2 fun y hy => h1 y (by simp [hy]))
      obtain ⟨a, rfl⟩ := fin2_of (h1 a (by simp))
      obtain ⟨b, rfl⟩ := fin2_of (h1 b (by simp))
      obtain ⟨c, rfl⟩ := fin2_of (h1 c (by simp))
      obtain ⟨d, rfl⟩ := fin2_of (h1 d (by simp))
      obtain ⟨e, rfl⟩ := fin2_of (h1 e (by simp))
      obtain ⟨f, rfl⟩ := fin2_of (h1 f (by simp))
      obtain ⟨g, rfl⟩ := fin2_of (h1 g (by simp))
      obtain ⟨i, rfl⟩ := fin2_of (h1 i (by simp))
      have e1 := fromB_cons [(a.val : Int), b.val, c.val, d.val, e.val, f.val, g.val, i.val] l n rfl
      simp only [List.cons_append, List.nil_append] at e1
      rw [e1]
      have e2 := bits_byte a b c d e f g i
      refine ⟨?_, ?_⟩
      · show bitsB _ ++ bitsL (fromB l n) = _
        rw [e2, j1]
        rfl
      · refine okAll_iff.2 fun y hy => ?_
        rcases List.mem_cons.1 hy with rfl | hy
        · simp only [List.foldl_cons, List.foldl_nil]
          have := a.isLt; have := b.isLt; have := c.isLt; have := d.isLt; have := e.isLt; have := f.isLt; have := g.isLt; have := i.isLt
          omega
        · exact okAll_iff.1 j2 y hy
    | [], hl => simp at hl
    | [_], hl => simp at hl; omega
    | [_, _], hl => simp at hl; omega
    | [_, _, _], hl => simp at hl; omega
    | [_, _, _, _], hl => simp at hl; omega
    | [_, _, _, _, _], hl => simp at hl; omega
    | [_, _, _, _, _, _], hl => simp at hl; omega
    | [_, _, _, _, _, _, _], hl => simp at hl; omega
/-- The third part. -/
theorem bits_back {l : List Int} (h : (bitsOf l).2 = true) : fromBits (bitsOf l).1 = (l, true) ∧ (bitsOf l).1.length = 8 * l.length ∧ l.length ≤ 40 := by
  cases ha : areB l
  · rw [bitsOf_no ha] at h; cases h
  · rw [bitsOf_yes ha]
    have h1 := areB_len ha
    have h2 := areB_ok ha
    have hL := bitsL_length l
    have hb : okAll 0 1 (bitsL l) = true := okAll_iff.2 fun x hx => by
      simp only [bitsL, List.mem_flatMap, bitsB, List.mem_map] at hx
      obtain ⟨y, _, j, _, rfl⟩ := hx
      have := bitAt_01 y.toNat j
      omega
    refine ⟨?_, hL, h1⟩
    show fromBits (bitsL l) = _
    rw [fromBits_yes (areBit_of hb (by omega)) (by omega) (by omega)]
    have e : (bitsL l).length / 8 = l.length := by omega
    rw [e, fromB_bits l h2]
/-- The fourth part. -/
theorem from_back {l : List Int} (h : (fromBits l).2 = true) : bitsOf (fromBits l).1 = (l, true) := by
  by_cases hq : areBit l = true ∧ l.length % 8 = 0 ∧ l.length ≤ 320
  · rw [fromBits_yes hq.1 hq.2.1 hq.2.2]
    obtain ⟨j1, j2⟩ := bits_fromB (l.length / 8) l (by omega) (areBit_ok hq.1)
    have h3 : areB (fromB l (l.length / 8)) = true := by
      simp only [areB, j2, Bool.and_true, decide_eq_true_eq, fromB_length]
      omega
    show bitsOf (fromB l (l.length / 8)) = _
    rw [bitsOf_yes h3, j1]
  · rw [fromBits_no hq] at h; cases h
end Go.Proofs.Ytkmopfgeenadgaa
