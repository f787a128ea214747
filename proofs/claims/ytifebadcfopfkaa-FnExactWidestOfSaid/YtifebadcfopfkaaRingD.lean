/-
  The contracts of WidestOf.
-/
import Derived.Test.YtifebadcfopfkaaRingB
namespace Go.Proofs.Ytifebadcfopfkaa
open Go.RowKit
set_option maxRecDepth 100000
set_option linter.unusedVariables false

/-- The greatest of a number and of n others. -/
def mxR (f : Int → Int) (m : Int) : Nat → Int
  | 0 => m
  | n + 1 => max (mxR f m n) (f n)
theorem mxR_ge (f : Int → Int) (m : Int) (n : Nat) : m ≤ mxR f m n ∧ ∀ j : Nat, j < n → f j ≤ mxR f m n := by
  induction n with
  | zero => exact ⟨Int.le_refl _, fun j h => by omega⟩
  | succ n ih =>
    simp only [mxR]
    refine ⟨by have := ih.1; omega, fun j hj => ?_⟩
    by_cases e : j = n
    · subst e; omega
    · have := ih.2 j (by omega); omega
theorem mxR_is (f : Int → Int) (m : Int) (n : Nat) : mxR f m n = m ∨ ∃ j : Nat, j < n ∧ mxR f m n = f j := by
  induction n with
  | zero => exact .inl rfl
  | succ n ih =>
    simp only [mxR]
    by_cases h : mxR f m n ≤ f n
    · exact .inr ⟨n, by omega, by omega⟩
    · rcases ih with h2 | ⟨j, hj, h2⟩
      · exact .inl (by omega)
      · exact .inr ⟨j, by omega, by omega⟩
/-- Over all pairs of less and greater; over all pairs. -/
def tri (D : Int → Int → Int) : Nat → Int
  | 0 => 0
  | a + 1 => mxR (D a) (tri D a) a
def sq (G : Int → Int → Int) (k : Nat) : Nat → Int
  | 0 => 0
  | a + 1 => mxR (G a) (sq G k a) k
theorem tri_ge (D : Int → Int → Int) (n : Nat) : 0 ≤ tri D n ∧ ∀ i j : Nat, i < n → j < i → D i j ≤ tri D n := by
  induction n with
  | zero => exact ⟨Int.le_refl _, fun i j h => by omega⟩
  | succ n ih =>
    have h := mxR_ge (D n) (tri D n) n
    simp only [tri]
    refine ⟨by have := ih.1; omega, fun i j hi hj => ?_⟩
    by_cases e : i = n
    · subst e; exact h.2 j hj
    · have := ih.2 i j (by omega) hj; omega
theorem tri_is (D : Int → Int → Int) (n : Nat) : tri D n = 0 ∨ ∃ i j : Nat, i < n ∧ j < i ∧ tri D n = D i j := by
  induction n with
  | zero => exact .inl rfl
  | succ n ih =>
    simp only [tri]
    rcases mxR_is (D n) (tri D n) n with h | ⟨j, hj, h⟩
    · rw [h]
      rcases ih with h2 | ⟨i, j, hi, hj, h2⟩
      · exact .inl h2
      · exact .inr ⟨i, j, by omega, hj, h2⟩
    · exact .inr ⟨n, j, by omega, hj, h⟩
theorem sq_ge (G : Int → Int → Int) (k n : Nat) : 0 ≤ sq G k n ∧ ∀ i j : Nat, i < n → j < k → G i j ≤ sq G k n := by
  induction n with
  | zero => exact ⟨Int.le_refl _, fun i j h => by omega⟩
  | succ n ih =>
    have h := mxR_ge (G n) (sq G k n) k
    simp only [sq]
    refine ⟨by have := ih.1; omega, fun i j hi hj => ?_⟩
    by_cases e : i = n
    · subst e; exact h.2 j hj
    · have := ih.2 i j (by omega) hj; omega
theorem sq_is (G : Int → Int → Int) (k n : Nat) : sq G k n = 0 ∨ ∃ i j : Nat, i < n ∧ j < k ∧ sq G k n = G i j := by
  induction n with
  | zero => exact .inl rfl
  | succ n ih =>
    simp only [sq]
    rcases mxR_is (G n) (sq G k n) k with h | ⟨j, hj, h⟩
    · rw [h]
      rcases ih with h2 | ⟨i, j, hi, hj, h2⟩
      · exact .inl h2
      · exact .inr ⟨i, j, by omega, hj, h2⟩
    · exact .inr ⟨n, j, by omega, hj, h⟩
theorem tri_sq (D G : Int → Int → Int) (k : Nat) (h1 : ∀ i j : Nat, i < k → j < k → D i j = max 0 (G i j)) (h2 : ∀ i j : Nat, i < k → j < k → G i j = G j i) (h3 : ∀ i : Nat, i < k → G i i = 0) : tri D k = sq G k k := by
  have a := tri_ge D k
  have b := sq_ge G k k
  apply Int.le_antisymm
  · rcases tri_is D k with h | ⟨i, j, hi, hj, h⟩
    · omega
    · have := h1 i j hi (by omega)
      have := b.2 i j hi (by omega)
      omega
  · rcases sq_is G k k with h | ⟨i, j, hi, hj, h⟩
    · omega
    · rcases Nat.lt_trichotomy i j with h4 | h4 | h4
      · have e1 := h1 j i hj hi
        have e2 := h2 i j hi hj
        have e3 := a.2 j i hj h4
        omega
      · subst h4
        have := h3 i hi
        omega
      · have e1 := h1 i j hi hj
        have e3 := a.2 i j hi h4
        omega
def dD (x : Rg) (a b : Int) : Int := (optI (lessO (hopF x a b) (hopF x b a))).1
def dG (x : Rg) (a b : Int) : Int := (lessO (hopF x a b) (hopF x b a)).getD (-1)
theorem hopF_self (x : Rg) (a : Int) : hopF x a a = some 0 := by
  have e : gapF x.k a a = 0 := by unfold gapF; simp
  unfold hopF
  rw [e]
  simp [hop, wayP, wayL]
theorem lessO_comm (p q : Option Int) : lessO p q = lessO q p := by
  rcases p with _ | p <;> rcases q with _ | q <;> simp only [lessO]
  congr 1
  split <;> split <;> omega
/-- What WidestOf says. -/
def widestOf (x : Rg) : Int × Bool := if isRg x = true ∧ (x.d.length : Int) ≤ 1 then (tri (dD x) x.k.toNat, true) else (0, false)
theorem wide_eq (x : Rg) (hk : 2 ≤ x.k ∧ x.k ≤ 12) : tri (dD x) x.k.toNat = sq (dG x) x.k.toNat x.k.toNat := by
  refine tri_sq _ _ _ (fun i j hi hj => ?_) (fun i j _ _ => ?_) (fun i hi => ?_)
  · unfold dD dG
    have b1 := hopF_bd x i j (by omega) (by omega)
    have b2 := hopF_bd x j i (by omega) (by omega)
    generalize hopF x i j = p at b1 ⊢
    generalize hopF x j i = q at b2 ⊢
    rcases p with _ | p <;> rcases q with _ | q <;> simp only [lessO, optI, Option.getD_none, Option.getD_some]
    · rfl
    · have := b2 q rfl; omega
    · have := b1 p rfl; omega
    · have := b2 q rfl; have := b1 p rfl; split <;> omega
  · unfold dG
    rw [lessO_comm]
  · unfold dG
    rw [hopF_self]
    simp [lessO]

theorem canAllTalk_any (v : Value) (x : Rg) (w : World) (h : RRg w w.heap.size v x) (hn : x.d.length ≤ 1048576) :
    Calls Try.prog 82 #[v] w (RetV w (.bool (decide ((x.d.length : Int) ≤ 1)))) := by
  obtain ⟨sv, rfl, h⟩ := h
  obtain ⟨k, d⟩ := x
  obtain ⟨A, c, rfl, hlc, hc⟩ := h
  clear hc
  simp only [RgV] at hn hlc ⊢
  have hz : (d.length : Int) ≤ 1048576 := by omega
  have hW1 : Below w.heap.size w (w.alloc (.cells #[.int .i64 k, .slice A d.length c] 26)) := (Below.refl _ _).alloc (Nat.le_refl _) _
  go_enter Try.func82, Try.ntmps82
  go_wp2
  go_ret
  exact ⟨rfl, hW1⟩
theorem if_max (x y : Int) : (if y > x then y else x) = max x y := by
  rw [Int.max_def]
  split <;> split <;> omega
theorem if_max2 (x y : Int) : (if y < x then x else y) = max x y := by
  rw [Int.max_def]
  split <;> split <;> omega

set_option maxHeartbeats 1000000 in
theorem implWidestOf_any (v : Value) (x : Rg) (w : World) (h : RRg w w.heap.size v x) (hn : x.d.length ≤ 1048576) :
    Calls Try.prog 27 #[v] w (RetV w (.tuple #[.int .i64 (widestOf x).1, .bool (widestOf x).2])) := by
  obtain ⟨sv, rfl, h⟩ := h
  obtain ⟨k, d⟩ := x
  have h3 := h
  obtain ⟨A, c, rfl, hlc, hc⟩ := h
  clear hc
  simp only [RgV] at hn h3 hlc ⊢
  have hB0 := BK.made w 26 #[.int .i64 k, .slice A d.length c]
  have hW : Below w.heap.size w (w.alloc (.cells #[.int .i64 k, .slice A d.length c] 26)) := (Below.refl _ _).alloc (Nat.le_refl _) _
  have h4 := (h3.below hW).more hW.size
  cases hg : isRg ⟨k, d⟩
  · rw [show widestOf ⟨k, d⟩ = (0, false) from by simp [widestOf, hg]]
    go_enter Try.func27, Try.ntmps27
    go_wp2_with fail
    refine (implIsRing_any _ ⟨k, d⟩ _ ⟨_, rfl, h4⟩ hn).mono ?_; rintro e w1 ⟨rfl, hb1⟩
    rw [hg]
    have T := hW.trans (hb1.mono hW.size)
    go_wp2_with fail
    go_ret2
    exact ⟨rfl, T⟩
  by_cases hl : (d.length : Int) ≤ 1
  rotate_left
  · rw [show widestOf ⟨k, d⟩ = (0, false) from by unfold widestOf; rw [if_neg (fun h => hl h.2)]]
    have hdl : decide ((d.length : Int) ≤ 1) = false := decide_eq_false hl
    go_enter Try.func27, Try.ntmps27
    go_wp2_with fail
    refine (implIsRing_any _ ⟨k, d⟩ _ ⟨_, rfl, h4⟩ hn).mono ?_; rintro e w1 ⟨rfl, hb1⟩
    rw [hg]
    have T := hW.trans (hb1.mono hW.size)
    have q := hB0.step hb1
    have q0 := q.cell 0
    have q1 := q.cell 1
    simp at q0 q1
    have h5 := (h4.step hb1 (Nat.le_refl _)).more hb1.size
    go_wp2_with fail
    refine (canAllTalk_any _ ⟨k, d⟩ _ ⟨_, rfl, h5⟩ hn).mono ?_; rintro e w2 ⟨rfl, hb2⟩
    rw [hdl]
    have T2 := T.trans (hb2.mono T.size)
    go_wp2_with fail
    go_ret2
    exact ⟨rfl, T2⟩
  rw [show widestOf ⟨k, d⟩ = (tri (dD ⟨k, d⟩) k.toNat, true) from by unfold widestOf; rw [if_pos ⟨hg, hl⟩]]
  have hk := isRg_k hg
  simp only at hk
  have hdl : decide ((d.length : Int) ≤ 1) = true := decide_eq_true hl
  have HD : Hid (∀ v w (a b : Int), RRg w w.heap.size v ⟨k, d⟩ → 0 ≤ a → a < k → 0 ≤ b → b < k → Calls Try.prog 83 #[v, .int .i64 a, .int .i64 b] w (RetV w (.tuple #[.int .i64 (dD ⟨k, d⟩ a b), .bool (optI (lessO (hopF ⟨k, d⟩ a b) (hopF ⟨k, d⟩ b a))).2]))) := by
    show ∀ v w (a b : Int), _
    intro v w a b h h1 h2 h3 h4
    unfold dD
    exact doubleHops_any v ⟨k, d⟩ a b w h hk ⟨h1, h2⟩ ⟨h3, h4⟩ hn
  generalize hD : dD ⟨k, d⟩ = D at HD ⊢
  clear hD
  obtain ⟨kn, hkn⟩ : ∃ kn : Nat, k = kn := ⟨k.toNat, by omega⟩
  rw [show k.toNat = kn from by omega]
  have HKN := Lib.hid hkn
  clear hkn
  go_enter Try.func27, Try.ntmps27
  go_wp2_with fail
  refine (implIsRing_any _ ⟨k, d⟩ _ ⟨_, rfl, h4⟩ hn).mono ?_; rintro e w1 ⟨rfl, hb1⟩
  rw [hg]
  have T1 := hW.trans (hb1.mono hW.size)
  have B1 := hB0.step hb1
  have q0 := B1.cell 0
  have q1 := B1.cell 1
  simp at q0 q1
  have h5 := (h4.step hb1 (Nat.le_refl _)).more hb1.size
  go_wp2_with fail
  refine (canAllTalk_any _ ⟨k, d⟩ _ ⟨_, rfl, h5⟩ hn).mono ?_; rintro e w2 ⟨rfl, hb2⟩
  rw [hdl]
  have T2 := T1.trans (hb2.mono T1.size)
  have B2 := B1.step hb2
  have R2 := (h5.step hb2 (Nat.le_refl _)).more hb2.size
  have q2 := B2.cell 0
  have q3 := B2.cell 1
  simp at q2 q3
  clear q0 q1 h5 B1 hb1 hb2 hB0 hW h4 h3 T1 hdl
  go_wp2_with fail
  go_loopw [4, 19] (fun m i wr => ∃ a : Nat, a ≤ kn ∧ i = .int .i64 a ∧ m = .int .i64 (tri D a) ∧ Below w2.heap.size w2 wr) (fun _ i _ => kn - (intOf i).toNat)
  case atStart => exact ⟨0, Nat.zero_le _, rfl, rfl, Below.refl _ _⟩
  case round =>
    obtain ⟨a, ha, rfl, rfl, hbw⟩ := hrel
    have B3 := B2.step hbw
    have R3 := (R2.step hbw (Nat.le_refl _)).more hbw.size
    by_cases hlt : a < kn
    · have hlt' : (a : Int) < k := by have := HKN.out; omega
      have hS : Hid (tri D (a + 1) = mxR (D a) (tri D a) a) := rfl
      have hM0 : Hid (mxR (D a) (tri D a) 0 = tri D a) := rfl
      generalize tri D a = m0 at hS hM0 ⊢
      go_wp2_with fail
      go_loopw [4, 23] (fun m i wr' => ∃ b : Nat, b ≤ a ∧ i = .int .i64 b ∧ m = .int .i64 (mxR (D a) m0 b) ∧ Below w2.heap.size w2 wr') (fun _ i _ => a - (intOf i).toNat)
      case atStart => exact ⟨0, Nat.zero_le _, rfl, by rw [hM0.out], hbw⟩
      case round =>
        obtain ⟨b, hb, rfl, rfl, hbw2⟩ := hrel
        have B4 := B2.step hbw2
        have R4 := (R2.step hbw2 (Nat.le_refl _)).more hbw2.size
        have j0 := B4.cell 0
        have j1 := B4.cell 1
        simp at j0 j1
        by_cases hltb : b < a
        · have hltb' : (b : Int) < a := by omega
          have hM : Hid (mxR (D a) m0 (b + 1) = max (mxR (D a) m0 b) (D a b)) := rfl
          generalize mxR (D a) m0 b = m1 at hM ⊢
          go_wp2_with fail
          refine (HD.out _ _ a b ⟨_, rfl, R4⟩ (by omega) hlt' (by omega) (by have := HKN.out; omega)).mono ?_; rintro e w5 ⟨rfl, hb5⟩
          have hbw5 := hbw2.trans (hb5.mono hbw2.size)
          generalize D a b = y at hM ⊢
          go_wp2_with fail
          go_roundw
          case rel => first | exact ⟨b + 1, by omega, by go_num, by rw [hM.out, ← if_max], hbw5⟩ | exact ⟨b + 1, by omega, by omega, by rw [hM.out, ← if_max]⟩ | exact ⟨b + 1, by omega, by go_num, by rw [hM.out, if_max]⟩
          case measure => simp [intOf]; omega
        · obtain rfl : b = a := by omega
          go_wp2_with fail
          go_roundw
          case rel => first | exact ⟨b + 1, by omega, by go_num, by rw [hS.out], hbw2⟩ | exact ⟨b + 1, by omega, by omega, by rw [hS.out]⟩ | exact ⟨b + 1, by omega, by go_num, by rw [hS.out]⟩
          case measure => simp [intOf]; omega
    · obtain rfl : a = kn := by omega
      have hge : ¬ ((a : Int) < k) := by have := HKN.out; omega
      go_wp2_with fail
      go_ret2
      exact ⟨rfl, T2.trans (hbw.mono T2.size)⟩
set_option maxHeartbeats 1000000 in
theorem specWidestOf_any (v : Value) (x : Rg) (w : World) (h : RRg w w.heap.size v x) (hn : x.d.length ≤ 1048576) :
    Calls Try.prog 28 #[v] w (RetV w (.tuple #[.int .i64 (widestOf x).1, .bool (widestOf x).2])) := by
  obtain ⟨sv, rfl, h⟩ := h
  obtain ⟨k, d⟩ := x
  have h3 := h
  obtain ⟨A, c, rfl, hlc, hc⟩ := h
  clear hc
  simp only [RgV] at hn h3 hlc ⊢
  have hB0 := BK.made w 26 #[.int .i64 k, .slice A d.length c]
  have hW : Below w.heap.size w (w.alloc (.cells #[.int .i64 k, .slice A d.length c] 26)) := (Below.refl _ _).alloc (Nat.le_refl _) _
  have h4 := (h3.below hW).more hW.size
  have hz : (d.length : Int) ≤ 1048576 := by omega
  cases hg : isRg ⟨k, d⟩
  · rw [show widestOf ⟨k, d⟩ = (0, false) from by simp [widestOf, hg]]
    go_enter Try.func28, Try.ntmps28
    go_wp2_with fail
    refine (riGood_any _ ⟨k, d⟩ _ ⟨_, rfl, h4⟩ hn).mono ?_; rintro e w1 ⟨rfl, hb1⟩
    rw [hg]
    have T := hW.trans (hb1.mono hW.size)
    go_wp2_with fail
    go_ret2
    exact ⟨rfl, T⟩
  by_cases hl : (d.length : Int) ≤ 1
  rotate_left
  · rw [show widestOf ⟨k, d⟩ = (0, false) from by unfold widestOf; rw [if_neg (fun h => hl h.2)]]
    have hgt : (1 : Int) < d.length := by omega
    go_enter Try.func28, Try.ntmps28
    go_wp2_with fail
    refine (riGood_any _ ⟨k, d⟩ _ ⟨_, rfl, h4⟩ hn).mono ?_; rintro e w1 ⟨rfl, hb1⟩
    rw [hg]
    have T := hW.trans (hb1.mono hW.size)
    have q := hB0.step hb1
    have q0 := q.cell 0
    have q1 := q.cell 1
    simp at q0 q1
    go_wp2_with fail
    go_ret2
    exact ⟨rfl, T⟩
  rw [show widestOf ⟨k, d⟩ = (tri (dD ⟨k, d⟩) k.toNat, true) from by unfold widestOf; rw [if_pos ⟨hg, hl⟩]]
  have hk := isRg_k hg
  rw [wide_eq ⟨k, d⟩ hk]
  simp only at hk
  have hgt : ¬ (1 : Int) < d.length := by omega
  have HD : Hid (∀ v w (a b : Int), RRg w w.heap.size v ⟨k, d⟩ → 0 ≤ a → a < k → 0 ≤ b → b < k → Calls Try.prog 85 #[v, .int .i64 a, .int .i64 b] w (RetV w (.int .i64 (dG ⟨k, d⟩ a b)))) := by
    show ∀ v w (a b : Int), _
    intro v w a b h h1 h2 h3 h4
    unfold dG
    exact riDouble_any v ⟨k, d⟩ a b w h hk ⟨h1, h2⟩ ⟨h3, h4⟩ hn
  generalize hD : dG ⟨k, d⟩ = G at HD ⊢
  clear hD
  obtain ⟨kn, hkn⟩ : ∃ kn : Nat, k = kn := ⟨k.toNat, by omega⟩
  rw [show ({ k := k, d := d } : Rg).k.toNat = kn from by simp only; omega]
  have HKN := Lib.hid hkn
  have hkn12 : kn ≤ 12 := by omega
  clear hkn
  go_enter Try.func28, Try.ntmps28
  go_wp2_with fail
  refine (riGood_any _ ⟨k, d⟩ _ ⟨_, rfl, h4⟩ hn).mono ?_; rintro e w2 ⟨rfl, hb1⟩
  rw [hg]
  have T2 := hW.trans (hb1.mono hW.size)
  have B2 := hB0.step hb1
  have q0 := B2.cell 0
  have q1 := B2.cell 1
  simp at q0 q1
  have R2 := (h4.step hb1 (Nat.le_refl _)).more hb1.size
  clear hB0 hW h4 h3 hb1
  go_wp2_with fail
  go_loopw [4, 5] (fun m i wr => ∃ a : Nat, a ≤ kn ∧ i = .int .i64 a ∧ m = .int .i64 (sq G kn a) ∧ Below w2.heap.size w2 wr) (fun _ i _ => kn - (intOf i).toNat)
  case atStart => exact ⟨0, Nat.zero_le _, rfl, rfl, Below.refl _ _⟩
  case round =>
    obtain ⟨a, ha, rfl, rfl, hbw⟩ := hrel
    have B3 := B2.step hbw
    have R3 := (R2.step hbw (Nat.le_refl _)).more hbw.size
    have i0 := B3.cell 0
    have i1 := B3.cell 1
    simp at i0 i1
    by_cases hlt : a < kn
    · have hlt' : (a : Int) < k := by have := HKN.out; omega
      have hS : Hid (sq G kn (a + 1) = mxR (G a) (sq G kn a) kn) := rfl
      have hM0 : Hid (mxR (G a) (sq G kn a) 0 = sq G kn a) := rfl
      generalize sq G kn a = m0 at hS hM0 ⊢
      go_wp2_with fail
      go_loopw [4, 6] (fun m i wr' => ∃ b : Nat, b ≤ kn ∧ i = .int .i64 b ∧ m = .int .i64 (mxR (G a) m0 b) ∧ Below w2.heap.size w2 wr') (fun _ i _ => kn - (intOf i).toNat)
      case atStart => exact ⟨0, Nat.zero_le _, rfl, by rw [hM0.out], hbw⟩
      case round =>
        obtain ⟨b, hb, rfl, rfl, hbw2⟩ := hrel
        have B4 := B2.step hbw2
        have R4 := (R2.step hbw2 (Nat.le_refl _)).more hbw2.size
        have j0 := B4.cell 0
        have j1 := B4.cell 1
        simp at j0 j1
        by_cases hltb : b < kn
        · have hltb' : (b : Int) < k := by have := HKN.out; omega
          have hM : Hid (mxR (G a) m0 (b + 1) = max (mxR (G a) m0 b) (G a b)) := rfl
          generalize mxR (G a) m0 b = m1 at hM ⊢
          go_wp2_with fail
          refine (HD.out _ _ a b ⟨_, rfl, R4⟩ (by omega) hlt' (by omega) hltb').mono ?_; rintro e w5 ⟨rfl, hb5⟩
          have hbw5 := hbw2.trans (hb5.mono hbw2.size)
          generalize G a b = y at hM ⊢
          go_wp2_with fail
          refine (l1Most_any _ _ _).mono ?_; rintro e w' ⟨rfl, rfl⟩
          rw [if_max2]
          generalize max m1 y = m2 at hM ⊢
          go_wp2_with fail
          go_roundw
          case rel => first | exact ⟨b + 1, by omega, by go_num, by rw [hM.out], hbw5⟩ | exact ⟨b + 1, by omega, by go_num, by rw [hM.out]⟩ | exact ⟨b + 1, by omega, by omega, by rw [hM.out]⟩
          case measure => simp [intOf]; omega
        · obtain rfl : b = kn := by omega
          have hge : ¬ ((b : Int) < k) := by have := HKN.out; omega
          go_wp2_with fail
          go_roundw
          case rel => first | exact ⟨a + 1, by omega, by go_num, by rw [hS.out], hbw2⟩ | exact ⟨a + 1, by omega, by go_num, by rw [hS.out]⟩ | exact ⟨a + 1, by omega, by omega, by rw [hS.out]⟩
          case measure => simp [intOf]; omega
    · obtain rfl : a = kn := by omega
      have hge : ¬ ((a : Int) < k) := by have := HKN.out; omega
      go_wp2_with fail
      go_ret2
      exact ⟨rfl, T2.trans (hbw.mono T2.size)⟩
end Go.Proofs.Ytifebadcfopfkaa
