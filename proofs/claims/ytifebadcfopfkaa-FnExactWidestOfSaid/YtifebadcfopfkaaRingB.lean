/-
  The contracts of WayOf, HopsOf and DoubleHops, and of what they call.
-/
import Derived.Test.YtifebadcfopfkaaWays
import Derived.LoopN
namespace Go.Proofs.Ytifebadcfopfkaa
open Go.RowKit
set_option maxRecDepth 100000
set_option linter.unusedVariables false

/-- A ring that has both stations. -/
def chk2 (x : Rg) (a b : Int) : Bool := (isRg x && wi a 0 (x.k - 1)) && (isRg x && wi b 0 (x.k - 1))
theorem chk2_eq (x : Rg) (a b : Int) : (isRg x && okAll 0 (x.k - 1) [a, b]) = chk2 x a b := by
  rw [okAll_two]
  unfold chk2
  cases isRg x <;> simp
theorem chk2_in {x : Rg} {a b : Int} (h : chk2 x a b = true) : (2 ≤ x.k ∧ x.k ≤ 12) ∧ (0 ≤ a ∧ a < x.k) ∧ (0 ≤ b ∧ b < x.k) := by
  simp only [chk2, Bool.and_eq_true, wi, decide_eq_true_eq] at h
  refine ⟨isRg_k h.1.1, ?_, ?_⟩ <;> omega
/-- The number of links of a way. -/
def hop (o : Option (List Int)) : Option Int := o.map fun l => (l.length : Int) - 1
def optI : Option Int → Int × Bool
  | some n => (n, true)
  | none => (0, false)
def hopF (x : Rg) (a b : Int) : Option Int := hop (wayP (fw x.d x.k) (gapF x.k b a) a)
def hopB (x : Rg) (a b : Int) : Option Int := hop (wayP (bw x.d x.k) (gapB x.k b a) a)
theorem hop_way (ld : Int → Option Int) (n : Nat) (a : Int) : hop (wayP ld n a) = if (wayL ld n a).isSome = true then some (n : Int) else none := by
  unfold hop wayP
  cases h : wayL ld n a with
  | none => rfl
  | some l => simp [wayL_len h]
/-- Backwards is the other way round. -/
theorem hopB_eq (x : Rg) (a b : Int) (ha : 0 ≤ a ∧ a < x.k) (hb : 0 ≤ b ∧ b < x.k) : hopB x a b = hopF x b a := by
  unfold hopB hopF
  rw [hop_way, hop_way, open_back x.d x.k a b ha hb, gapB_F]
theorem hopF_bd (x : Rg) (a b : Int) (ha : 0 ≤ a ∧ a < x.k) (hb : 0 ≤ b ∧ b < x.k) (n : Int) (h : hopF x a b = some n) : 0 ≤ n ∧ n < x.k := by
  unfold hopF at h
  rw [hop_way] at h
  split at h
  · injection h with h
    have := (leadsF x.d x.k b hb).small a ha.1 ha.2
    omega
  · cases h
/-- The less of two numbers that may be missing. -/
def lessO : Option Int → Option Int → Option Int
  | none, q => q
  | some p, none => some p
  | some p, some q => some (if q < p then q else p)
/-- What the three functions say. -/
def wayOf (x : Rg) (a b : Int) : List Int × Bool := if chk2 x a b = true then optL (wayP (fw x.d x.k) (gapF x.k b a) a) else ([], false)
def hopsOf (x : Rg) (a b : Int) : Int × Bool := if chk2 x a b = true then optI (hopF x a b) else (0, false)
def dblHops (x : Rg) (a b : Int) : Int × Bool := if chk2 x a b = true then optI (lessO (hopF x a b) (hopF x b a)) else (0, false)
theorem wayOf_len (x : Rg) (a b : Int) : (wayOf x a b).1.length ≤ 1048576 := by
  unfold wayOf
  split
  · next h =>
    have h1 := chk2_in h
    cases hw : wayP (fw x.d x.k) (gapF x.k b a) a with
    | none => simp [optL]
    | some l =>
      have := wayP_len hw
      have := (leadsF x.d x.k b h1.2.2).small a h1.2.1.1 h1.2.1.2
      simp only [optL]
      omega
  · simp
theorem l1Most_any (a b : Int) (w : World) : Calls Try.prog 84 #[.int .i64 a, .int .i64 b] w fun e w' => e = .returned (.int .i64 (if b < a then a else b)) ∧ w = w' := by
  by_cases h : b < a
  · rw [if_pos h]
    go_enter Try.func84, Try.ntmps84
    go_wp2
    go_ret
    exact ⟨rfl, rfl⟩
  · rw [if_neg h]
    have h2 : a ≤ b := by omega
    go_enter Try.func84, Try.ntmps84
    go_wp2
    go_ret
    exact ⟨rfl, rfl⟩

theorem hopsF_any (v : Value) (x : Rg) (a b : Int) (w : World) (h : RRg w w.heap.size v x) (hk : 2 ≤ x.k ∧ x.k ≤ 12) (ha : 0 ≤ a ∧ a < x.k) (hb : 0 ≤ b ∧ b < x.k) (hn : x.d.length ≤ 1048576) :
    Calls Try.prog 89 #[v, .int .i64 a, .int .i64 b, .func (.func 90) #[] #[]] w (RetV w (.tuple #[.int .i64 (optI (hopF x a b)).1, .bool (optI (hopF x a b)).2])) := by
  obtain ⟨sv, rfl, h⟩ := h
  obtain ⟨k, d⟩ := x
  have h3 := h
  obtain ⟨A, c, rfl, hlc, hc⟩ := h
  clear hc
  simp only [RgV] at hk ha hb hn h3 hlc ⊢
  have hB0 := BK.made w 26 #[.int .i64 k, .slice A d.length c]
  have hW : Below w.heap.size w (w.alloc (.cells #[.int .i64 k, .slice A d.length c] 26)) := (Below.refl _ _).alloc (Nat.le_refl _) _
  have h4 := (h3.below hW).more hW.size
  obtain ⟨o, ho⟩ : ∃ o, o = wayP (fw d k) (gapF k b a) a := ⟨_, rfl⟩
  have hlen : ∀ l, o = some l → l.length ≤ 13 := by
    rintro l rfl
    have h1 := wayP_len ho.symm
    have h2 := (leadsF d k b hb).small a ha.1 ha.2
    omega
  show Calls _ _ _ _ (RetV w (.tuple #[.int .i64 (optI (hop (wayP (fw d k) (gapF k b a) a))).1, .bool (optI (hop (wayP (fw d k) (gapF k b a) a))).2]))
  rw [← ho]
  have HO := Lib.hid ho
  clear ho
  cases o with
  | none =>
    go_enter Try.func89, Try.ntmps89
    go_wp2_with fail
    refine (wayF_any _ ⟨k, d⟩ a b _ ⟨_, rfl, h4⟩ hk ha hb hn).mono ?_; rintro e w1 ⟨u, rfl, hu, hb1⟩
    rw [← HO.out] at hu ⊢
    simp only [optL] at hu ⊢
    go_wp2_with fail
    go_ret2
    exact ⟨rfl, hW.trans (hb1.mono hW.size)⟩
  | some l =>
    have hl := hlen l rfl
    clear hlen
    go_enter Try.func89, Try.ntmps89
    go_wp2_with fail
    refine (wayF_any _ ⟨k, d⟩ a b _ ⟨_, rfl, h4⟩ hk ha hb hn).mono ?_; rintro e w1 ⟨u, rfl, hu, hb1⟩
    rw [← HO.out] at hu ⊢
    simp only [optL] at hu ⊢
    obtain ⟨A2, c2, rfl, _, _⟩ := hu.ri
    go_wp2_with fail
    go_ret2
    exact ⟨rfl, hW.trans (hb1.mono hW.size)⟩
theorem hopsB_any (v : Value) (x : Rg) (a b : Int) (w : World) (h : RRg w w.heap.size v x) (hk : 2 ≤ x.k ∧ x.k ≤ 12) (ha : 0 ≤ a ∧ a < x.k) (hb : 0 ≤ b ∧ b < x.k) (hn : x.d.length ≤ 1048576) :
    Calls Try.prog 89 #[v, .int .i64 a, .int .i64 b, .func (.func 120) #[] #[]] w (RetV w (.tuple #[.int .i64 (optI (hopB x a b)).1, .bool (optI (hopB x a b)).2])) := by
  obtain ⟨sv, rfl, h⟩ := h
  obtain ⟨k, d⟩ := x
  have h3 := h
  obtain ⟨A, c, rfl, hlc, hc⟩ := h
  clear hc
  simp only [RgV] at hk ha hb hn h3 hlc ⊢
  have hB0 := BK.made w 26 #[.int .i64 k, .slice A d.length c]
  have hW : Below w.heap.size w (w.alloc (.cells #[.int .i64 k, .slice A d.length c] 26)) := (Below.refl _ _).alloc (Nat.le_refl _) _
  have h4 := (h3.below hW).more hW.size
  obtain ⟨o, ho⟩ : ∃ o, o = wayP (bw d k) (gapB k b a) a := ⟨_, rfl⟩
  have hlen : ∀ l, o = some l → l.length ≤ 13 := by
    rintro l rfl
    have h1 := wayP_len ho.symm
    have h2 := (leadsB d k b hb).small a ha.1 ha.2
    omega
  show Calls _ _ _ _ (RetV w (.tuple #[.int .i64 (optI (hop (wayP (bw d k) (gapB k b a) a))).1, .bool (optI (hop (wayP (bw d k) (gapB k b a) a))).2]))
  rw [← ho]
  have HO := Lib.hid ho
  clear ho
  cases o with
  | none =>
    go_enter Try.func89, Try.ntmps89
    go_wp2_with fail
    refine (wayB_any _ ⟨k, d⟩ a b _ ⟨_, rfl, h4⟩ hk ha hb hn).mono ?_; rintro e w1 ⟨u, rfl, hu, hb1⟩
    rw [← HO.out] at hu ⊢
    simp only [optL] at hu ⊢
    go_wp2_with fail
    go_ret2
    exact ⟨rfl, hW.trans (hb1.mono hW.size)⟩
  | some l =>
    have hl := hlen l rfl
    clear hlen
    go_enter Try.func89, Try.ntmps89
    go_wp2_with fail
    refine (wayB_any _ ⟨k, d⟩ a b _ ⟨_, rfl, h4⟩ hk ha hb hn).mono ?_; rintro e w1 ⟨u, rfl, hu, hb1⟩
    rw [← HO.out] at hu ⊢
    simp only [optL] at hu ⊢
    obtain ⟨A2, c2, rfl, _, _⟩ := hu.ri
    go_wp2_with fail
    go_ret2
    exact ⟨rfl, hW.trans (hb1.mono hW.size)⟩
set_option maxHeartbeats 1000000 in
theorem doubleHops_any (v : Value) (x : Rg) (a b : Int) (w : World) (h : RRg w w.heap.size v x) (hk : 2 ≤ x.k ∧ x.k ≤ 12) (ha : 0 ≤ a ∧ a < x.k) (hb : 0 ≤ b ∧ b < x.k) (hn : x.d.length ≤ 1048576) :
    Calls Try.prog 83 #[v, .int .i64 a, .int .i64 b] w (RetV w (.tuple #[.int .i64 (optI (lessO (hopF x a b) (hopF x b a))).1, .bool (optI (lessO (hopF x a b) (hopF x b a))).2])) := by
  obtain ⟨sv, rfl, h⟩ := h
  obtain ⟨k, d⟩ := x
  have h3 := h
  obtain ⟨A, c, rfl, hlc, hc⟩ := h
  clear hc
  simp only [RgV] at hk ha hb hn h3 hlc ⊢
  have hB0 := BK.made w 26 #[.int .i64 k, .slice A d.length c]
  have hW : Below w.heap.size w ((w.alloc (.cells #[.int .i64 k, .slice A d.length c] 26)).alloc (.cells #[.func (.func 90) #[] #[], .func (.func 120) #[] #[]] 97)) := ((Below.refl _ _).alloc (Nat.le_refl _) _).alloc (by simp) _
  have h4 := (h3.below hW).more hW.size
  have hB1 := hB0.alloc (.cells #[.func (.func 90) #[] #[], .func (.func 120) #[] #[]] 97)
  have hZ := BK.made (w.alloc (.cells #[.int .i64 k, .slice A d.length c] 26)) 97 #[.func (.func 90) #[] #[], .func (.func 120) #[] #[]]
  rw [World.size_alloc] at hZ
  have hbd := hopF_bd ⟨k, d⟩ a b ha hb
  have HF : Hid (∀ v w, RRg w w.heap.size v ⟨k, d⟩ → Calls Try.prog 89 #[v, .int .i64 a, .int .i64 b, .func (.func 90) #[] #[]] w (RetV w (.tuple #[.int .i64 (optI (hopF ⟨k, d⟩ a b)).1, .bool (optI (hopF ⟨k, d⟩ a b)).2]))) := by
    show ∀ v w, _
    intro v w h
    exact hopsF_any v ⟨k, d⟩ a b w h hk ha hb hn
  have HB : Hid (∀ v w, RRg w w.heap.size v ⟨k, d⟩ → Calls Try.prog 89 #[v, .int .i64 a, .int .i64 b, .func (.func 120) #[] #[]] w (RetV w (.tuple #[.int .i64 (optI (hopF ⟨k, d⟩ b a)).1, .bool (optI (hopF ⟨k, d⟩ b a)).2]))) := by
    show ∀ v w, _
    intro v w h
    have h5 := hopsB_any v ⟨k, d⟩ a b w h hk ha hb hn
    rw [hopB_eq ⟨k, d⟩ a b ha hb] at h5
    exact h5
  generalize hopF ⟨k, d⟩ a b = p at HF hbd ⊢
  generalize hopF ⟨k, d⟩ b a = q' at HB ⊢
  rcases p with _ | p <;> rcases q' with _ | q'
  · simp only [lessO, optI]
    go_enter Try.func83, Try.ntmps83
    go_wp2_with fail
    refine wp_loop_rounds 3 ?_
    rw [rounds_succ]
    go_wp2_with fail
    refine (HF.out _ _ ⟨_, rfl, h4⟩).mono ?_; rintro e w1 ⟨rfl, hb1⟩
    have q := hB1.step hb1
    have q0 := q.cell 0
    have q1 := q.cell 1
    have z := hZ.step hb1
    have z1 := z.cell 1
    have h5 := (h4.step hb1 (Nat.le_refl _)).more hb1.size
    have t1 := hW.trans (hb1.mono hW.size)
    simp at q0 q1 z1
    simp only [optI]
    go_wp2_with fail
    rw [rounds_succ]
    go_wp2_with fail
    refine (HB.out _ _ ⟨_, rfl, h5⟩).mono ?_; rintro e w2 ⟨rfl, hb2⟩
    have t2 := t1.trans (hb2.mono t1.size)
    simp only [optI]
    go_wp2_with fail
    rw [rounds_succ]
    go_wp2_with fail
    go_ret2
    exact ⟨rfl, t2⟩
  · simp only [lessO, optI]
    go_enter Try.func83, Try.ntmps83
    go_wp2_with fail
    refine wp_loop_rounds 3 ?_
    rw [rounds_succ]
    go_wp2_with fail
    refine (HF.out _ _ ⟨_, rfl, h4⟩).mono ?_; rintro e w1 ⟨rfl, hb1⟩
    have q := hB1.step hb1
    have q0 := q.cell 0
    have q1 := q.cell 1
    have z := hZ.step hb1
    have z1 := z.cell 1
    have h5 := (h4.step hb1 (Nat.le_refl _)).more hb1.size
    have t1 := hW.trans (hb1.mono hW.size)
    simp at q0 q1 z1
    simp only [optI]
    go_wp2_with fail
    rw [rounds_succ]
    go_wp2_with fail
    refine (HB.out _ _ ⟨_, rfl, h5⟩).mono ?_; rintro e w2 ⟨rfl, hb2⟩
    have t2 := t1.trans (hb2.mono t1.size)
    simp only [optI]
    go_wp2_with fail
    rw [rounds_succ]
    go_wp2_with fail
    go_ret2
    exact ⟨rfl, t2⟩
  · simp only [lessO, optI]
    go_enter Try.func83, Try.ntmps83
    go_wp2_with fail
    refine wp_loop_rounds 3 ?_
    rw [rounds_succ]
    go_wp2_with fail
    refine (HF.out _ _ ⟨_, rfl, h4⟩).mono ?_; rintro e w1 ⟨rfl, hb1⟩
    have q := hB1.step hb1
    have q0 := q.cell 0
    have q1 := q.cell 1
    have z := hZ.step hb1
    have z1 := z.cell 1
    have h5 := (h4.step hb1 (Nat.le_refl _)).more hb1.size
    have t1 := hW.trans (hb1.mono hW.size)
    simp at q0 q1 z1
    simp only [optI]
    go_wp2_with fail
    rw [rounds_succ]
    go_wp2_with fail
    refine (HB.out _ _ ⟨_, rfl, h5⟩).mono ?_; rintro e w2 ⟨rfl, hb2⟩
    have t2 := t1.trans (hb2.mono t1.size)
    simp only [optI]
    go_wp2_with fail
    rw [rounds_succ]
    go_wp2_with fail
    go_ret2
    exact ⟨rfl, t2⟩
  · by_cases hlt : q' < p
    · simp only [lessO, optI, if_pos hlt]
      go_enter Try.func83, Try.ntmps83
      go_wp2_with fail
      refine wp_loop_rounds 3 ?_
      rw [rounds_succ]
      go_wp2_with fail
      refine (HF.out _ _ ⟨_, rfl, h4⟩).mono ?_; rintro e w1 ⟨rfl, hb1⟩
      have q := hB1.step hb1
      have q0 := q.cell 0
      have q1 := q.cell 1
      have z := hZ.step hb1
      have z1 := z.cell 1
      have h5 := (h4.step hb1 (Nat.le_refl _)).more hb1.size
      have t1 := hW.trans (hb1.mono hW.size)
      simp at q0 q1 z1
      simp only [optI]
      go_wp2_with fail
      rw [rounds_succ]
      go_wp2_with fail
      refine (HB.out _ _ ⟨_, rfl, h5⟩).mono ?_; rintro e w2 ⟨rfl, hb2⟩
      have t2 := t1.trans (hb2.mono t1.size)
      simp only [optI]
      go_wp2_with fail
      rw [rounds_succ]
      go_wp2_with fail
      go_ret2
      exact ⟨rfl, t2⟩
    · simp only [lessO, optI, if_neg hlt]
      have hle : p ≤ q' := by omega
      go_enter Try.func83, Try.ntmps83
      go_wp2_with fail
      refine wp_loop_rounds 3 ?_
      rw [rounds_succ]
      go_wp2_with fail
      refine (HF.out _ _ ⟨_, rfl, h4⟩).mono ?_; rintro e w1 ⟨rfl, hb1⟩
      have q := hB1.step hb1
      have q0 := q.cell 0
      have q1 := q.cell 1
      have z := hZ.step hb1
      have z1 := z.cell 1
      have h5 := (h4.step hb1 (Nat.le_refl _)).more hb1.size
      have t1 := hW.trans (hb1.mono hW.size)
      simp at q0 q1 z1
      simp only [optI]
      go_wp2_with fail
      rw [rounds_succ]
      go_wp2_with fail
      refine (HB.out _ _ ⟨_, rfl, h5⟩).mono ?_; rintro e w2 ⟨rfl, hb2⟩
      have t2 := t1.trans (hb2.mono t1.size)
      simp only [optI]
      go_wp2_with fail
      rw [rounds_succ]
      go_wp2_with fail
      go_ret2
      exact ⟨rfl, t2⟩
set_option maxHeartbeats 1000000 in
theorem riDouble_any (v : Value) (x : Rg) (a b : Int) (w : World) (h : RRg w w.heap.size v x) (hk : 2 ≤ x.k ∧ x.k ≤ 12) (ha : 0 ≤ a ∧ a < x.k) (hb : 0 ≤ b ∧ b < x.k) (hn : x.d.length ≤ 1048576) :
    Calls Try.prog 85 #[v, .int .i64 a, .int .i64 b] w (RetV w (.int .i64 ((lessO (hopF x a b) (hopF x b a)).getD (-1)))) := by
  obtain ⟨sv, rfl, h⟩ := h
  obtain ⟨k, d⟩ := x
  have h3 := h
  obtain ⟨A, c, rfl, hlc, hc⟩ := h
  clear hc
  simp only [RgV] at hk ha hb hn h3 hlc ⊢
  have hB0 := BK.made w 26 #[.int .i64 k, .slice A d.length c]
  have hW : Below w.heap.size w (w.alloc (.cells #[.int .i64 k, .slice A d.length c] 26)) := (Below.refl _ _).alloc (Nat.le_refl _) _
  have h4 := (h3.below hW).more hW.size
  have bd1 : ∀ l, wayP (fw d k) (gapF k b a) a = some l → 1 ≤ l.length ∧ l.length ≤ 13 := by
    intro l hl
    have h1 := wayP_len hl
    have h2 := (leadsF d k b hb).small a ha.1 ha.2
    omega
  have bd2 : ∀ l, wayP (fw d k) (gapF k a b) b = some l → 1 ≤ l.length ∧ l.length ≤ 13 := by
    intro l hl
    have h1 := wayP_len hl
    have h2 := (leadsF d k a ha).small b hb.1 hb.2
    omega
  have HF : Hid (∀ v w, RRg w w.heap.size v ⟨k, d⟩ → Calls Try.prog 102 #[v, .int .i64 a, .int .i64 b] w (RetLB 3 w (optL (wayP (fw d k) (gapF k b a) a)).1 (optL (wayP (fw d k) (gapF k b a) a)).2)) := by
    show ∀ v w, _
    intro v w h
    exact riWay_any v ⟨k, d⟩ a b w h hk ha hb hn
  have HB : Hid (∀ v w, RRg w w.heap.size v ⟨k, d⟩ → Calls Try.prog 102 #[v, .int .i64 b, .int .i64 a] w (RetLB 3 w (optL (wayP (fw d k) (gapF k a b) b)).1 (optL (wayP (fw d k) (gapF k a b) b)).2)) := by
    show ∀ v w, _
    intro v w h
    exact riWay_any v ⟨k, d⟩ b a w h hk hb ha hn
  show Calls _ _ _ _ (RetV w (.int .i64 ((lessO (hop (wayP (fw d k) (gapF k b a) a)) (hop (wayP (fw d k) (gapF k a b) b))).getD (-1))))
  generalize wayP (fw d k) (gapF k b a) a = p at HF bd1 ⊢
  generalize wayP (fw d k) (gapF k a b) b = q' at HB bd2 ⊢

  rcases p with _ | p <;> rcases q' with _ | q'
  · simp only [lessO, hop, Option.map_none, Option.getD_none]
    go_enter Try.func85, Try.ntmps85
    go_wp2_with fail
    refine (HF.out _ _ ⟨_, rfl, h4⟩).mono ?_; rintro e w1 ⟨u, rfl, hu, hb1⟩
    have q := hB0.step hb1
    have q0 := q.cell 0
    have q1 := q.cell 1
    have h5 := (h4.step hb1 (Nat.le_refl _)).more hb1.size
    have t1 := hW.trans (hb1.mono hW.size)
    simp at q0 q1
    simp only [optL] at hu ⊢
    go_wp2_with fail
    refine (HB.out _ _ ⟨_, rfl, h5⟩).mono ?_; rintro e w2 ⟨u2, rfl, hu2, hb2⟩
    have t2 := t1.trans (hb2.mono t1.size)
    simp only [optL] at hu2 ⊢
    go_wp2_with fail
    go_ret
    exact ⟨rfl, t2⟩
  · have b2 := bd2 q' rfl
    simp only [lessO, hop, Option.map_none, Option.map_some, Option.getD_some]
    clear bd1 bd2
    go_enter Try.func85, Try.ntmps85
    go_wp2_with fail
    refine (HF.out _ _ ⟨_, rfl, h4⟩).mono ?_; rintro e w1 ⟨u, rfl, hu, hb1⟩
    have q := hB0.step hb1
    have q0 := q.cell 0
    have q1 := q.cell 1
    have h5 := (h4.step hb1 (Nat.le_refl _)).more hb1.size
    have t1 := hW.trans (hb1.mono hW.size)
    simp at q0 q1
    simp only [optL] at hu ⊢
    go_wp2_with fail
    refine (HB.out _ _ ⟨_, rfl, h5⟩).mono ?_; rintro e w2 ⟨u2, rfl, hu2, hb2⟩
    have t2 := t1.trans (hb2.mono t1.size)
    simp only [optL] at hu2 ⊢
    obtain ⟨A3, c3, rfl, _, _⟩ := hu2.ri
    go_wp2_with fail
    go_ret
    exact ⟨rfl, t2⟩
  · have b1 := bd1 p rfl
    simp only [lessO, hop, Option.map_none, Option.map_some, Option.getD_some]
    clear bd1 bd2
    go_enter Try.func85, Try.ntmps85
    go_wp2_with fail
    refine (HF.out _ _ ⟨_, rfl, h4⟩).mono ?_; rintro e w1 ⟨u, rfl, hu, hb1⟩
    have q := hB0.step hb1
    have q0 := q.cell 0
    have q1 := q.cell 1
    have h5 := (h4.step hb1 (Nat.le_refl _)).more hb1.size
    have t1 := hW.trans (hb1.mono hW.size)
    simp at q0 q1
    simp only [optL] at hu ⊢
    obtain ⟨A2, c2, rfl, _, _⟩ := hu.ri
    go_wp2_with fail
    refine (HB.out _ _ ⟨_, rfl, h5⟩).mono ?_; rintro e w2 ⟨u2, rfl, hu2, hb2⟩
    have t2 := t1.trans (hb2.mono t1.size)
    simp only [optL] at hu2 ⊢
    go_wp2_with fail
    go_ret
    exact ⟨rfl, t2⟩
  · have b1 := bd1 p rfl
    have b2 := bd2 q' rfl
    simp only [lessO, hop, Option.map_some, Option.getD_some]
    clear bd1 bd2
    by_cases hlt : (q'.length : Int) - 1 < (p.length : Int) - 1
    · rw [if_pos hlt]
      have hge : ¬ (p.length : Int) - 1 < 0 := by omega
      go_enter Try.func85, Try.ntmps85
      go_wp2_with fail
      refine (HF.out _ _ ⟨_, rfl, h4⟩).mono ?_; rintro e w1 ⟨u, rfl, hu, hb1⟩
      have q := hB0.step hb1
      have q0 := q.cell 0
      have q1 := q.cell 1
      have h5 := (h4.step hb1 (Nat.le_refl _)).more hb1.size
      have t1 := hW.trans (hb1.mono hW.size)
      simp at q0 q1
      simp only [optL] at hu ⊢
      obtain ⟨A2, c2, rfl, _, _⟩ := hu.ri
      go_wp2_with fail
      refine (HB.out _ _ ⟨_, rfl, h5⟩).mono ?_; rintro e w2 ⟨u2, rfl, hu2, hb2⟩
      have t2 := t1.trans (hb2.mono t1.size)
      simp only [optL] at hu2 ⊢
      obtain ⟨A3, c3, rfl, _, _⟩ := hu2.ri
      go_wp2_with fail
      go_ret
      exact ⟨rfl, t2⟩
    · rw [if_neg hlt]
      have hle : (p.length : Int) - 1 ≤ (q'.length : Int) - 1 := by omega
      have hge : ¬ (p.length : Int) - 1 < 0 := by omega
      go_enter Try.func85, Try.ntmps85
      go_wp2_with fail
      refine (HF.out _ _ ⟨_, rfl, h4⟩).mono ?_; rintro e w1 ⟨u, rfl, hu, hb1⟩
      have q := hB0.step hb1
      have q0 := q.cell 0
      have q1 := q.cell 1
      have h5 := (h4.step hb1 (Nat.le_refl _)).more hb1.size
      have t1 := hW.trans (hb1.mono hW.size)
      simp at q0 q1
      simp only [optL] at hu ⊢
      obtain ⟨A2, c2, rfl, _, _⟩ := hu.ri
      go_wp2_with fail
      refine (HB.out _ _ ⟨_, rfl, h5⟩).mono ?_; rintro e w2 ⟨u2, rfl, hu2, hb2⟩
      have t2 := t1.trans (hb2.mono t1.size)
      simp only [optL] at hu2 ⊢
      obtain ⟨A3, c3, rfl, _, _⟩ := hu2.ri
      go_wp2_with fail
      go_ret
      exact ⟨rfl, t2⟩
theorem implWayOf_any (v : Value) (x : Rg) (a b : Int) (w : World) (h : RRg w w.heap.size v x) (hn : x.d.length ≤ 1048576) (hxa : (Lit.int .i64 a).wf = true) (hxb : (Lit.int .i64 b).wf = true) :
    Calls Try.prog 44 #[v, .int .i64 a, .int .i64 b] w (RetLB 3 w (wayOf x a b).1 (wayOf x a b).2) := by
  obtain ⟨sv, rfl, h⟩ := h
  obtain ⟨k, d⟩ := x
  have h3 := h
  obtain ⟨A, c, rfl, hlc, hc⟩ := h
  clear hc
  simp only [RgV] at hn h3 hlc ⊢
  have hB0 := (BK.made w 26 #[.int .i64 k, .slice A d.length c]).alloc (.cells #[.int .i64 a, .int .i64 b] 3)
  have hW : Below w.heap.size w ((w.alloc (.cells #[.int .i64 k, .slice A d.length c] 26)).alloc (.cells #[.int .i64 a, .int .i64 b] 3)) := ((Below.refl _ _).alloc (Nat.le_refl _) _).alloc (by simp) _
  have h4 := (h3.below hW).more hW.size
  have hl := lit2 (w := w.alloc (.cells #[.int .i64 k, .slice A d.length c] 26)) (x := a) (y := b) (t := 3) (g := w.heap.size + 1) (World.size_alloc _ _).symm
  cases hg : chk2 ⟨k, d⟩ a b
  · rw [show wayOf ⟨k, d⟩ a b = ([], false) from by simp [wayOf, hg]]
    go_enter Try.func44, Try.ntmps44
    go_wp2_with fail
    refine (isRingWith_any _ _ ⟨k, d⟩ [a, b] _ ⟨_, rfl, h4⟩ hl hn (by simp)).mono ?_; rintro e w1 ⟨rfl, hb⟩
    rw [chk2_eq, hg]
    have T := hW.trans (hb.mono hW.size)
    go_wp2_with fail
    go_ret2
    exact ⟨_, rfl, .inl ⟨rfl, none, 0, rfl, by simp, fun _ => rfl⟩, T⟩
  · have hin := chk2_in hg
    simp only at hin
    rw [show wayOf ⟨k, d⟩ a b = optL (wayP (fw d k) (gapF k b a) a) from by simp [wayOf, hg]]
    go_enter Try.func44, Try.ntmps44
    go_wp2_with fail
    refine (isRingWith_any _ _ ⟨k, d⟩ [a, b] _ ⟨_, rfl, h4⟩ hl hn (by simp)).mono ?_; rintro e w1 ⟨rfl, hb⟩
    rw [chk2_eq, hg]
    have T := hW.trans (hb.mono hW.size)
    have q := hB0.step hb
    have q0 := q.cell 0
    have q1 := q.cell 1
    simp at q0 q1
    have h5 := (h4.step hb (Nat.le_refl _)).more hb.size
    go_wp2_with fail
    refine (wayF_any _ ⟨k, d⟩ a b _ ⟨_, rfl, h5⟩ hin.1 hin.2.1 hin.2.2 hn).mono ?_; rintro e w2 ⟨u, rfl, ho, hb2⟩
    have T2 := T.trans (hb2.mono T.size)
    go_wp2_with fail
    go_ret2
    exact ⟨_, rfl, ho.wide (Nat.le_trans hW.size hb.size) (Nat.le_refl _), T2⟩
theorem implHopsOf_any (v : Value) (x : Rg) (a b : Int) (w : World) (h : RRg w w.heap.size v x) (hn : x.d.length ≤ 1048576) (hxa : (Lit.int .i64 a).wf = true) (hxb : (Lit.int .i64 b).wf = true) :
    Calls Try.prog 32 #[v, .int .i64 a, .int .i64 b] w (RetV w (.tuple #[.int .i64 (hopsOf x a b).1, .bool (hopsOf x a b).2])) := by
  obtain ⟨sv, rfl, h⟩ := h
  obtain ⟨k, d⟩ := x
  have h3 := h
  obtain ⟨A, c, rfl, hlc, hc⟩ := h
  clear hc
  simp only [RgV] at hn h3 hlc ⊢
  have hB0 := (BK.made w 26 #[.int .i64 k, .slice A d.length c]).alloc (.cells #[.int .i64 a, .int .i64 b] 3)
  have hW : Below w.heap.size w ((w.alloc (.cells #[.int .i64 k, .slice A d.length c] 26)).alloc (.cells #[.int .i64 a, .int .i64 b] 3)) := ((Below.refl _ _).alloc (Nat.le_refl _) _).alloc (by simp) _
  have h4 := (h3.below hW).more hW.size
  have hl := lit2 (w := w.alloc (.cells #[.int .i64 k, .slice A d.length c] 26)) (x := a) (y := b) (t := 3) (g := w.heap.size + 1) (World.size_alloc _ _).symm
  cases hg : chk2 ⟨k, d⟩ a b
  · rw [show hopsOf ⟨k, d⟩ a b = (0, false) from by simp [hopsOf, hg]]
    go_enter Try.func32, Try.ntmps32
    go_wp2_with fail
    refine (isRingWith_any _ _ ⟨k, d⟩ [a, b] _ ⟨_, rfl, h4⟩ hl hn (by simp)).mono ?_; rintro e w1 ⟨rfl, hb⟩
    rw [chk2_eq, hg]
    have T := hW.trans (hb.mono hW.size)
    go_wp2_with fail
    go_ret2
    exact ⟨rfl, T⟩
  · have hin := chk2_in hg
    simp only at hin
    rw [show hopsOf ⟨k, d⟩ a b = optI (hopF ⟨k, d⟩ a b) from by simp [hopsOf, hg]]
    go_enter Try.func32, Try.ntmps32
    go_wp2_with fail
    refine (isRingWith_any _ _ ⟨k, d⟩ [a, b] _ ⟨_, rfl, h4⟩ hl hn (by simp)).mono ?_; rintro e w1 ⟨rfl, hb⟩
    rw [chk2_eq, hg]
    have T := hW.trans (hb.mono hW.size)
    have q := hB0.step hb
    have q0 := q.cell 0
    have q1 := q.cell 1
    simp at q0 q1
    have h5 := (h4.step hb (Nat.le_refl _)).more hb.size
    go_wp2_with fail
    refine (hopsF_any _ ⟨k, d⟩ a b _ ⟨_, rfl, h5⟩ hin.1 hin.2.1 hin.2.2 hn).mono ?_; rintro e w2 ⟨rfl, hb2⟩
    have T2 := T.trans (hb2.mono T.size)
    go_wp2_with fail
    go_ret2
    exact ⟨rfl, T2⟩
theorem implDoubleHops_any (v : Value) (x : Rg) (a b : Int) (w : World) (h : RRg w w.heap.size v x) (hn : x.d.length ≤ 1048576) (hxa : (Lit.int .i64 a).wf = true) (hxb : (Lit.int .i64 b).wf = true) :
    Calls Try.prog 47 #[v, .int .i64 a, .int .i64 b] w (RetV w (.tuple #[.int .i64 (dblHops x a b).1, .bool (dblHops x a b).2])) := by
  obtain ⟨sv, rfl, h⟩ := h
  obtain ⟨k, d⟩ := x
  have h3 := h
  obtain ⟨A, c, rfl, hlc, hc⟩ := h
  clear hc
  simp only [RgV] at hn h3 hlc ⊢
  have hB0 := (BK.made w 26 #[.int .i64 k, .slice A d.length c]).alloc (.cells #[.int .i64 a, .int .i64 b] 3)
  have hW : Below w.heap.size w ((w.alloc (.cells #[.int .i64 k, .slice A d.length c] 26)).alloc (.cells #[.int .i64 a, .int .i64 b] 3)) := ((Below.refl _ _).alloc (Nat.le_refl _) _).alloc (by simp) _
  have h4 := (h3.below hW).more hW.size
  have hl := lit2 (w := w.alloc (.cells #[.int .i64 k, .slice A d.length c] 26)) (x := a) (y := b) (t := 3) (g := w.heap.size + 1) (World.size_alloc _ _).symm
  cases hg : chk2 ⟨k, d⟩ a b
  · rw [show dblHops ⟨k, d⟩ a b = (0, false) from by simp [dblHops, hg]]
    go_enter Try.func47, Try.ntmps47
    go_wp2_with fail
    refine (isRingWith_any _ _ ⟨k, d⟩ [a, b] _ ⟨_, rfl, h4⟩ hl hn (by simp)).mono ?_; rintro e w1 ⟨rfl, hb⟩
    rw [chk2_eq, hg]
    have T := hW.trans (hb.mono hW.size)
    go_wp2_with fail
    go_ret2
    exact ⟨rfl, T⟩
  · have hin := chk2_in hg
    simp only at hin
    rw [show dblHops ⟨k, d⟩ a b = optI (lessO (hopF ⟨k, d⟩ a b) (hopF ⟨k, d⟩ b a)) from by simp [dblHops, hg]]
    go_enter Try.func47, Try.ntmps47
    go_wp2_with fail
    refine (isRingWith_any _ _ ⟨k, d⟩ [a, b] _ ⟨_, rfl, h4⟩ hl hn (by simp)).mono ?_; rintro e w1 ⟨rfl, hb⟩
    rw [chk2_eq, hg]
    have T := hW.trans (hb.mono hW.size)
    have q := hB0.step hb
    have q0 := q.cell 0
    have q1 := q.cell 1
    simp at q0 q1
    have h5 := (h4.step hb (Nat.le_refl _)).more hb.size
    go_wp2_with fail
    refine (doubleHops_any _ ⟨k, d⟩ a b _ ⟨_, rfl, h5⟩ hin.1 hin.2.1 hin.2.2 hn).mono ?_; rintro e w2 ⟨rfl, hb2⟩
    have T2 := T.trans (hb2.mono T.size)
    go_wp2_with fail
    go_ret2
    exact ⟨rfl, T2⟩
set_option maxHeartbeats 1000000 in
theorem specWayOf_any (v : Value) (x : Rg) (a b : Int) (w : World) (h : RRg w w.heap.size v x) (hn : x.d.length ≤ 1048576) (hxa : (Lit.int .i64 a).wf = true) (hxb : (Lit.int .i64 b).wf = true) :
    Calls Try.prog 45 #[v, .int .i64 a, .int .i64 b] w (RetLB 3 w (wayOf x a b).1 (wayOf x a b).2) := by
  obtain ⟨sv, rfl, h⟩ := h
  obtain ⟨k, d⟩ := x
  have h3 := h
  obtain ⟨A, c, rfl, hlc, hc⟩ := h
  clear hc
  simp only [RgV] at hn h3 hlc ⊢
  have hB0 := BK.made w 26 #[.int .i64 k, .slice A d.length c]
  have hW : Below w.heap.size w (w.alloc (.cells #[.int .i64 k, .slice A d.length c] 26)) := (Below.refl _ _).alloc (Nat.le_refl _) _
  have h4 := (h3.below hW).more hW.size
  cases h1 : (isRg ⟨k, d⟩ && wi a 0 (k - 1))
  · rw [show wayOf ⟨k, d⟩ a b = ([], false) from by simp [wayOf, chk2, h1]]
    go_enter Try.func45, Try.ntmps45
    go_wp2_with fail
    refine (riHas_any _ ⟨k, d⟩ a _ ⟨_, rfl, h4⟩ hn).mono ?_; rintro e w1 ⟨rfl, hb1⟩
    rw [h1]
    have T := hW.trans (hb1.mono hW.size)
    go_wp2_with fail
    go_ret2
    exact ⟨_, rfl, .inl ⟨rfl, none, 0, rfl, by simp, fun _ => rfl⟩, T⟩
  cases h2 : (isRg ⟨k, d⟩ && wi b 0 (k - 1))
  · rw [show wayOf ⟨k, d⟩ a b = ([], false) from by simp [wayOf, chk2, h2]]
    go_enter Try.func45, Try.ntmps45
    go_wp2_with fail
    refine (riHas_any _ ⟨k, d⟩ a _ ⟨_, rfl, h4⟩ hn).mono ?_; rintro e w1 ⟨rfl, hb1⟩
    rw [h1]
    have T1 := hW.trans (hb1.mono hW.size)
    have q := hB0.step hb1
    have q0 := q.cell 0
    have q1 := q.cell 1
    simp at q0 q1
    have h5 := (h4.step hb1 (Nat.le_refl _)).more hb1.size
    go_wp2_with fail
    refine (riHas_any _ ⟨k, d⟩ b _ ⟨_, rfl, h5⟩ hn).mono ?_; rintro e w2 ⟨rfl, hb2⟩
    rw [h2]
    have T := T1.trans (hb2.mono T1.size)
    go_wp2_with fail
    go_ret2
    exact ⟨_, rfl, .inl ⟨rfl, none, 0, rfl, by simp, fun _ => rfl⟩, T⟩
  have hg : chk2 ⟨k, d⟩ a b = true := by simp [chk2, h1, h2]
  have hin := chk2_in hg
  simp only at hin
  rw [show wayOf ⟨k, d⟩ a b = optL (wayP (fw d k) (gapF k b a) a) from by simp [wayOf, hg]]
  go_enter Try.func45, Try.ntmps45
  go_wp2_with fail
  refine (riHas_any _ ⟨k, d⟩ a _ ⟨_, rfl, h4⟩ hn).mono ?_; rintro e w1 ⟨rfl, hb1⟩
  rw [h1]
  have T1 := hW.trans (hb1.mono hW.size)
  have q := hB0.step hb1
  have q0 := q.cell 0
  have q1 := q.cell 1
  simp at q0 q1
  have h5 := (h4.step hb1 (Nat.le_refl _)).more hb1.size
  go_wp2_with fail
  refine (riHas_any _ ⟨k, d⟩ b _ ⟨_, rfl, h5⟩ hn).mono ?_; rintro e w2 ⟨rfl, hb2⟩
  rw [h2]
  have T2 := T1.trans (hb2.mono T1.size)
  have q' := q.step hb2
  have q2 := q'.cell 0
  have q3 := q'.cell 1
  simp at q2 q3
  have h6 := (h5.step hb2 (Nat.le_refl _)).more hb2.size
  go_wp2_with fail
  refine (riWay_any _ ⟨k, d⟩ a b _ ⟨_, rfl, h6⟩ hin.1 hin.2.1 hin.2.2 hn).mono ?_; rintro e w3 ⟨u, rfl, ho, hb3⟩
  have T3 := T2.trans (hb3.mono T2.size)
  go_wp2_with fail
  go_ret2
  exact ⟨_, rfl, ho.wide T2.size (Nat.le_refl _), T3⟩
set_option maxHeartbeats 1000000 in
theorem specDoubleHops_any (v : Value) (x : Rg) (a b : Int) (w : World) (h : RRg w w.heap.size v x) (hn : x.d.length ≤ 1048576) (hxa : (Lit.int .i64 a).wf = true) (hxb : (Lit.int .i64 b).wf = true) :
    Calls Try.prog 48 #[v, .int .i64 a, .int .i64 b] w (RetV w (.tuple #[.int .i64 (dblHops x a b).1, .bool (dblHops x a b).2])) := by
  obtain ⟨sv, rfl, h⟩ := h
  obtain ⟨k, d⟩ := x
  have h3 := h
  obtain ⟨A, c, rfl, hlc, hc⟩ := h
  clear hc
  simp only [RgV] at hn h3 hlc ⊢
  have hB0 := BK.made w 26 #[.int .i64 k, .slice A d.length c]
  have hW : Below w.heap.size w (w.alloc (.cells #[.int .i64 k, .slice A d.length c] 26)) := (Below.refl _ _).alloc (Nat.le_refl _) _
  have h4 := (h3.below hW).more hW.size
  cases h1 : (isRg ⟨k, d⟩ && wi a 0 (k - 1))
  · rw [show dblHops ⟨k, d⟩ a b = (0, false) from by simp [dblHops, chk2, h1]]
    go_enter Try.func48, Try.ntmps48
    go_wp2_with fail
    refine (riHas_any _ ⟨k, d⟩ a _ ⟨_, rfl, h4⟩ hn).mono ?_; rintro e w1 ⟨rfl, hb1⟩
    rw [h1]
    have T := hW.trans (hb1.mono hW.size)
    go_wp2_with fail
    go_ret2
    exact ⟨rfl, T⟩
  cases h2 : (isRg ⟨k, d⟩ && wi b 0 (k - 1))
  · rw [show dblHops ⟨k, d⟩ a b = (0, false) from by simp [dblHops, chk2, h2]]
    go_enter Try.func48, Try.ntmps48
    go_wp2_with fail
    refine (riHas_any _ ⟨k, d⟩ a _ ⟨_, rfl, h4⟩ hn).mono ?_; rintro e w1 ⟨rfl, hb1⟩
    rw [h1]
    have T1 := hW.trans (hb1.mono hW.size)
    have q := hB0.step hb1
    have q0 := q.cell 0
    have q1 := q.cell 1
    simp at q0 q1
    have h5 := (h4.step hb1 (Nat.le_refl _)).more hb1.size
    go_wp2_with fail
    refine (riHas_any _ ⟨k, d⟩ b _ ⟨_, rfl, h5⟩ hn).mono ?_; rintro e w2 ⟨rfl, hb2⟩
    rw [h2]
    have T := T1.trans (hb2.mono T1.size)
    go_wp2_with fail
    go_ret2
    exact ⟨rfl, T⟩
  have hg : chk2 ⟨k, d⟩ a b = true := by simp [chk2, h1, h2]
  have hin := chk2_in hg
  simp only at hin
  rw [show dblHops ⟨k, d⟩ a b = optI (lessO (hopF ⟨k, d⟩ a b) (hopF ⟨k, d⟩ b a)) from by simp [dblHops, hg]]
  have bd : ∀ n, lessO (hopF ⟨k, d⟩ a b) (hopF ⟨k, d⟩ b a) = some n → 0 ≤ n := by
    have b1 := hopF_bd ⟨k, d⟩ a b hin.2.1 hin.2.2
    have b2 := hopF_bd ⟨k, d⟩ b a hin.2.2 hin.2.1
    generalize hopF ⟨k, d⟩ a b = p at b1 ⊢
    generalize hopF ⟨k, d⟩ b a = q at b2 ⊢
    intro n hn
    cases p <;> cases q <;> simp only [lessO] at hn
    · cases hn
    · exact (b2 n hn).1
    · exact (b1 n hn).1
    · split at hn
      · exact (b2 n hn).1
      · exact (b1 n hn).1
  have HD : Hid (∀ v w, RRg w w.heap.size v ⟨k, d⟩ → Calls Try.prog 85 #[v, .int .i64 a, .int .i64 b] w (RetV w (.int .i64 ((lessO (hopF ⟨k, d⟩ a b) (hopF ⟨k, d⟩ b a)).getD (-1))))) := by
    show ∀ v w, _
    intro v w h
    exact riDouble_any v ⟨k, d⟩ a b w h hin.1 hin.2.1 hin.2.2 hn
  generalize lessO (hopF ⟨k, d⟩ a b) (hopF ⟨k, d⟩ b a) = o at bd HD ⊢
  cases o with
  | none =>
    simp only [optI, Option.getD_none] at HD ⊢
    go_enter Try.func48, Try.ntmps48
    go_wp2_with fail
    refine (riHas_any _ ⟨k, d⟩ a _ ⟨_, rfl, h4⟩ hn).mono ?_; rintro e w1 ⟨rfl, hb1⟩
    rw [h1]
    have T1 := hW.trans (hb1.mono hW.size)
    have q := hB0.step hb1
    have q0 := q.cell 0
    have q1 := q.cell 1
    simp at q0 q1
    have h5 := (h4.step hb1 (Nat.le_refl _)).more hb1.size
    go_wp2_with fail
    refine (riHas_any _ ⟨k, d⟩ b _ ⟨_, rfl, h5⟩ hn).mono ?_; rintro e w2 ⟨rfl, hb2⟩
    rw [h2]
    have T2 := T1.trans (hb2.mono T1.size)
    have q' := q.step hb2
    have q2 := q'.cell 0
    have q3 := q'.cell 1
    simp at q2 q3
    have h6 := (h5.step hb2 (Nat.le_refl _)).more hb2.size
    go_wp2_with fail
    refine (HD.out _ _ ⟨_, rfl, h6⟩).mono ?_; rintro e w3 ⟨rfl, hb3⟩
    have T3 := T2.trans (hb3.mono T2.size)
    go_wp2_with fail
    refine (l1Most_any _ _ _).mono ?_; rintro e w' ⟨rfl, rfl⟩
    go_wp2_with fail
    go_ret2
    exact ⟨rfl, T3⟩
  | some n =>
    have hn0 := bd n rfl
    clear bd
    simp only [optI, Option.getD_some] at HD ⊢
    go_enter Try.func48, Try.ntmps48
    go_wp2_with fail
    refine (riHas_any _ ⟨k, d⟩ a _ ⟨_, rfl, h4⟩ hn).mono ?_; rintro e w1 ⟨rfl, hb1⟩
    rw [h1]
    have T1 := hW.trans (hb1.mono hW.size)
    have q := hB0.step hb1
    have q0 := q.cell 0
    have q1 := q.cell 1
    simp at q0 q1
    have h5 := (h4.step hb1 (Nat.le_refl _)).more hb1.size
    go_wp2_with fail
    refine (riHas_any _ ⟨k, d⟩ b _ ⟨_, rfl, h5⟩ hn).mono ?_; rintro e w2 ⟨rfl, hb2⟩
    rw [h2]
    have T2 := T1.trans (hb2.mono T1.size)
    have q' := q.step hb2
    have q2 := q'.cell 0
    have q3 := q'.cell 1
    simp at q2 q3
    have h6 := (h5.step hb2 (Nat.le_refl _)).more hb2.size
    go_wp2_with fail
    refine (HD.out _ _ ⟨_, rfl, h6⟩).mono ?_; rintro e w3 ⟨rfl, hb3⟩
    have T3 := T2.trans (hb3.mono T2.size)
    go_wp2_with fail
    refine (l1Most_any _ _ _).mono ?_; rintro e w' ⟨rfl, rfl⟩
    rw [if_neg (by omega)]
    go_wp2_with fail
    go_ret2
    exact ⟨rfl, T3⟩
theorem specHopsOf_any (v : Value) (x : Rg) (a b : Int) (w : World) (h : RRg w w.heap.size v x) (hn : x.d.length ≤ 1048576) (hxa : (Lit.int .i64 a).wf = true) (hxb : (Lit.int .i64 b).wf = true) :
    Calls Try.prog 46 #[v, .int .i64 a, .int .i64 b] w (RetV w (.tuple #[.int .i64 (hopsOf x a b).1, .bool (hopsOf x a b).2])) := by
  obtain ⟨sv, rfl, h⟩ := h
  obtain ⟨k, d⟩ := x
  have h3 := h
  obtain ⟨A, c, rfl, hlc, hc⟩ := h
  clear hc
  simp only [RgV] at hn h3 hlc ⊢
  have hB0 := BK.made w 26 #[.int .i64 k, .slice A d.length c]
  have hW : Below w.heap.size w (w.alloc (.cells #[.int .i64 k, .slice A d.length c] 26)) := (Below.refl _ _).alloc (Nat.le_refl _) _
  have h4 := (h3.below hW).more hW.size
  have HWY : Hid (∀ v w, RRg w w.heap.size v ⟨k, d⟩ → Calls Try.prog 45 #[v, .int .i64 a, .int .i64 b] w (RetLB 3 w (wayOf ⟨k, d⟩ a b).1 (wayOf ⟨k, d⟩ a b).2)) := by
    show ∀ v w, _
    intro v w h
    exact specWayOf_any v ⟨k, d⟩ a b w h hn hxa hxb
  obtain ⟨o, h1, h2, h3'⟩ : ∃ o : Option (List Int), wayOf ⟨k, d⟩ a b = optL o ∧ hopsOf ⟨k, d⟩ a b = optI (hop o) ∧ ∀ l, o = some l → 1 ≤ l.length ∧ l.length ≤ 13 := by
    cases hg : chk2 ⟨k, d⟩ a b
    · exact ⟨none, by simp [wayOf, hg, optL], by simp [hopsOf, hg, optI, hop], fun l h => by cases h⟩
    · have hin := chk2_in hg
      simp only at hin
      refine ⟨wayP (fw d k) (gapF k b a) a, by simp [wayOf, hg], by simp [hopsOf, hg, hopF], fun l hl => ?_⟩
      have h1 := wayP_len hl
      have h2 := (leadsF d k b hin.2.2).small a hin.2.1.1 hin.2.1.2
      omega
  rw [h2]
  rw [h1] at HWY
  clear h1 h2
  cases o with
  | none =>
    clear h3'
    simp only [optL, optI, hop, Option.map_none] at HWY ⊢
    go_enter Try.func46, Try.ntmps46
    go_wp2_with fail
    refine (HWY.out _ _ ⟨_, rfl, h4⟩).mono ?_; rintro e w1 ⟨u, rfl, hu, hb1⟩
    obtain ⟨A2, c2, rfl, _, _⟩ := hu.ri
    have T := hW.trans (hb1.mono hW.size)
    go_wp2_with fail
    refine (l1Most_any _ _ _).mono ?_; rintro e w' ⟨rfl, rfl⟩
    go_wp2_with fail
    go_ret2
    exact ⟨rfl, T⟩
  | some l =>
    have hl := h3' l rfl
    clear h3'
    simp only [optL, optI, hop, Option.map_some] at HWY ⊢
    go_enter Try.func46, Try.ntmps46
    go_wp2_with fail
    refine (HWY.out _ _ ⟨_, rfl, h4⟩).mono ?_; rintro e w1 ⟨u, rfl, hu, hb1⟩
    obtain ⟨A2, c2, rfl, _, _⟩ := hu.ri
    have T := hW.trans (hb1.mono hW.size)
    go_wp2_with fail
    refine (l1Most_any _ _ _).mono ?_; rintro e w' ⟨rfl, rfl⟩
    rw [if_neg (by omega)]
    go_wp2_with fail
    go_ret2
    exact ⟨rfl, T⟩
end Go.Proofs.Ytifebadcfopfkaa
