/-
  Slot rings and messages as data: the conditions and the numbers that both sides give.
-/
import Derived.Test.YtehmhkbiofndaaaIn
namespace Go.Proofs.Ytehmhkbiofndaaa
open Go.RowKit
set_option maxRecDepth 100000
set_option linter.unusedVariables false

/-- A slot ring as data. -/
structure Sr where
  n : Int
  h : Bool
def SrV (x : Sr) : Value := .agg #[.int .i64 x.n, .bool x.h]
def isSr (x : Sr) : Bool := wi x.n 2 12
theorem isSr_in {x : Sr} (h : isSr x = true) : 2 ≤ x.n ∧ x.n ≤ 12 := by simpa [isSr, wi] using h
/-- A message as data. -/
structure Ms where
  t : Int
  f : Int
  o : Int
instance : Inhabited Ms := ⟨⟨0, 0, 0⟩⟩
def MsV (x : Ms) : Value := .agg #[.int .i64 x.t, .int .i64 x.f, .int .i64 x.o]
/-- A message's stations. -/
def msOk (k : Int) (x : Ms) : Bool := wi x.f 0 (k - 1) && (wi x.o 0 (k - 1) && decide (x.f ≠ x.o))
/-- The messages from here on, the one before them being at e. -/
def msFrom (k : Int) : Int → List Ms → Bool
  | _, [] => true
  | e, x :: l => wi x.t e 100 && (msOk k x && msFrom k x.t l)
def areMs (k : Int) (l : List Ms) : Bool := decide (l.length ≤ 20) && msFrom k 0 l
theorem areMs_long {k : Int} {l : List Ms} (h : 20 < l.length) : areMs k l = false := by simp [areMs]; omega
theorem areMs_short {k : Int} {l : List Ms} (h : l.length ≤ 20) : areMs k l = msFrom k 0 l := by simp [areMs, h]
theorem msFrom_all {k e : Int} {l : List Ms} (h : msFrom k e l = true) : ∀ x ∈ l, e ≤ x.t ∧ x.t ≤ 100 ∧ 0 ≤ x.f ∧ x.f ≤ k - 1 ∧ 0 ≤ x.o ∧ x.o ≤ k - 1 ∧ x.f ≠ x.o := by
  induction l generalizing e with
  | nil => intro x hx; cases hx
  | cons y l ih =>
    have h1 : wi y.t e 100 = true ∧ msOk k y = true ∧ msFrom k y.t l = true := by simpa [msFrom] using h
    have h2 : e ≤ y.t ∧ y.t ≤ 100 := by simpa [wi] using h1.1
    have h3 : (0 ≤ y.f ∧ y.f ≤ k - 1) ∧ (0 ≤ y.o ∧ y.o ≤ k - 1) ∧ y.f ≠ y.o := by simpa [msOk, wi] using h1.2.1
    intro x hx
    rcases List.mem_cons.1 hx with rfl | hx
    · exact ⟨h2.1, h2.2, h3.1.1, h3.1.2, h3.2.1.1, h3.2.1.2, h3.2.2⟩
    · have := ih h1.2.2 x hx
      exact ⟨by omega, this.2⟩
theorem msFrom_sorted {k e : Int} {l : List Ms} (h : msFrom k e l = true) : l.Pairwise fun x y => x.t ≤ y.t := by
  induction l generalizing e with
  | nil => exact .nil
  | cons y l ih =>
    have h1 : wi y.t e 100 = true ∧ msOk k y = true ∧ msFrom k y.t l = true := by simpa [msFrom] using h
    exact List.pairwise_cons.2 ⟨fun x hx => (msFrom_all h1.2.2 x hx).1, ih h1.2.2⟩
/-- What messages keep. -/
def MsIn (k : Int) (x : Ms) : Prop := 0 ≤ x.t ∧ x.t ≤ 100 ∧ 0 ≤ x.f ∧ x.f ≤ k - 1 ∧ 0 ≤ x.o ∧ x.o ≤ k - 1 ∧ x.f ≠ x.o
theorem areMs_in {k : Int} {l : List Ms} (h : areMs k l = true) : l.length ≤ 20 ∧ (∀ x ∈ l, MsIn k x) ∧ l.Pairwise fun x y => x.t ≤ y.t := by
  have h1 : l.length ≤ 20 ∧ msFrom k 0 l = true := by simpa [areMs] using h
  exact ⟨h1.1, msFrom_all h1.2, msFrom_sorted h1.2⟩
def slOk (x : Sr) (l : List Ms) : Bool := isSr x && areMs x.n l
theorem slOk_in {x : Sr} {l : List Ms} (h : slOk x l = true) : isSr x = true ∧ areMs x.n l = true := by simpa [slOk] using h
def areMsOf (x : Sr) (l : List Ms) : Bool × Bool := if isSr x then (areMs x.n l, true) else (false, false)
theorem areMsOf_no {x : Sr} {l : List Ms} (h : isSr x = false) : areMsOf x l = (false, false) := by simp [areMsOf, h]
theorem areMsOf_yes {x : Sr} {l : List Ms} (h : isSr x = true) : areMsOf x l = (areMs x.n l, true) := by simp [areMsOf, h]
/-- Over how many links a message goes. -/
def hopsI (k : Int) (x : Ms) : Int := (x.o - x.f + k).tmod k
theorem hopsI_in {k : Int} {x : Ms} (hk : 2 ≤ k) (h : MsIn k x) : 1 ≤ hopsI k x ∧ hopsI k x ≤ k - 1 ∧ (hopsI k x = x.o - x.f ∨ hopsI k x = x.o - x.f + k) := by
  obtain ⟨_, _, h1, h2, h3, h4, h5⟩ := h
  unfold hopsI
  rw [Int.tmod_eq_emod_of_nonneg (by omega)]
  rcases Int.lt_or_le x.o x.f with hlt | hlt
  · rw [Int.emod_eq_of_lt (by omega) (by omega)]; omega
  · rw [Int.add_emod_right, Int.emod_eq_of_lt (by omega) (by omega)]; omega
def hopsMs (x : Sr) (t f o : Int) : Int × Bool := if slOk x [⟨t, f, o⟩] then (hopsI x.n ⟨t, f, o⟩, true) else (0, false)
theorem hopsMs_no {x : Sr} {t f o : Int} (h : slOk x [⟨t, f, o⟩] = false) : hopsMs x t f o = (0, false) := by simp [hopsMs, h]
theorem hopsMs_yes {x : Sr} {t f o : Int} (h : slOk x [⟨t, f, o⟩] = true) : hopsMs x t f o = (hopsI x.n ⟨t, f, o⟩, true) := by simp [hopsMs, h]
/-- The tick of the one before. -/
def prevM (l : List Ms) : Nat → Int
  | 0 => 0
  | j + 1 => l[j]!.t
def slBound (x : Sr) (l : List Ms) : Int × Bool := if slOk x l then (if l.length = 0 then 0 else prevM l l.length + 2 * x.n * l.length, true) else (0, false)
theorem slBound_no {x : Sr} {l : List Ms} (h : slOk x l = false) : slBound x l = (0, false) := by simp [slBound, h]
theorem slBound_yes {x : Sr} {l : List Ms} (h : slOk x l = true) : slBound x l = (if l.length = 0 then 0 else prevM l l.length + 2 * x.n * l.length, true) := by simp [slBound, h]
def turnMs (k by_ : Int) (x : Ms) : Ms := ⟨x.t, (x.f + by_).tmod k, (x.o + by_).tmod k⟩
def turned (x : Sr) (l : List Ms) (b : Int) : List Ms × Bool := if slOk x l && wi b 0 (x.n - 1) then (l.map (turnMs x.n b), true) else ([], false)
theorem turned_no {x : Sr} {l : List Ms} {b : Int} (h : (slOk x l && wi b 0 (x.n - 1)) = false) : turned x l b = ([], false) := by simp only [turned, h]; rfl
theorem turned_yes {x : Sr} {l : List Ms} {b : Int} (h : (slOk x l && wi b 0 (x.n - 1)) = true) : turned x l b = (l.map (turnMs x.n b), true) := by simp only [turned, h, if_true]
theorem turned_len (x : Sr) (l : List Ms) (b : Int) : (turned x l b).1.length ≤ 1048576 := by
  cases h : (slOk x l && wi b 0 (x.n - 1))
  · rw [turned_no h]; simp
  · rw [turned_yes h]
    simp only [Bool.and_eq_true] at h
    have := (areMs_in (slOk_in h.1).2).1
    simp; omega
/-- One more at a place. -/
def bump (L : List Int) (j : Nat) : List Int := L.set j (L.getD j 0 + 1)
/-- The loads when a message has gone over d links from f on. -/
def walkL (n f : Nat) (L : List Int) : Nat → List Int
  | 0 => L
  | d + 1 => bump (walkL n f L d) ((f + d) % n)
def loadMs (k : Int) (L : List Int) (x : Ms) : List Int := walkL k.toNat x.f.toNat L (hopsI k x).toNat
def loadsOf (k : Int) (l : List Ms) : List Int := l.foldl (loadMs k) (List.replicate k.toNat 0)
def loads (x : Sr) (l : List Ms) : List Int × Bool := if slOk x l then (loadsOf x.n l, true) else ([], false)
theorem loads_no {x : Sr} {l : List Ms} (h : slOk x l = false) : loads x l = ([], false) := by simp only [loads, h]; rfl
theorem loads_yes {x : Sr} {l : List Ms} (h : slOk x l = true) : loads x l = (loadsOf x.n l, true) := by simp only [loads, h, if_true]
theorem bump_length (L : List Int) (j : Nat) : (bump L j).length = L.length := by simp [bump]
theorem walkL_length (n f : Nat) (L : List Int) (d : Nat) : (walkL n f L d).length = L.length := by
  induction d with
  | zero => rfl
  | succ d ih => rw [walkL, bump_length, ih]
theorem foldl_load_length (k : Int) (l : List Ms) (L : List Int) : (l.foldl (loadMs k) L).length = L.length := by
  induction l generalizing L with
  | nil => rfl
  | cons x l ih => rw [List.foldl_cons, ih]; exact walkL_length _ _ _ _
theorem loadsOf_length (k : Int) (l : List Ms) : (loadsOf k l).length = k.toNat := by rw [loadsOf, foldl_load_length, List.length_replicate]
theorem loads_len (x : Sr) (l : List Ms) : (loads x l).1.length ≤ 1048576 := by
  cases h : slOk x l
  · rw [loads_no h]; simp
  · rw [loads_yes h]
    have := isSr_in (slOk_in h).1
    simp [loadsOf_length]; omega
/-- All entries are within bounds. -/
def Upto (B : Int) (L : List Int) : Prop := ∀ j, 0 ≤ L.getD j 0 ∧ L.getD j 0 ≤ B
theorem bump_upto {B : Int} {L : List Int} (h : Upto B L) (j : Nat) : Upto (B + 1) (bump L j) := by
  intro i
  have h1 := h i
  have h2 := h j
  unfold bump
  rw [List.getD_eq_getElem?_getD, List.getElem?_set]
  split
  · split
    · simp only [Option.getD_some]; omega
    · simp only [Option.getD_none]; omega
  · rw [← List.getD_eq_getElem?_getD]; omega
theorem walkL_upto {B : Int} {L : List Int} (n f : Nat) (h : Upto B L) (d : Nat) : Upto (B + d) (walkL n f L d) := by
  induction d with
  | zero => rw [walkL]; simpa using h
  | succ d ih =>
    have := bump_upto ih ((f + d) % n)
    rw [show B + ((d + 1 : Nat) : Int) = B + (d : Int) + 1 by omega]
    exact this
/-- The station that a message is at when it has gone over d links is its last one only at the end. -/
theorem at_end {k : Int} {x : Ms} (hk : 2 ≤ k) (h : MsIn k x) (d : Nat) (hd : (d : Int) ≤ hopsI k x) : ((((x.f.toNat + d) % k.toNat : Nat) : Int) = x.o ↔ (d : Int) = hopsI k x) := by
  have h1 := hopsI_in hk h
  obtain ⟨_, _, h2, h3, h4, h5, h6⟩ := h
  have e : (((x.f.toNat + d) % k.toNat : Nat) : Int) = (x.f + d) % k := by
    rw [Int.natCast_emod]; congr 1 <;> omega
  rw [e]
  rcases Int.lt_or_le (x.f + d) k with hlt | hlt
  · rw [Int.emod_eq_of_lt (by omega) hlt]; omega
  · rw [← Int.sub_emod_right, Int.emod_eq_of_lt (by omega) (by omega)]; omega
theorem next_at (n f d : Nat) : ((f + d) % n + 1) % n = (f + (d + 1)) % n := by rw [Nat.mod_add_mod]; rfl
end Go.Proofs.Ytehmhkbiofndaaa
