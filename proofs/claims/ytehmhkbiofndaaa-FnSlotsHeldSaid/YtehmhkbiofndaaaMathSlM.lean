/-
  Turned messages are filled at the same ticks: mathematics of FnSlotsHeld. Slots that are held: mathematics of FnSlotsHeld. Turned messages: what FilledAt and ReadAt say of them; queues' lengths: mathematics of FnSlotsHeld. What the law FnSlotsHeld goes by.
-/
import Derived.Test.YtehmhkbiofndaaaMathWl
import Derived.Test.YtehmhkbiofndaaaSlotsXM
import Derived.Test.YtehmhkbiofndaaaReadX
import Derived.Test.YtehmhkbiofndaaaMathSg
import Derived.Test.YtehmhkbiofndaaaQuFu
namespace Go.Proofs.Ytehmhkbiofndaaa
section
open Go.RowKit
set_option maxRecDepth 100000
set_option linter.unusedVariables false

/-- One walk is another's, turned by b stations. -/
structure Sw.Turn (x y : Sw) (b : Nat) : Prop where
  n : y.n = x.n
  len : y.len = x.len
  home : y.home = x.home
  tk : ∀ i, i < x.len → y.tk i = x.tk i
  fr : ∀ i, i < x.len → y.fr i = (x.fr i + b) % x.n
  to_ : ∀ i, i < x.len → y.to_ i = (x.to_ i + b) % x.n
theorem turn_at {n s c : Nat} (hs : s < n) (hc : c < n) : (s + c) % n = if s + c < n then s + c else s + c - n := by
  split
  · rw [Nat.mod_eq_of_lt (by omega)]
  · rw [Nat.mod_eq_sub_mod (by omega), Nat.mod_eq_of_lt (by omega)]
theorem turn_inj {n b s r : Nat} (hs : s < n) (hr : r < n) : (s + b) % n = (r + b) % n ↔ s = r := by
  constructor
  · intro h
    have hb : b % n < n := Nat.mod_lt _ (by omega)
    rw [← Nat.add_mod_mod s b n, ← Nat.add_mod_mod r b n, turn_at hs hb, turn_at hr hb] at h
    split at h <;> split at h <;> omega
  · intro h; rw [h]
theorem find_congr {p q : Nat → Bool} {L : List Nat} (h : ∀ i ∈ L, p i = q i) : L.find? p = L.find? q := by
  induction L with
  | nil => rfl
  | cons i L ih =>
    rw [List.find?_cons, List.find?_cons, h i (by simp), ih (fun j hj => h j (by simp [hj]))]
theorem Sw.Turn.next {x y : Sw} {b : Nat} (hT : Sw.Turn x y b) (hx : x.Ok) {F G : Nat → Int} {s t : Nat} (hs : s < x.n) (hFG : ∀ i, i < x.len → G i = F i) : y.next G ((s + b) % x.n) t = x.next F s t := by
  unfold Sw.next
  rw [hT.len]
  refine find_congr fun i hi => ?_
  have hi := List.mem_range.1 hi
  rw [hT.fr i hi, hT.tk i hi, hFG i hi, decide_eq_decide, turn_inj (hx.frn i hi) hs]
theorem Sw.Turn.frees {x y : Sw} {b : Nat} (hT : Sw.Turn x y b) (hx : x.Ok) {s c : Nat} (hs : s < x.n) (hc : c - 1 < x.len) : y.frees ((s + b) % x.n) c = x.frees s c := by
  unfold Sw.frees
  rw [hT.home, hT.fr _ hc, hT.to_ _ hc]
  split
  · rw [decide_eq_decide, turn_inj (hx.frn _ hc) hs]
  · rw [decide_eq_decide, turn_inj (hx.ton _ hc) hs]
theorem Sw.Turn.fills {x y : Sw} {b : Nat} (hT : Sw.Turn x y b) (hx : x.Ok) {F G : Nat → Int} {s t c : Nat} (hs : s < x.n) (hFG : ∀ i, i < x.len → G i = F i) (hc : c = 0 ∨ c - 1 < x.len) : y.fills G ((s + b) % x.n) t c = x.fills F s t c := by
  unfold Sw.fills
  rw [hT.next hx hs hFG, hT.home]
  rcases hc with hc | hc
  · rw [if_pos hc, if_pos hc]
  · rw [hT.frees hx hs hc]
theorem Sw.Turn.newc {x y : Sw} {b : Nat} (hT : Sw.Turn x y b) (hx : x.Ok) {F G : Nat → Int} {s t c : Nat} (hs : s < x.n) (hFG : ∀ i, i < x.len → G i = F i) (hc : c = 0 ∨ c - 1 < x.len) : y.newc G ((s + b) % x.n) t c = x.newc F s t c := by
  unfold Sw.newc
  rw [hT.fills hx hs hFG hc]
  rcases hc with hc | hc
  · subst hc; rfl
  · rw [hT.frees hx hs hc]
theorem Sw.S_in {x : Sw} (hx : x.Ok) (t k : Nat) (hk : k < x.n) : x.S t k = 0 ∨ x.S t k - 1 < x.len := by
  by_cases h : x.S t k = 0
  · exact .inl h
  · obtain ⟨i, f, h1, h2, _⟩ := (Sw.inv_run hx t).slot k hk h
    have h3 : x.S t k = i + 1 := h1
    exact .inr (by omega)
theorem Sw.Turn.run {x y : Sw} {b : Nat} (hT : Sw.Turn x y b) (hx : x.Ok) (t : Nat) : (∀ k, k < x.n → y.S t ((k + b) % x.n) = x.S t k) ∧ (∀ i, i < x.len → y.F t i = x.F t i) := by
  have hn := hx.n2
  induction t with
  | zero => exact ⟨fun _ _ => rfl, fun _ _ => rfl⟩
  | succ t ih =>
    obtain ⟨hS, hF⟩ := ih
    constructor
    · intro k hk
      have e1 : y.S (t + 1) ((k + b) % x.n) = y.newc (y.F t) (((k + b) % x.n + t) % y.n) t (y.S t ((k + b) % x.n)) := rfl
      have e2 : x.S (t + 1) k = x.newc (x.F t) ((k + t) % x.n) t (x.S t k) := rfl
      have e3 : ((k + b) % x.n + t) % x.n = ((k + t) % x.n + b) % x.n := by rw [Nat.mod_add_mod, Nat.mod_add_mod]; congr 1; omega
      rw [e1, e2, hT.n, e3, hS k hk]
      exact hT.newc hx (Nat.mod_lt _ (by omega)) hF (Sw.S_in hx t k hk)
    · intro i hi
      have e1 : y.F (t + 1) i = if y.fills (y.F t) (y.fr i) t (y.S t (y.kof (y.fr i) t)) = some i then (t : Int) else y.F t i := rfl
      have e2 : x.F (t + 1) i = if x.fills (x.F t) (x.fr i) t (x.S t (x.kof (x.fr i) t)) = some i then (t : Int) else x.F t i := rfl
      have hm : t % x.n < x.n := Nat.mod_lt _ (by omega)
      have e3 : y.kof (y.fr i) t = (x.kof (x.fr i) t + b) % x.n := by
        unfold Sw.kof
        rw [hT.n, hT.fr i hi, Nat.add_sub_assoc (by omega), Nat.add_sub_assoc (by omega), Nat.mod_add_mod, Nat.mod_add_mod]
        congr 1
        omega
      have hk := Sw.kof_lt hx (x.fr i) t
      rw [e1, e2, e3, hS _ hk, hF i hi, hT.fr i hi, hT.fills hx (hx.frn i hi) hF (Sw.S_in hx t _ hk)]
theorem Sw.Turn.fin {x y : Sw} {b : Nat} (hT : Sw.Turn x y b) (hx : x.Ok) (L i : Nat) (hi : i < x.len) : y.fin L i = x.fin L i := by
  unfold Sw.fin
  rw [hT.len, hT.n]
  exact (hT.run hx _).2 i hi
end
section
open Go.RowKit
set_option maxRecDepth 100000
set_option linter.unusedVariables false

/-- How many of the first k slots are full. -/
def hcN (L : List Int) : Nat → Int
  | 0 => 0
  | k + 1 => hcN L k + if L.getD k 0 = 0 then 0 else 1
theorem hcN_in (L : List Int) (k : Nat) : 0 ≤ hcN L k ∧ hcN L k ≤ k := by
  induction k with
  | zero => simp [hcN]
  | succ k ih => rw [hcN]; split <;> omega
theorem hcN_set {L : List Int} {p : Nat} {v : Int} (hp : p < L.length) (h0 : L.getD p 0 = 0) (hv : v ≠ 0) (k : Nat) : hcN (L.set p v) k = hcN L k + if p < k then 1 else 0 := by
  induction k with
  | zero => simp [hcN]
  | succ k ih =>
    rw [hcN, hcN, ih]
    by_cases e : p = k
    · subst e
      have e1 : (L.set p v).getD p 0 = v := by simp [List.getD, hp]
      rw [e1, h0, if_neg (by omega), if_neg hv, if_pos rfl, if_pos (by omega)]
    · have e1 : (L.set p v).getD k 0 = L.getD k 0 := by simp [List.getD, e]
      have e2 : (if p < k + 1 then (1 : Int) else 0) = if p < k then 1 else 0 := by simp only [show p < k + 1 ↔ p < k by omega]
      rw [e1, e2]
      omega
instance (x : Sr) (l : List Ms) (T i : Nat) : Decidable (hasS x l T i) := inferInstanceAs (Decidable (_ ∧ _))
/-- How many of the first messages have a slot. -/
def wcN (x : Sr) (l : List Ms) (T : Nat) : Nat → Int
  | 0 => 0
  | i + 1 => wcN x l T i + if hasS x l T i then 1 else 0
theorem wcN_in (x : Sr) (l : List Ms) (T k : Nat) : 0 ≤ wcN x l T k ∧ wcN x l T k ≤ k := by
  induction k with
  | zero => simp [wcN]
  | succ k ih => rw [wcN]; split <;> omega
theorem hc_zero (n k : Nat) : hcN (List.replicate n 0) k = 0 := by
  induction k with
  | zero => rfl
  | succ k ih =>
    rw [hcN, ih]
    have : (List.replicate n (0 : Int)).getD k 0 = 0 := by
      rw [List.getD_eq_getElem?_getD, List.getElem?_replicate]
      split <;> rfl
    rw [this, if_pos rfl]; rfl
/-- As many slots are full as messages have one. -/
theorem held_is {x : Sr} {l : List Ms} (hg : slOk x l = true) (T : Nat) : hcN (slotsL x l T) x.n.toNat = wcN x l T l.length := by
  have key : ∀ j, j ≤ l.length → hcN (upS x l T j) x.n.toNat = wcN x l T j := by
    intro j
    induction j with
    | zero => intro _; rw [upS_zero, hc_zero]; rfl
    | succ j ih =>
      intro hj
      rw [wcN, ← ih (by omega)]
      by_cases h : hasS x l T j
      · obtain ⟨h1, h2⟩ := S_yes hg T j (by omega) h
        have h3 : (upS x l T j).getD (ownS x l j) 0 = 0 := by
          unfold upS
          rw [tab_at _ _ _ h1, h2, if_neg (by omega)]
          rfl
        rw [← upS_yes hg T j (by omega) h, hcN_set (by rw [upS_len]; exact h1) h3 (by omega), if_pos h1, if_pos h]
      · rw [← upS_no hg T j (by omega) h, if_neg h]; omega
  have h := key l.length (Nat.le_refl _)
  rw [upS_all hg T] at h
  exact h
/-- What a full slot holds. -/
theorem slot_holds {x : Sr} {l : List Ms} (hg : slOk x l = true) (T k : Nat) (hk : k < x.n.toNat) (h : (slotsL x l T).getD k 0 ≠ 0) : ∃ i, i < l.length ∧ (slotsL x l T).getD k 0 = (i : Int) + 1 ∧ hasS x l T i ∧ ownS x l i = k := by
  have hin := isSr_in (slOk_in hg).1
  obtain ⟨_, hall, _⟩ := areMs_in (slOk_in hg).2
  have e : (slotsL x l T).getD k 0 = ((swOf x l).S (T + 1) k : Int) := tab_at _ _ _ hk
  rw [e] at h ⊢
  have h1 := S_le hg T k hk
  obtain ⟨i, hi⟩ : ∃ i, (swOf x l).S (T + 1) k = i + 1 := ⟨(swOf x l).S (T + 1) k - 1, by omega⟩
  obtain ⟨h2, h3⟩ := S_only hg T i k (by omega) hk hi
  exact ⟨i, by omega, by rw [hi]; omega, h2, h3⟩
/-- Turned messages are filled at the same ticks, and read at the same. -/
theorem turn_of {x : Sr} {l : List Ms} {b : Int} (hg : slOk x l = true) (hb : 0 ≤ b ∧ b ≤ x.n - 1) : Sw.Turn (swOf x l) (swOf x (l.map (turnMs x.n b))) b.toNat := by
  have hin := isSr_in (slOk_in hg).1
  obtain ⟨_, hall, _⟩ := areMs_in (slOk_in hg).2
  have hat : ∀ i : Nat, i < l.length → (l.map (turnMs x.n b))[i]! = turnMs x.n b l[i]! := fun i hi => by
    rw [getElem!_pos (l.map (turnMs x.n b)) i (by simpa using hi), getElem!_pos l i hi, List.getElem_map]
  have hmod : ∀ a : Int, 0 ≤ a → ((a + b).tmod x.n).toNat = (a.toNat + b.toNat) % x.n.toNat := fun a ha => by
    rw [Int.tmod_eq_emod_of_nonneg (by omega)]
    have e : (a + b) % x.n = (((a.toNat + b.toNat) % x.n.toNat : Nat) : Int) := by
      rw [Int.natCast_emod]
      congr 1 <;> omega
    rw [e]
    exact Int.toNat_natCast _
  refine ⟨rfl, by simp [swOf], rfl, fun i hi => ?_, fun i hi => ?_, fun i hi => ?_⟩
  · have hi : i < l.length := hi
    simp only [swOf, hat i hi, turnMs]
  · have hi : i < l.length := hi
    simp only [swOf, hat i hi, turnMs]
    exact hmod _ (msAt hall i hi).2.2.1
  · have hi : i < l.length := hi
    simp only [swOf, hat i hi, turnMs]
    exact hmod _ (msAt hall i hi).2.2.2.2.1
end
section
open Go.RowKit
set_option maxRecDepth 100000
set_option linter.unusedVariables false

theorem tm_at {a b n : Int} (ha : 0 ≤ a ∧ a ≤ n - 1) (hb : 0 ≤ b ∧ b ≤ n - 1) : (a + b).tmod n = if a + b < n then a + b else a + b - n := by
  have h1 := turn_at (n := n.toNat) (s := a.toNat) (c := b.toNat) (by omega) (by omega)
  rw [Int.tmod_eq_emod_of_nonneg (by omega)]
  have e : (a + b) % n = (((a.toNat + b.toNat) % n.toNat : Nat) : Int) := by
    rw [Int.natCast_emod]
    congr 1 <;> omega
  rw [e, h1]
  split <;> split <;> omega
theorem msOk_in {k : Int} {y : Ms} (h : msOk k y = true) : (0 ≤ y.f ∧ y.f ≤ k - 1) ∧ (0 ≤ y.o ∧ y.o ≤ k - 1) ∧ y.f ≠ y.o := by simpa [msOk, wi] using h
theorem msOk_mk {k t f o : Int} (h1 : 0 ≤ f ∧ f ≤ k - 1) (h2 : 0 ≤ o ∧ o ≤ k - 1) (h3 : f ≠ o) : msOk k ⟨t, f, o⟩ = true := by simp [msOk, wi, h1, h2, h3]
theorem turn_ok {k b : Int} {y : Ms} (hb : 0 ≤ b ∧ b ≤ k - 1) (h : msOk k y = true) : msOk k (turnMs k b y) = true := by
  obtain ⟨h1, h2, h3⟩ := msOk_in h
  show msOk k ⟨y.t, (y.f + b).tmod k, (y.o + b).tmod k⟩ = true
  rw [tm_at h1 hb, tm_at h2 hb]
  refine msOk_mk ?_ ?_ ?_
  · split <;> omega
  · split <;> omega
  · split <;> split <;> omega
theorem turn_from {k b : Int} (hb : 0 ≤ b ∧ b ≤ k - 1) (e : Int) (l : List Ms) (h : msFrom k e l = true) : msFrom k e (l.map (turnMs k b)) = true := by
  induction l generalizing e with
  | nil => rfl
  | cons y l ih =>
    simp only [msFrom, Bool.and_eq_true] at h
    simp only [List.map_cons, msFrom, Bool.and_eq_true]
    exact ⟨h.1, turn_ok hb h.2.1, ih _ h.2.2⟩
theorem turned_slOk {x : Sr} {l : List Ms} {b : Int} (hg : slOk x l = true) (hb : 0 ≤ b ∧ b ≤ x.n - 1) : slOk x (l.map (turnMs x.n b)) = true := by
  obtain ⟨h1, h2⟩ := slOk_in hg
  have h3 : l.length ≤ 20 ∧ msFrom x.n 0 l = true := by simpa [areMs] using h2
  have h4 := turn_from hb 0 l h3.2
  simp [slOk, h1, areMs, h3.1, h4]
theorem turned_at (x : Sr) (l : List Ms) (b : Int) (i : Nat) (hi : i < l.length) : (l.map (turnMs x.n b))[i]! = turnMs x.n b l[i]! := by
  rw [getElem!_pos (l.map (turnMs x.n b)) i (by simpa using hi), getElem!_pos l i hi, List.getElem_map]
theorem turned_last (x : Sr) (l : List Ms) (b : Int) : lastT (l.map (turnMs x.n b)) = lastT l := by
  unfold lastT
  rw [List.length_map]
  cases hl : l.length with
  | zero => rfl
  | succ m => rw [prevM, prevM, turned_at x l b m (by omega)]; rfl
theorem turned_fin {x : Sr} {l : List Ms} {b : Int} (hg : slOk x l = true) (hb : 0 ≤ b ∧ b ≤ x.n - 1) : finL x (l.map (turnMs x.n b)) = finL x l := by
  have hin := isSr_in (slOk_in hg).1
  obtain ⟨_, hall, _⟩ := areMs_in (slOk_in hg).2
  unfold finL
  rw [List.length_map, turned_last]
  apply List.map_congr_left
  intro i hi
  exact (turn_of hg hb).fin (swOk hin hall) (lastT l) i (show i < l.length by simpa using hi)
theorem turned_hops {k b : Int} {y : Ms} (hk : 2 ≤ k) (hb : 0 ≤ b ∧ b ≤ k - 1) (hy : MsIn k y) (hy' : MsIn k (turnMs k b y)) : hopsI k (turnMs k b y) = hopsI k y := by
  have h1 := (hopsI_in hk hy)
  have h2 := (hopsI_in hk hy')
  obtain ⟨_, _, a1, a2, a3, a4, a5⟩ := hy
  have e1 := tm_at (a := y.f) ⟨a1, a2⟩ hb
  have e2 := tm_at (a := y.o) ⟨a3, a4⟩ hb
  have e3 : (turnMs k b y).f = (y.f + b).tmod k := rfl
  have e4 : (turnMs k b y).o = (y.o + b).tmod k := rfl
  rw [e3, e4, e1, e2] at h2
  split at h2 <;> split at h2 <;> omega
theorem turned_read {x : Sr} {l : List Ms} {b : Int} (hg : slOk x l = true) (hb : 0 ≤ b ∧ b ≤ x.n - 1) : readL x (l.map (turnMs x.n b)) = readL x l := by
  have hin := isSr_in (slOk_in hg).1
  obtain ⟨_, hall, _⟩ := areMs_in (slOk_in hg).2
  have hg' := turned_slOk hg hb
  obtain ⟨_, hall', _⟩ := areMs_in (slOk_in hg').2
  apply List.ext_getElem
  · rw [readL_len, readL_len, List.length_map]
  · intro i h1 h2
    have hi : i < l.length := by rw [readL_len] at h2; exact h2
    have h3 := readL_at hg' i (by rw [List.length_map]; exact hi)
    have h4 := readL_at hg i hi
    rw [turned_fin hg hb, turned_at x l b i hi, turned_hops hin.1 hb (msAt hall i hi) (by have := msAt hall' i (by rw [List.length_map]; exact hi); rwa [turned_at x l b i hi] at this), ← h4] at h3
    rw [List.getD_eq_getElem?_getD, List.getD_eq_getElem?_getD, List.getElem?_eq_getElem h1, List.getElem?_eq_getElem h2] at h3
    simpa using h3
/-- How many of the first messages wait at a station. -/
def qcN (x : Sr) (l : List Ms) (s tick : Int) : Nat → Int
  | 0 => 0
  | j + 1 => qcN x l s tick j + if inQ x l s tick j = true then 1 else 0
theorem qcN_is (x : Sr) (l : List Ms) (s tick : Int) (j : Nat) : qcN x l s tick j = ((qTo x l s tick j).length : Int) := by
  induction j with
  | zero => rfl
  | succ j ih =>
    rw [qcN, ih]
    cases h : inQ x l s tick j
    · rw [if_neg (by simp), qTo_no h]; omega
    · rw [if_pos rfl, qTo_yes h, List.length_append]; simp
end
section
open Go.RowKit
set_option maxRecDepth 100000
set_option linter.unusedVariables false

/-- What the law asks of the slots at a tick. -/
structure SlF (x : Sr) (l : List Ms) (tick : Int) (L E R : List Int) (C V : Nat → Int) : Prop where
  n20 : l.length ≤ 20
  isr : 2 ≤ x.n ∧ x.n ≤ 12
  lenL : (L.length : Int) = x.n
  lenE : E.length = l.length
  lenR : R.length = l.length
  tk : 0 ≤ tick ∧ tick ≤ 400
  bnd : ∀ i, i < l.length → (0 ≤ E.getD i 0 ∧ E.getD i 0 ≤ 1000) ∧ (0 ≤ R.getD i 0 ∧ R.getD i 0 ≤ 2000)
  full : ∀ k, k < L.length → L.getD k 0 = 0 ∧ C (k + 1) = C k ∨ ∃ i : Nat, i < l.length ∧ L.getD k 0 = (i : Int) + 1 ∧ C (k + 1) = C k + 1 ∧ E.getD i 0 ≤ tick ∧ ((k : Int) + E.getD i 0).tmod x.n = l[i]!.f ∧ (if x.h then tick < E.getD i 0 + x.n else tick < R.getD i 0)
  c0 : C 0 = 0
  cb : ∀ k, 0 ≤ C k ∧ C k ≤ k
  v0 : V 0 = 0
  vb : ∀ k, 0 ≤ V k ∧ V k ≤ k
  vs : ∀ i, i < l.length → V (i + 1) = V i + if E.getD i 0 ≤ tick ∧ tick < (if x.h then E.getD i 0 + x.n else R.getD i 0) then 1 else 0
  held : C L.length = V l.length
theorem fin_in {x : Sr} {l : List Ms} (hg : slOk x l = true) {i : Nat} (hi : i < l.length) : 0 ≤ (swOf x l).fin (lastT l) i ∧ (swOf x l).fin (lastT l) i ≤ 1000 := by
  obtain ⟨hl20, _, _⟩ := areMs_in (slOk_in hg).2
  have hin := isSr_in (slOk_in hg).1
  have h1 := F_need hg i hi
  have h2 := (lastT_le (slOk_in hg).2 i hi).2
  have h3 : l.length * (x.n.toNat + 1) ≤ 20 * 13 := Nat.mul_le_mul hl20 (by omega)
  have h4 : (swOf x l).fin (lastT l) i < (lastT l + l.length * (x.n.toNat + 1) : Nat) := h1.2.2
  omega
theorem has_iff {x : Sr} {l : List Ms} (hg : slOk x l = true) {tick : Int} (h0 : 0 ≤ tick) {i : Nat} (hi : i < l.length) : hasS x l tick.toNat i ↔ ((finL x l).getD i 0 ≤ tick ∧ tick < if x.h then (finL x l).getD i 0 + x.n else (readL x l).getD i 0) := by
  have hin := isSr_in (slOk_in hg).1
  obtain ⟨_, hall, _⟩ := areMs_in (slOk_in hg).2
  have h1 := readL_at hg i hi
  have h2 := hop_eq hin i (msAt hall i hi)
  rw [finL_at x l i hi] at h1
  rw [finL_at x l i hi, h1, h2]
  have e1 : (swOf x l).dur i = if x.h then x.n.toNat else (swOf x l).hop i := rfl
  unfold hasS
  rw [e1]
  cases x.h
  · simp only [Bool.false_eq_true, if_false]; omega
  · simp only [if_true]; omega
theorem slF_of {x : Sr} {l : List Ms} {tick : Int} (hg : slOk x l = true) (ht : wi tick 0 400 = true) : SlF x l tick (slotsL x l tick.toNat) (finL x l) (readL x l) (hcN (slotsL x l tick.toNat)) (wcN x l tick.toNat) := by
  have hin := isSr_in (slOk_in hg).1
  obtain ⟨hl20, hall, _⟩ := areMs_in (slOk_in hg).2
  have hok := swOk hin hall
  have ht2 : 0 ≤ tick ∧ tick ≤ 400 := by simpa [wi] using ht
  have hlen : (slotsL x l tick.toNat).length = x.n.toNat := tab_len _ _
  refine ⟨hl20, hin, by rw [hlen]; omega, finL_len x l, readL_len x l, ht2, ?_, ?_, rfl, fun k => hcN_in _ k, rfl, fun k => wcN_in x l _ k, ?_, ?_⟩
  · intro i hi
    have h1 := fin_in hg hi
    have h2 := readL_at hg i hi
    have h3 := hopsI_in hin.1 (msAt hall i hi)
    rw [finL_at x l i hi] at h2 ⊢
    omega
  · intro k hk
    rw [hlen] at hk
    by_cases h : (slotsL x l tick.toNat).getD k 0 = 0
    · left
      refine ⟨h, ?_⟩
      rw [hcN, if_pos h]
      omega
    · right
      obtain ⟨i, h1, h2, h3, h4⟩ := slot_holds hg tick.toNat k hk h
      have h5 := (has_iff hg ht2.1 h1).1 h3
      refine ⟨i, h1, h2, by rw [hcN, if_neg h], h5.1, ?_, by revert h5; cases x.h <;> simp <;> omega⟩
      have h6 := fin_in hg h1
      have h7 := Sw.at_kof hok ((swOf x l).fr i) ((swOf x l).fin (lastT l) i).toNat (hok.frn i h1)
      have h8 : (swOf x l).kof ((swOf x l).fr i) ((swOf x l).fin (lastT l) i).toNat = k := h4
      rw [h8] at h7
      have h9 : (k + ((swOf x l).fin (lastT l) i).toNat) % x.n.toNat = l[i]!.f.toNat := h7
      have h10 := (msAt hall i h1).2.2.1
      rw [finL_at x l i h1, Int.tmod_eq_emod_of_nonneg (by omega)]
      have e : ((k : Int) + (swOf x l).fin (lastT l) i) % x.n = (((k + ((swOf x l).fin (lastT l) i).toNat) % x.n.toNat : Nat) : Int) := by
        rw [Int.natCast_emod]
        congr 1 <;> omega
      rw [e, h9]
      omega
  · intro i hi
    rw [wcN]
    simp only [has_iff hg ht2.1 hi]
  · rw [hlen]; exact held_is hg _
/-- What the law asks of a queue. -/
structure QuF (x : Sr) (l : List Ms) (s tick : Int) (E Q : List Int) (C : Nat → Int) : Prop where
  n20 : l.length ≤ 20
  lenE : E.length = l.length
  c0 : C 0 = 0
  cb : ∀ k, 0 ≤ C k ∧ C k ≤ k
  cs : ∀ i, i < l.length → C (i + 1) = C i + if l[i]!.f = s ∧ l[i]!.t ≤ tick ∧ tick < E.getD i 0 then 1 else 0
  all : C l.length = (Q.length : Int)
theorem quF_of {x : Sr} {l : List Ms} {s tick : Int} (hg : slOk x l = true) : QuF x l s tick (finL x l) (qTo x l s tick l.length) (qcN x l s tick) := by
  obtain ⟨hl20, hall, _⟩ := areMs_in (slOk_in hg).2
  refine ⟨hl20, finL_len x l, rfl, ?_, ?_, qcN_is x l s tick l.length⟩
  · intro k
    induction k with
    | zero => simp [qcN]
    | succ k ih => rw [qcN]; split <;> omega
  · intro i hi
    rw [qcN, finL_at x l i hi]
    have e : (inQ x l s tick i = true) = (l[i]!.f = s ∧ l[i]!.t ≤ tick ∧ tick < (swOf x l).fin (lastT l) i) := by simp [inQ]
    simp only [e]
end
end Go.Proofs.Ytehmhkbiofndaaa
