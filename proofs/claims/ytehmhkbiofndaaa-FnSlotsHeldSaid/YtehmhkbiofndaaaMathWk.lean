/-
  Slots that go round: pure mathematics. Messages fill slots; from the ticks at which they do so all else is told.
-/
import Derived.Test.YtehmhkbiofndaaaMathSlot
namespace Go.Proofs.Ytehmhkbiofndaaa
open Go.RowKit
set_option maxRecDepth 100000
set_option linter.unusedVariables false

/-- A ring with messages: stations, how many messages, whether slots are freed at home; the messages' stations and ticks. -/
structure Sw where
  n : Nat
  len : Nat
  home : Bool
  fr : Nat → Nat
  to_ : Nat → Nat
  tk : Nat → Nat
structure Sw.Ok (x : Sw) : Prop where
  n2 : 2 ≤ x.n
  frn : ∀ i, i < x.len → x.fr i < x.n
  ton : ∀ i, i < x.len → x.to_ i < x.n
  ne : ∀ i, i < x.len → x.fr i ≠ x.to_ i
/-- Over how many links a message goes. -/
def Sw.hop (x : Sw) (i : Nat) : Nat := (x.to_ i + x.n - x.fr i) % x.n
/-- How long it has its slot. -/
def Sw.dur (x : Sw) (i : Nat) : Nat := if x.home then x.n else x.hop i
/-- The slot that is at a station at a tick. -/
def Sw.kof (x : Sw) (s t : Nat) : Nat := (s + x.n - t % x.n) % x.n
/-- The first message of a station that waits. -/
def Sw.next (x : Sw) (F : Nat → Int) (s t : Nat) : Option Nat := (List.range x.len).find? fun i => decide (x.fr i = s ∧ x.tk i ≤ t ∧ F i < 0)
/-- Whether a slot's message leaves it at a station. -/
def Sw.frees (x : Sw) (s c : Nat) : Bool := if x.home then decide (x.fr (c - 1) = s) else decide (x.to_ (c - 1) = s)
/-- What fills a slot that holds c at a station, if something does. -/
def Sw.fills (x : Sw) (F : Nat → Int) (s t c : Nat) : Option Nat := if c = 0 then x.next F s t else if x.frees s c && !x.home then x.next F s t else none
/-- What the slot holds behind it. -/
def Sw.newc (x : Sw) (F : Nat → Int) (s t c : Nat) : Nat :=
  match x.fills F s t c with
  | some i => i + 1
  | none => if c = 0 then 0 else if x.frees s c then 0 else c
def Sw.tickS (x : Sw) (t : Nat) (S : Nat → Nat) (F : Nat → Int) : Nat → Nat := fun k => x.newc F ((k + t) % x.n) t (S k)
def Sw.tickF (x : Sw) (t : Nat) (S : Nat → Nat) (F : Nat → Int) : Nat → Int := fun i => if x.fills F (x.fr i) t (S (x.kof (x.fr i) t)) = some i then (t : Int) else F i
def Sw.run (x : Sw) : Nat → (Nat → Nat) × (Nat → Int)
  | 0 => (fun _ => 0, fun _ => -1)
  | t + 1 => (x.tickS t (x.run t).1 (x.run t).2, x.tickF t (x.run t).1 (x.run t).2)
theorem Sw.next_some {x : Sw} {F : Nat → Int} {s t i : Nat} (h : x.next F s t = some i) : i < x.len ∧ x.fr i = s ∧ x.tk i ≤ t ∧ F i < 0 := by
  unfold Sw.next at h
  have h1 := List.find?_some h
  have h2 := List.mem_of_find?_eq_some h
  exact ⟨by simpa using h2, by simpa using h1⟩
theorem Sw.next_none {x : Sw} {F : Nat → Int} {s t : Nat} (h : x.next F s t = none) (i : Nat) (hi : i < x.len) (h1 : x.fr i = s) (h2 : x.tk i ≤ t) : 0 ≤ F i := by
  unfold Sw.next at h
  rw [List.find?_eq_none] at h
  have := h i (by simpa using hi)
  simp at this
  exact Int.not_lt.1 (fun h3 => by have := this h1 h2; omega)
theorem Sw.next_congr {x : Sw} {F G : Nat → Int} {s t : Nat} (h : ∀ i, i < x.len → x.fr i = s → F i = G i) : x.next F s t = x.next G s t := by
  unfold Sw.next
  have key : ∀ (l : List Nat), (∀ i ∈ l, i < x.len) → (l.find? fun i => decide (x.fr i = s ∧ x.tk i ≤ t ∧ F i < 0)) = l.find? fun i => decide (x.fr i = s ∧ x.tk i ≤ t ∧ G i < 0) := by
    intro l
    induction l with
    | nil => intro _; rfl
    | cons a l ih =>
      intro hl
      have ha : decide (x.fr a = s ∧ x.tk a ≤ t ∧ F a < 0) = decide (x.fr a = s ∧ x.tk a ≤ t ∧ G a < 0) := by
        by_cases h1 : x.fr a = s
        · rw [h a (hl a (by simp)) h1]
        · simp [h1]
      simp only [List.find?_cons, ha]
      split
      · rfl
      · exact ih fun i hi => hl i (by simp [hi])
  exact key _ fun i hi => by simpa using hi
theorem Sw.fills_some {x : Sw} {F : Nat → Int} {s t c i : Nat} (h : x.fills F s t c = some i) : x.next F s t = some i := by
  unfold Sw.fills at h
  split at h
  · exact h
  · split at h
    · exact h
    · cases h
theorem Sw.kof_lt {x : Sw} (h : x.Ok) (s t : Nat) : x.kof s t < x.n := Nat.mod_lt _ (by have := h.n2; omega)
/-- Where a slot is that a message has filled. -/
theorem Sw.at_of {x : Sw} (h : x.Ok) (f F d : Nat) : (x.kof f F + (F + d)) % x.n = (f + d) % x.n := by
  have hn := h.n2
  unfold Sw.kof
  rw [Nat.mod_add_mod]
  have h1 := Nat.div_add_mod F x.n
  have h2 : F % x.n < x.n := Nat.mod_lt _ (by omega)
  have e : f + x.n - F % x.n + (F + d) = (f + d) + x.n * (F / x.n + 1) := by
    rw [Nat.mul_add, Nat.mul_one]
    omega
  rw [e, Nat.add_mul_mod_self_left]
theorem Sw.at_kof {x : Sw} (h : x.Ok) (s t : Nat) (hs : s < x.n) : (x.kof s t + t) % x.n = s := by
  have := Sw.at_of h s t 0
  simpa [Nat.mod_eq_of_lt hs] using this
theorem Sw.kof_at {x : Sw} (h : x.Ok) (k t : Nat) (hk : k < x.n) : x.kof ((k + t) % x.n) t = k := by
  have hn := h.n2
  unfold Sw.kof
  have h2 : t % x.n < x.n := Nat.mod_lt _ (by omega)
  have e : (k + t) % x.n = (k + t % x.n) % x.n := by rw [Nat.add_mod, Nat.mod_eq_of_lt hk]; 
  rw [e]
  rcases Nat.lt_or_ge (k + t % x.n) x.n with hlt | hge
  · rw [Nat.mod_eq_of_lt hlt, show k + t % x.n + x.n - t % x.n = k + x.n by omega, Nat.add_mod_right, Nat.mod_eq_of_lt hk]
  · have e2 : (k + t % x.n) % x.n = k + t % x.n - x.n := by rw [Nat.mod_eq_sub_mod hge, Nat.mod_eq_of_lt (by omega)]
    rw [e2, show k + t % x.n - x.n + x.n - t % x.n = k by omega, Nat.mod_eq_of_lt hk]
theorem Sw.hop_in {x : Sw} (h : x.Ok) {i : Nat} (hi : i < x.len) : 1 ≤ x.hop i ∧ x.hop i < x.n := by
  have hn := h.n2
  have h1 := h.frn i hi
  have h2 := h.ton i hi
  have h3 := h.ne i hi
  unfold Sw.hop
  refine ⟨?_, Nat.mod_lt _ (by omega)⟩
  rcases Nat.lt_or_ge (x.to_ i) (x.fr i) with hlt | hge
  · rw [Nat.mod_eq_of_lt (by omega)]; omega
  · rw [show x.to_ i + x.n - x.fr i = (x.to_ i - x.fr i) + x.n by omega, Nat.add_mod_right, Nat.mod_eq_of_lt (by omega)]; omega
theorem Sw.dur_in {x : Sw} (h : x.Ok) {i : Nat} (hi : i < x.len) : 1 ≤ x.dur i ∧ x.dur i ≤ x.n ∧ x.hop i ≤ x.dur i := by
  have := Sw.hop_in h hi
  have hn := h.n2
  unfold Sw.dur
  split <;> omega
/-- Behind d ticks, at most n, a message is at its last station just if d are its hops. -/
theorem Sw.at_to {x : Sw} (h : x.Ok) {i d : Nat} (hi : i < x.len) (h1 : 1 ≤ d) (h2 : d ≤ x.n) : (x.fr i + d) % x.n = x.to_ i ↔ d = x.hop i := by
  have hn := h.n2
  have a1 := h.frn i hi
  have a2 := h.ton i hi
  have a3 := h.ne i hi
  unfold Sw.hop
  have e1 : (x.fr i + d) % x.n = if x.fr i + d < x.n then x.fr i + d else x.fr i + d - x.n := by
    split
    · rw [Nat.mod_eq_of_lt (by omega)]
    · rw [Nat.mod_eq_sub_mod (by omega), Nat.mod_eq_of_lt (by omega)]
  have e2 : (x.to_ i + x.n - x.fr i) % x.n = if x.to_ i < x.fr i then x.to_ i + x.n - x.fr i else x.to_ i - x.fr i := by
    split
    · rw [Nat.mod_eq_of_lt (by omega)]
    · rw [show x.to_ i + x.n - x.fr i = (x.to_ i - x.fr i) + x.n by omega, Nat.add_mod_right, Nat.mod_eq_of_lt (by omega)]
  rw [e1, e2]
  split <;> split <;> omega
theorem Sw.at_home {x : Sw} (h : x.Ok) {i d : Nat} (hi : i < x.len) (h1 : 1 ≤ d) (h2 : d ≤ x.n) : (x.fr i + d) % x.n = x.fr i ↔ d = x.n := by
  have a1 := h.frn i hi
  have e1 : (x.fr i + d) % x.n = if x.fr i + d < x.n then x.fr i + d else x.fr i + d - x.n := by
    split
    · rw [Nat.mod_eq_of_lt (by omega)]
    · rw [Nat.mod_eq_sub_mod (by omega), Nat.mod_eq_of_lt (by omega)]
  rw [e1]
  split <;> omega
/-- What a ring keeps: behind t ticks. -/
structure Sw.Inv (x : Sw) (t : Nat) (S : Nat → Nat) (F : Nat → Int) : Prop where
  filled : ∀ i, i < x.len → F i = -1 ∨ ((x.tk i : Int) ≤ F i ∧ F i < t)
  slot : ∀ k, k < x.n → S k ≠ 0 → ∃ i f : Nat, S k = i + 1 ∧ i < x.len ∧ F i = f ∧ f < t ∧ t ≤ f + x.dur i ∧ x.kof (x.fr i) f = k
  holds : ∀ i f : Nat, i < x.len → F i = f → t ≤ f + x.dur i → S (x.kof (x.fr i) f) = i + 1
/-- A slot that is full frees its message just when its time is over. -/
theorem Sw.frees_iff {x : Sw} (h : x.Ok) {i f t k : Nat} (hi : i < x.len) (hft : f < t) (htd : t ≤ f + x.dur i) (hk : x.kof (x.fr i) f = k) : x.frees ((k + t) % x.n) (i + 1) = decide (t = f + x.dur i) := by
  have hd := Sw.dur_in h hi
  have hp := Sw.hop_in h hi
  obtain ⟨d, rfl⟩ : ∃ d, t = f + d := ⟨t - f, by omega⟩
  rw [← hk, Sw.at_of h]
  unfold Sw.frees Sw.dur at *
  rw [Nat.add_sub_cancel]
  by_cases hh : x.home = true
  · simp only [hh, if_true] at hd htd ⊢
    have := Sw.at_home h hi (d := d) (by omega) (by omega)
    rw [decide_eq_decide]
    constructor
    · intro e; have := this.1 e.symm; omega
    · intro e; exact (this.2 (by omega)).symm
  · simp only [hh, if_false, Bool.false_eq_true] at hd htd ⊢
    have := Sw.at_to h hi (d := d) (by omega) (by omega)
    rw [decide_eq_decide]
    constructor
    · intro e; have := this.1 e.symm; omega
    · intro e; exact (this.2 (by omega)).symm
theorem Sw.inv_tick {x : Sw} (h : x.Ok) {t : Nat} {S : Nat → Nat} {F : Nat → Int} (hI : x.Inv t S F) : x.Inv (t + 1) (x.tickS t S F) (x.tickF t S F) := by
  have keep : ∀ i, i < x.len → 0 ≤ F i → x.tickF t S F i = F i := by
    intro i hi h0
    unfold Sw.tickF
    rw [if_neg]
    intro e
    have := (Sw.next_some (Sw.fills_some e)).2.2.2
    omega
  have newF : ∀ i k, i < x.len → k < x.n → x.fills F ((k + t) % x.n) t (S k) = some i → x.tickF t S F i = t ∧ x.kof (x.fr i) t = k ∧ x.tickS t S F k = i + 1 := by
    intro i k hi hk e
    have e1 := Sw.next_some (Sw.fills_some e)
    have e2 : x.kof (x.fr i) t = k := by rw [e1.2.1]; exact Sw.kof_at h k t hk
    refine ⟨?_, e2, ?_⟩
    · unfold Sw.tickF
      rw [e2, e1.2.1, if_pos e]
    · unfold Sw.tickS Sw.newc
      rw [e]
  refine ⟨?_, ?_, ?_⟩
  · intro i hi
    unfold Sw.tickF
    split
    · rename_i e
      have := Sw.next_some (Sw.fills_some e)
      exact .inr ⟨by omega, by omega⟩
    · rcases hI.filled i hi with h1 | h1
      · exact .inl h1
      · exact .inr ⟨h1.1, by omega⟩
  · intro k hk hS
    cases e : x.fills F ((k + t) % x.n) t (S k) with
    | some i =>
      have e0 := Sw.next_some (Sw.fills_some e)
      obtain ⟨e1, e2, e3⟩ := newF i k e0.1 hk e
      have := Sw.dur_in h e0.1
      exact ⟨i, t, e3, e0.1, e1, by omega, by omega, e2⟩
    | none =>
      have e3 : x.tickS t S F k = if S k = 0 then 0 else if x.frees ((k + t) % x.n) (S k) then 0 else S k := by
        unfold Sw.tickS Sw.newc
        rw [e]
      rw [e3] at hS
      by_cases h0 : S k = 0
      · simp [h0] at hS
      · obtain ⟨i, f, h1, h2, h4, h5, h6, h7⟩ := hI.slot k hk h0
        rw [if_neg h0, h1, Sw.frees_iff h h2 h5 h6 h7] at hS
        have h8 : t ≠ f + x.dur i := by
          intro h9
          simp [h9] at hS
        refine ⟨i, f, ?_, h2, ?_, by omega, by omega, h7⟩
        · rw [e3, if_neg h0, h1, Sw.frees_iff h h2 h5 h6 h7]
          simp [h8]
        · rw [keep i h2 (by omega)]; exact h4
  · intro i f hi hf hd
    have hdi := Sw.dur_in h hi
    by_cases e : x.fills F (x.fr i) t (S (x.kof (x.fr i) t)) = some i
    · have h1 : x.tickF t S F i = t := by unfold Sw.tickF; rw [if_pos e]
      have h2 : f = t := by rw [h1] at hf; omega
      subst h2
      have h3 := Sw.at_kof h (x.fr i) f (h.frn i hi)
      exact (newF i _ hi (Sw.kof_lt h _ _) (by rw [h3]; exact e)).2.2
    · have h1 : x.tickF t S F i = F i := by unfold Sw.tickF; rw [if_neg e]
      rw [h1] at hf
      have h3 := hI.holds i f hi hf (by omega)
      have hft : f < t := by
        rcases hI.filled i hi with h9 | h9
        · omega
        · omega
      have h4 := Sw.frees_iff h hi hft (by omega) (t := t) (k := x.kof (x.fr i) f) rfl
      have h5 : ¬ t = f + x.dur i := by omega
      unfold Sw.tickS Sw.newc Sw.fills
      rw [h3, if_neg (by omega), h4]
      simp [h5]
theorem Sw.inv_run {x : Sw} (h : x.Ok) (t : Nat) : x.Inv t (x.run t).1 (x.run t).2 := by
  induction t with
  | zero =>
    refine ⟨fun i _ => .inl rfl, fun k _ hk => absurd rfl hk, fun i f _ hf _ => ?_⟩
    have : (-1 : Int) = f := hf
    omega
  | succ t ih => exact Sw.inv_tick h ih
end Go.Proofs.Ytehmhkbiofndaaa
