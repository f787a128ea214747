/-
  Chapter 7: the model's LongestRepair.
-/
import Derived.Test.YtgmknndmmpoliaaElAC
namespace Go.Proofs.Ytgmknndmmpoliaa
open Go.RowKit
set_option maxRecDepth 100000
set_option linter.unusedVariables false

/-- Behind r whole rounds and i states of the next one. -/
structure LI (m : Nat) (f : Nat → Nat) (r i : Nat) (G : List Int) : Prop where
  len : G.length = m
  up : ∀ j, j < m → G.getD j 0 ≤ (f j : Int)
  dn : ∀ j, j < m → ((min (f j) (if j < i then r + 1 else r) : Nat) : Int) ≤ G.getD j 0
def Cl (n k : Nat) (G : List Int) (j : Nat) : Prop := oneB (stA n k j) = false → ∀ q, q < (holdN (stA n k j) n).length → G.getD (nxt n k j q) 0 + 1 ≤ G.getD j 0
structure ML (n k : Nat) (f : Nat → Nat) (r i : Nat) (G : List Int) (b : Bool) : Prop where
  li : LI (k ^ n) f r i G
  cl : b = false → ∀ j, j < i → Cl n k G j
structure HL (n k : Nat) (f : Nat → Nat) (r i q : Nat) (G : List Int) (b : Bool) : Prop where
  li : LI (k ^ n) f r i G
  lo : ∀ p, p < q → ((min (f (nxt n k i p)) r : Nat) : Int) + 1 ≤ G.getD i 0
  cl : b = false → (∀ j, j < i → Cl n k G j) ∧ ∀ p, p < q → G.getD (nxt n k i p) 0 + 1 ≤ G.getD i 0
theorem LI.start (m : Nat) (f : Nat → Nat) : LI m f 0 0 (List.replicate m 0) := by
  refine ⟨by simp, fun j hj => ?_, fun j hj => ?_⟩
  · simp [hj]
  · simp [hj]
theorem LI.round {m : Nat} {f : Nat → Nat} {r : Nat} {G : List Int} (h : LI m f r m G) : LI m f (r + 1) 0 G :=
  ⟨h.len, h.up, fun j hj => by have := h.dn j hj; rw [if_pos hj] at this; rw [if_neg (by omega)]; exact this⟩
theorem LI.get_set {m : Nat} {f : Nat → Nat} {r i : Nat} {G : List Int} (h : LI m f r i G) (hi : i < m) (x : Int) (j : Nat) : (G.set i x).getD j 0 = if j = i then x else G.getD j 0 := by
  have hl := h.len
  rw [List.getD_eq_getElem?_getD, List.getElem?_set]
  by_cases e : i = j
  · subst e
    rw [if_pos rfl, if_pos rfl, if_pos (by omega)]
    rfl
  · rw [if_neg e, if_neg (fun h => e h.symm), List.getD_eq_getElem?_getD]
theorem LI.set {m : Nat} {f : Nat → Nat} {r i : Nat} {G : List Int} (h : LI m f r i G) (hi : i < m) {x : Int} (h1 : G.getD i 0 ≤ x) (h2 : x ≤ (f i : Int)) : LI m f r i (G.set i x) := by
  refine ⟨by rw [List.length_set]; exact h.len, fun j hj => ?_, fun j hj => ?_⟩
  · rw [h.get_set hi]
    split
    · rename_i e; rw [e]; exact h2
    · exact h.up j hj
  · rw [h.get_set hi]
    have := h.dn j hj
    by_cases e : j = i
    · subst e
      rw [if_pos rfl]
      omega
    · rw [if_neg e]
      exact this
theorem LI.full {m : Nat} {f : Nat → Nat} {r : Nat} {G : List Int} (h : LI m f r 0 G) (hr : m ≤ r) (ht : ∀ j, j < m → f j < m) (j : Nat) (hj : j < m) : G.getD j 0 = (f j : Int) := by
  have h1 := h.up j hj
  have h2 := h.dn j hj
  have h3 := ht j hj
  rw [if_neg (by omega), Nat.min_eq_left (by omega)] at h2
  omega
theorem LI.pos {m : Nat} {f : Nat → Nat} {r i : Nat} {G : List Int} (h : LI m f r i G) (ht : ∀ j, j < m → f j < m) (j : Nat) (hj : j < m) : 0 ≤ G.getD j 0 ∧ G.getD j 0 < m := by
  have h1 := h.up j hj
  have h2 := h.dn j hj
  have h3 := ht j hj
  omega
theorem ML.start {n k : Nat} {f : Nat → Nat} {r : Nat} {G : List Int} (h : LI (k ^ n) f r 0 G) : ML n k f r 0 G false := ⟨h, fun _ j hj => absurd hj (by omega)⟩
theorem ML.one {n k : Nat} {f : Nat → Nat} {r i : Nat} {G : List Int} {b : Bool} (R : Rk n k f) (h : ML n k f r i G b) (hi : i < k ^ n) (h1 : oneB (stA n k i) = true) : ML n k f r (i + 1) G b := by
  refine ⟨⟨h.li.len, h.li.up, fun j hj => ?_⟩, fun hb j hj => ?_⟩
  · have h2 := h.li.dn j hj
    by_cases e : j = i
    · subst e
      rw [R.one j hi h1]
      have := R.one j hi h1
      rw [this] at h2
      simpa using h2
    · split
      · rw [if_pos (by omega)] at h2; exact h2
      · rw [if_neg (by omega)] at h2; exact h2
  · by_cases e : j = i
    · subst e
      intro h9
      rw [h1] at h9
      cases h9
    · exact h.cl hb j (by omega)
theorem ML.hl {n k : Nat} {f : Nat → Nat} {r i : Nat} {G : List Int} {b : Bool} (h : ML n k f r i G b) : HL n k f r i 0 G b := ⟨h.li, fun p hp => absurd hp (by omega), fun hb => ⟨h.cl hb, fun p hp => absurd hp (by omega)⟩⟩
theorem HL.done {n k : Nat} {f : Nat → Nat} {r i : Nat} {G : List Int} {b : Bool} (R : Rk n k f) (hi : i < k ^ n) (h1 : oneB (stA n k i) = false) (h : HL n k f r i (holdN (stA n k i) n).length G b) : ML n k f r (i + 1) G b := by
  refine ⟨⟨h.li.len, h.li.up, fun j hj => ?_⟩, fun hb j hj => ?_⟩
  · have h2 := h.li.dn j hj
    by_cases e : j = i
    · subst e
      obtain ⟨q, hq, hf⟩ := R.le j hi h1
      have := h.lo q hq
      rw [if_pos (by omega), hf]
      have h3 : min (f (nxt n k j q) + 1) (r + 1) = min (f (nxt n k j q)) r + 1 := by omega
      rw [h3]
      omega
    · split
      · rw [if_pos (by omega)] at h2; exact h2
      · rw [if_neg (by omega)] at h2; exact h2
  · by_cases e : j = i
    · subst e
      intro _ q hq
      exact (h.cl hb).2 q hq
    · exact (h.cl hb).1 j (by omega)
theorem HL.yes {n k : Nat} {f : Nat → Nat} {r i q : Nat} {G : List Int} {b : Bool} (R : Rk n k f) (hi : i < k ^ n) (h1 : oneB (stA n k i) = false) (hq : q < (holdN (stA n k i) n).length) (hx : nxt n k i q < k ^ n) (h : HL n k f r i q G b) (hlt : G.getD i 0 < G.getD (nxt n k i q) 0 + 1) :
    HL n k f r i (q + 1) (G.set i (G.getD (nxt n k i q) 0 + 1)) true := by
  have hu := h.li.up _ hx
  have hg := R.ge i hi h1 q hq
  refine ⟨h.li.set hi (by omega) (by omega), fun p hp => ?_, fun hb => by cases hb⟩
  rw [h.li.get_set hi, if_pos rfl]
  by_cases e : p = q
  · subst e
    have h2 := h.li.dn _ hx
    split at h2 <;> omega
  · have := h.lo p (by omega)
    omega
theorem HL.no {n k : Nat} {f : Nat → Nat} {r i q : Nat} {G : List Int} {b : Bool} (hx : nxt n k i q < k ^ n) (h : HL n k f r i q G b) (hge : G.getD (nxt n k i q) 0 + 1 ≤ G.getD i 0) : HL n k f r i (q + 1) G b := by
  refine ⟨h.li, fun p hp => ?_, fun hb => ⟨(h.cl hb).1, fun p hp => ?_⟩⟩
  · by_cases e : p = q
    · subst e
      have h2 := h.li.dn _ hx
      split at h2 <;> omega
    · exact h.lo p (by omega)
  · by_cases e : p = q
    · subst e; exact hge
    · exact (h.cl hb).2 p (by omega)
theorem nxt_lt {n k : Nat} (hn : 2 ≤ n) (hk : 2 ≤ k) {i q : Nat} (hi : i < k ^ n) (hq : q < (holdN (stA n k i) n).length) : (holdN (stA n k i) n).getD q 0 < n ∧ 0 ≤ (holdN (stA n k i) n).getD q 0 ∧ nxt n k i q < k ^ n ∧ stA n k (nxt n k i q) = fireL (stA n k i) k ((holdN (stA n k i) n).getD q 0).toNat := by
  have hl := stA_len hi
  obtain ⟨s, hb1, _, hb2⟩ := holdN_at (stA n k i) n q hq
  have hs : ((holdN (stA n k i) n).getD q 0).toNat < (stA n k i).length := by omega
  have h := idxN_is (n := n) ((stA_in hi).fire (by omega) _ hs) (by rw [fireL_length]; exact hl)
  exact ⟨by omega, by omega, h.1, h.2⟩
theorem ML.full {n k : Nat} {f : Nat → Nat} {r : Nat} {G : List Int} (hn : 2 ≤ n) (hk : 2 ≤ k) (R : Rk n k f) (h : ML n k f r (k ^ n) G false) : ∀ j, j < k ^ n → G.getD j 0 = (f j : Int) := by
  have key : ∀ v j, j < k ^ n → f j = v → (v : Int) ≤ G.getD j 0 := by
    intro v
    induction v using Nat.strongRecOn with
    | _ v ih =>
      intro j hj hv
      cases h1 : oneB (stA n k j)
      · obtain ⟨q, hq, hf⟩ := R.le j hj h1
        have h2 := h.cl rfl j hj h1 q hq
        have h3 := ih (f (nxt n k j q)) (by omega) _ (nxt_lt hn hk hj hq).2.2.1 rfl
        omega
      · have := R.one j hj h1
        have h2 := h.li.dn j hj
        omega
  intro j hj
  have h1 := key _ j hj rfl
  have h2 := h.li.up j hj
  omega
theorem elMost_any (a b : Int) (w : World) : Calls Try.prog 49 #[.int .i64 a, .int .i64 b] w fun e w' => e = .returned (.int .i64 (if b < a then a else b)) ∧ w = w' := by
  by_cases h : b < a
  · rw [if_pos h]
    go_enter Try.func49, Try.ntmps49
    go_wp2
    go_ret
    exact ⟨rfl, rfl⟩
  · rw [if_neg h]
    go_enter Try.func49, Try.ntmps49
    go_wp2
    go_ret
    exact ⟨rfl, rfl⟩
theorem idxP_small {l : List Int} {k : Nat} (h : InK l k) (n : Nat) (hn : n ≤ l.length) (hl : l.length ≤ 5) (hk : k ≤ 5) : idxP l k n ≤ 3125 :=
  Nat.le_trans (Nat.le_of_lt (idxP_is h n hn).1) (pow_small hk (by omega))
theorem elIndex_any (v : Value) (l : List Int) (k : Nat) (w : World) (h : RI w w.heap.size v l) (hl : 0 < l.length ∧ l.length ≤ 5) (hk : k ≤ 5) (hin : InK l k) :
    Calls Try.prog 47 #[v, .int .i64 k] w (RetV w (.int .i64 (idxN l k : Nat))) := by
  have HIN := Lib.hid hin
  obtain ⟨A, c, rfl, hlc, hc⟩ := h
  obtain ⟨b, off, rfl, hbB, hcell⟩ := hc hl.1
  have hl5 : (l.length : Int) ≤ 5 := by omega
  have HC := Lib.hid hcell
  clear hc hcell
  go_enter Try.func47, Try.ntmps47
  go_wp2_with fail
  go_loopw [5, 10] (fun u i wr => ∃ j : Nat, j ≤ l.length ∧ u = .int .i64 (idxP l k j : Nat) ∧ i = .int .i64 j ∧ Below w.heap.size w wr) (fun _ i _ => l.length - (intOf i).toNat)
  case atStart => exact ⟨0, Nat.zero_le _, rfl, rfl, Below.refl _ _⟩
  case round =>
    obtain ⟨j, hj, rfl, rfl, hb⟩ := hrel
    have HB := Lib.hid hb
    by_cases hlt : j < l.length
    · have hcx := (hb.cell (p := ⟨b, off + j, none⟩) hbB).trans (HC.out j hlt)
      have hx := HIN.out.at j hlt
      have hp := idxP_small HIN.out j hj hl.2 hk
      have HN : Hid (((idxP l k (j + 1) : Nat) : Int) = ((idxP l k j * k : Nat) : Int) + l.getD j 0) := by
        show _ = _
        rw [idxP]
        omega
      have hq : idxP l k j * k ≤ 3125 * 5 := Nat.mul_le_mul hp hk
      have hQ : ((idxP l k j : Nat) : Int) * (k : Int) = ((idxP l k j * k : Nat) : Int) := (Int.natCast_mul _ _).symm
      obtain ⟨Q, hQe⟩ : ∃ Q, Q = idxP l k j * k := ⟨_, rfl⟩
      rw [← hQe] at HN hq hQ
      clear hQe hb
      generalize l.getD j 0 = x at hcx hx HN
      generalize idxP l k j = P at hQ hp ⊢
      have hlt' : (j : Int) < (l.length : Int) := by omega
      have hx5 : 0 ≤ x ∧ x < 5 := by omega
      go_wp2_with fail
      go_roundw
      case rel => exact ⟨j + 1, by omega, by rw [HN.out] <;> go_num, by go_num, HB.out⟩
      case measure => simp [intOf]; omega
    · obtain rfl : j = l.length := by omega
      go_wp2_with fail
      go_ret
      exact ⟨rfl, HB.out⟩

end Go.Proofs.Ytgmknndmmpoliaa
