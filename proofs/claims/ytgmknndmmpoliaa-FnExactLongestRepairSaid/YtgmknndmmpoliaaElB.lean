/-
  Chapter 7: over how many links names go: the contracts of the program and of the model.
-/
import Derived.Test.YtgmknndmmpoliaaElA
import Derived.Test.YtgmknndmmpoliaaAcc
import Derived.Deep.QuietTactic
import Derived.Deep.LoopGhost
import Derived.WalkMore
namespace Go.Proofs.Ytgmknndmmpoliaa
open Go.RowKit
set_option maxRecDepth 100000
set_option linter.unusedVariables false

theorem elPut_at {E : TypeId} {w : World} {lo hi : Nat} {v : Value} {l : List Int} (h : OI E w lo hi v l) (k : Nat) (hk : k < l.length) :
    ∃ b c, v = .slice (some ⟨b, 0, none⟩) l.length c ∧ lo ≤ b ∧ b < hi ∧ b < w.heap.size ∧ w.cell? ⟨b, k, none⟩ = some (.int .i64 (l.getD k 0)) ∧ w.frozen? ⟨b, k, none⟩ = false ∧
      ∀ x, OI E (w.setCell ⟨b, k, none⟩ (.int .i64 x)) lo hi v (l.set k x) := by
  rcases h with ⟨rfl, _⟩ | ⟨g, c, rfl, h1, h2, hr⟩
  · simp at hk
  · obtain ⟨_, hs, _⟩ := row_parts hr
    refine ⟨g, c, rfl, h1, h2, hs, ?_, World.ownsRow.frozenAt hr k, fun x => ?_⟩
    · rw [World.ownsRow.cellAt hr k (by omega), ics_get l k hk]
    · have e : (ics l).set k (.int .i64 x) = ics (l.set k x) := by simp [ics, List.map_set]
      have hs := (World.ownsRow.stored hr k (.int .i64 x)).1
      rw [e] at hs
      exact .inr ⟨g, c, by rw [List.length_set], h1, h2, by rw [List.length_set]; exact hs⟩
/-- Where a name is behind k links, in a direction: d is 1 or one less than the number of stations. -/
def posD (n d s k : Nat) : Nat := (s + k * d) % n
theorem posD_zero (n d s : Nat) (hs : s < n) : posD n d s 0 = s := by simp [posD, Nat.mod_eq_of_lt hs]
theorem posD_succ (n d s k : Nat) : posD n d s (k + 1) = (posD n d s k + d) % n := by
  unfold posD
  rw [Nat.mod_add_mod, Nat.add_mul, Nat.one_mul, Nat.add_assoc]
theorem posD_lt (n d s k : Nat) (hn : 0 < n) : posD n d s k < n := Nat.mod_lt _ hn
/-- Does the station there take the name out? -/
def gD (l : List Int) (s d k : Nat) : Bool := decide (l.getD s 0 < l.getD (posD l.length d s k) 0)
theorem gD_home (l : List Int) (s : Nat) (hs : s < l.length) : gD l s 1 l.length = false := by
  unfold gD posD
  rw [Nat.mul_one, Nat.add_mod_right, Nat.mod_eq_of_lt hs]
  simp
theorem posD_ne (n s k : Nat) (hs : s < n) (h0 : 0 < k) (hk : k < n) : posD n 1 s k ≠ s := by
  unfold posD
  rw [Nat.mul_one]
  rcases Nat.lt_or_ge (s + k) n with h | h
  · rw [Nat.mod_eq_of_lt h]; omega
  · have e : s + k = (s + k - n) + n := by omega
    rw [e, Nat.add_mod_right, Nat.mod_eq_of_lt (by omega)]; omega
/-- All names, over how many links they go. -/
def passI (l : List Int) (i : Nat) : Int := (stopN (gD l i 1) 0 l.length : Nat)
def passT (l : List Int) (k : Nat) : List Int := (List.range k).map (passI l)
def passL (l : List Int) : List Int := passT l l.length
theorem passT_succ (l : List Int) (k : Nat) : passT l (k + 1) = passT l k ++ [passI l k] := by simp [passT, List.range_succ]
theorem passT_length (l : List Int) (k : Nat) : (passT l k).length = k := by simp [passT]
theorem passI_in (l : List Int) (i : Nat) : 0 ≤ passI l i ∧ passI l i ≤ l.length := by
  have := stopN_le (gD l i 1) 0 l.length
  unfold passI
  omega
theorem passL_in (l : List Int) : ∀ x ∈ passL l, 0 ≤ x ∧ x ≤ l.length := by
  intro x hx
  unfold passL passT at hx
  obtain ⟨i, _, rfl⟩ := List.mem_map.1 hx
  exact passI_in l i


theorem elbehind_any (n s : Nat) (w : World) (hn : 2 ≤ n ∧ n ≤ 12) (hs : s < n) :
    Calls Try.prog 61 #[.agg #[.int .i64 n, .slice none 0 0], .int .i64 s] w (RetV w (.int .i64 (((s + 1) % n : Nat) : Int))) := by
  have hW : Below w.heap.size w (w.alloc (.cells #[.int .i64 n, .slice none 0 0] 57)) := (Below.refl _ _).alloc (Nat.le_refl _) _
  have e1 : ((s : Int) + 1) % (n : Int) = (((s + 1) % n : Nat) : Int) := by
    rw [Int.natCast_emod]
    congr 1 <;> omega
  have HE : Hid (((s : Int) + 1).tmod (n : Int) = (((s + 1) % n : Nat) : Int)) := by
    show _ = _
    rw [Int.tmod_eq_emod_of_nonneg (by omega), e1]
  have e2 := Nat.mod_lt (s + 1) (show 0 < n by omega)
  have HF := Lib.hid e1
  clear e1
  have e4 : (n : Int) ≠ 0 := by omega
  have e5 : (2 : Int) ≤ (n : Int) ∧ (n : Int) ≤ 12 := by omega
  have e6 : (s : Int) < (n : Int) := by omega
  generalize (s + 1) % n = t at HE HF e2 ⊢
  go_enter Try.func61, Try.ntmps61
  go_wp2
  go_ret
  exact ⟨by first | exact rfl | simpa using HF.out, hW⟩

set_option maxHeartbeats 1000000 in
theorem linksbehind_any (v : Value) (l : List Int) (s most : Nat) (w : World) (h : RI w w.heap.size v l) (hn : 2 ≤ l.length ∧ l.length ≤ 12) (hs : s < l.length) (hm : most ≤ 12) :
    Calls Try.prog 63 #[v, .int .i64 s, .int .i64 most, .func (.func 61) #[] #[]] w
      (RetV w (.tuple #[.int .i64 (stopN (gD l s 1) 0 most : Nat), .bool (ansN (gD l s 1) 0 most)])) := by
  obtain ⟨A, c, rfl, hlc, hc⟩ := h
  obtain ⟨b, off, rfl, hbB, hcell⟩ := hc (by omega)
  have HC := Lib.hid hcell
  clear hc hcell
  have hB0 := BK.made w 57 #[.int .i64 l.length, .slice none 0 0]
  have hW : Below w.heap.size w (w.alloc (.cells #[.int .i64 l.length, .slice none 0 0] 57)) := (Below.refl _ _).alloc (Nat.le_refl _) _
  obtain ⟨n, hnn⟩ : ∃ n, n = l.length := ⟨_, rfl⟩
  rw [← hnn] at hn hs hlc hB0 hW
  rw [← hnn]
  obtain ⟨g, hg⟩ : ∃ g, g = gD l s 1 := ⟨_, rfl⟩
  rw [← hg]
  have HG : Hid (∀ k, g k = decide (l.getD s 0 < l.getD (posD n 1 s k) 0)) := by
    show ∀ k, _
    intro k
    rw [hg, gD, ← hnn]
  have HN := Lib.hid hnn
  clear hg hnn
  have hn' : (2 : Int) ≤ (n : Int) ∧ (n : Int) ≤ 12 := by omega
  have hm' : (most : Int) ≤ 12 := by omega
  have hs' : (s : Int) < (n : Int) := by omega
  obtain ⟨w0, hw0⟩ : ∃ w0, w0 = w.alloc (.cells #[.int .i64 n, .slice none 0 0] 57) := ⟨_, rfl⟩
  have B0 : BK w0 w.heap.size 57 #[.int .i64 n, .slice none 0 0] := hw0 ▸ hB0
  have T0 : Below w.heap.size w w0 := hw0 ▸ hW
  have s0 : w0.heap.size = w.heap.size + 1 := by rw [hw0]; simp
  have S0 := Lib.hid s0
  clear s0 hW hB0
  go_enter Try.func63, Try.ntmps63
  go_wp2_with fail
  rw [← hw0]
  clear hw0
  go_loopw [11, 18] (fun u i wr => ∃ k : Nat, k ≤ most ∧ u = .int .i64 (posD n 1 s k : Nat) ∧ i = .int .i64 k ∧ Hid (stopN g k (most - k) = stopN g 0 most) ∧ Hid (ansN g k (most - k) = ansN g 0 most) ∧ Below w0.heap.size w0 wr) (fun _ i _ => most - (intOf i).toNat)
  case atStart => exact ⟨0, Nat.zero_le _, by rw [posD_zero n _ s hs], rfl, rfl, rfl, Below.refl _ _⟩
  case round =>
    obtain ⟨k, hk, rfl, rfl, HS, HA, hb⟩ := hrel
    have hbk := B0.step hb
    have q0 := hbk.cell 0
    have q1 := hbk.cell 1
    simp at q0 q1
    by_cases hlt : k < most
    · have hp := posD_lt n 1 s k (by omega)
      have HC1 := Lib.hid (elbehind_any n (posD n 1 s k) wr hn hp)
      have HP := Lib.hid (posD_succ n 1 s k)
      have hp2 := posD_lt n 1 s (k + 1) (by omega)
      have HX : Hid (most - k = (most - (k + 1)) + 1) := by show _ = _; omega
      have HG1 := Lib.hid (HG.out (k + 1))
      rw [← HP.out] at HC1
      have hc1 := HC.out s (by rw [← HN.out]; exact hs)
      have hc2 := HC.out (posD n 1 s (k + 1)) (by rw [← HN.out]; exact hp2)
      have HB := Lib.hid (T0.trans (hb.mono T0.size))
      have hbw := hb.size
      have HZ : Hid (b < wr.heap.size) := by show _ < _; have := T0.size; omega
      have HHb := Lib.hid hb
      have HBS := Lib.hid hbw
      clear hb hbk hbw
      obtain ⟨p2, hpp⟩ : ∃ p2, p2 = posD n 1 s (k + 1) := ⟨_, rfl⟩
      rw [← hpp] at HC1 hp2 HG1 hc2
      have HPP := Lib.hid hpp
      clear hpp HP
      generalize posD n 1 s k = p at HC1 hp ⊢
      have hp' : (p : Int) < (n : Int) := by omega
      have hp2' : (p2 : Int) < (n : Int) := by omega
      generalize l.getD s 0 = x at hc1 HG1
      generalize l.getD p2 0 = y at hc2 HG1
      go_wp2_with fail
      refine HC1.out.mono ?_; rintro e w1 ⟨rfl, hb1⟩
      have hc1a := (hb1.cell (p := ⟨b, off + s, none⟩) HZ.out).trans ((HB.out.cell (p := ⟨b, off + s, none⟩) hbB).trans hc1)
      have hc2a := (hb1.cell (p := ⟨b, off + p2, none⟩) HZ.out).trans ((HB.out.cell (p := ⟨b, off + p2, none⟩) hbB).trans hc2)
      have HB1 := Lib.hid (HHb.out.trans (hb1.mono HBS.out))
      clear hc1 hc2 hb1
      rcases Int.lt_or_le x y with hxy | hxy
      · have HT : Hid (stopN g 0 most = k + 1) := by
          show _ = _
          rw [← HS.out, HX.out, stopN, HG1.out, if_pos (by simpa using hxy)]
        have HU : Hid (ansN g 0 most = false) := by
          show _ = _
          rw [← HA.out, HX.out, ansN, HG1.out, if_pos (by simpa using hxy)]
        go_wp2_with fail
        go_quiet (fail)
        go_wp2_with fail
        go_ret2
        exact ⟨by rw [HT.out, HU.out]; rfl, T0.trans ((below_drewN HB1.out _).mono T0.size)⟩
      · have HT : Hid (stopN g (k + 1) (most - (k + 1)) = stopN g 0 most) := by
          show _ = _
          rw [← HS.out, HX.out, stopN, HG1.out, if_neg (by simpa using hxy)]
        have HU : Hid (ansN g (k + 1) (most - (k + 1)) = ansN g 0 most) := by
          show _ = _
          rw [← HA.out, HX.out, ansN, HG1.out, if_neg (by simpa using hxy)]
        go_wp2_with fail
        go_quiet (fail)
        go_wp2_with fail
        go_roundw
        case rel => exact ⟨k + 1, by omega, by rw [HPP.out], by go_num, HT, HU, below_drewN HB1.out _⟩
        case measure => simp [intOf]; omega
    · obtain rfl : k = most := by omega
      have HT : Hid (stopN g 0 k = k) := by
        show _ = _
        rw [← HS.out, Nat.sub_self, stopN]
      have HU : Hid (ansN g 0 k = true) := by
        show _ = _
        rw [← HA.out, Nat.sub_self, ansN]
      go_wp2_with fail
      go_ret2
      exact ⟨by rw [HT.out, HU.out]; first | exact rfl | simp, T0.trans (hb.mono T0.size)⟩

end Go.Proofs.Ytgmknndmmpoliaa
