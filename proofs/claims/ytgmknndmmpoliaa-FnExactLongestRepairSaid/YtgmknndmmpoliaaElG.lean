/-
  Chapter 7: all states of n stations: the contracts of both sides, and CountOneToken.
-/
import Derived.Test.YtgmknndmmpoliaaElE
import Derived.Test.YtgmknndmmpoliaaElS
import Derived.Deep.LoopGhost
import Derived.WalkMore
namespace Go.Proofs.Ytgmknndmmpoliaa
open Go.RowKit
set_option maxRecDepth 100000
set_option linter.unusedVariables false

/-- All lists of n numbers below k, in order. -/
def addN (k : Nat) (s : List Int) (x : Nat) : List (List Int) := (List.range x).map fun y : Nat => s ++ [(y : Int)]
def midN (k : Nat) (L : List (List Int)) (j : Nat) : List (List Int) := (L.take j).flatMap fun s => addN k s k
def allN (k : Nat) : Nat → List (List Int)
  | 0 => [[]]
  | i + 1 => midN k (allN k i) (allN k i).length
theorem addN_succ (k : Nat) (s : List Int) (x : Nat) : addN k s (x + 1) = addN k s x ++ [s ++ [(x : Int)]] := by simp [addN, List.range_succ]
theorem addN_length (k : Nat) (s : List Int) (x : Nat) : (addN k s x).length = x := by simp [addN]
theorem midN_succ (k : Nat) (L : List (List Int)) (j : Nat) (hj : j < L.length) : midN k L (j + 1) = midN k L j ++ addN k (L.getD j []) k := by
  unfold midN
  rw [List.take_succ_eq_append_getElem hj, List.flatMap_append]
  simp [List.getD, hj]
theorem midN_length (k : Nat) (L : List (List Int)) (j : Nat) (hj : j ≤ L.length) : (midN k L j).length = j * k := by
  induction j with
  | zero => simp [midN]
  | succ j ih => rw [midN_succ k L j (by omega), List.length_append, ih (by omega), addN_length, Nat.succ_mul]
theorem allN_length (k n : Nat) : (allN k n).length = k ^ n := by
  induction n with
  | zero => rfl
  | succ n ih => rw [allN, midN_length k _ _ (Nat.le_refl _), ih, Nat.pow_succ]
theorem allN_row (k n : Nat) : ∀ s ∈ allN k n, s.length = n := by
  induction n with
  | zero => intro s hs; simp [allN] at hs; rw [hs]; rfl
  | succ n ih =>
    intro s hs
    rw [allN, midN, List.take_length, List.mem_flatMap] at hs
    obtain ⟨t, ht, hs⟩ := hs
    simp only [addN, List.mem_map, List.mem_range] at hs
    obtain ⟨y, _, rfl⟩ := hs
    simp [ih t ht]
theorem pow_small {k n : Nat} (hk : k ≤ 5) (hn : n ≤ 5) : k ^ n ≤ 3125 :=
  Nat.le_trans (Nat.pow_le_pow_left hk n) (Nat.le_trans (Nat.pow_le_pow_right (by omega) hn) (by decide))
/-- What a call gathers and hands back. -/
def RetA (E : TypeId) (w : World) (l : List Int) (e : Ending) (w' : World) : Prop := ∃ u, e = .returned u ∧ Acc E w' w.heap.size u l ∧ Below w.heap.size w w'
theorem cloneA_any (v : Value) (l : List Int) (w : World) (h : RI w w.heap.size v l) (hn : l.length ≤ 1048576) :
    Calls Try.prog 67 #[v] w (RetA 3 w l) := by
  obtain ⟨A, c, rfl, hlc, hc⟩ := h
  obtain ⟨i0, hi, hz0, hz1, hz2⟩ := info_parts int_info
  rcases A with _ | ad
  · have hnil : l = [] := by
      rcases Nat.eq_zero_or_pos l.length with h0 | h0
      · exact List.eq_nil_of_length_eq_zero h0
      · obtain ⟨b, off, hA, _⟩ := hc h0
        cases hA
    subst hnil
    obtain rfl : c = 0 := hlc.2.2 rfl
    have he := fun (wx : World) => Lib.run_eql_slice_nil (P := Try.prog) wx 22 3 none 0 0 0 0 Try.underlying22
    go_enter Try.func67, Try.ntmps67
    go_wp2
    go_ret
    exact ⟨_, rfl, Acc.nil _ _ _, Below.refl _ _⟩
  · have he := fun (wx : World) => Lib.run_eql_slice_nil (P := Try.prog) wx 22 3 (some ad) l.length c 0 0 Try.underlying22
    have hcell : ∀ j u, (ics l)[j]? = some u → (w.alloc (.cells #[] 3)).cell? (ad.add j) = some u := by
      intro j u hj
      have hjl : j < l.length := by
        rcases Nat.lt_or_ge j l.length with h | h
        · exact h
        · rw [List.getElem?_eq_none (by rw [ics_length]; omega)] at hj; cases hj
      obtain ⟨b, off, hA, hb, hcl⟩ := hc (by omega)
      injection hA with hA
      subst hA
      rw [ics_get l j hjl] at hj
      injection hj with hj
      rw [addr_add, World.cell?_alloc_lt w _ _ hb, hcl j hjl, hj]
    have hown : (w.alloc (.cells #[] 3)).ownsRow w.heap.size 3 1 (.slice (some ⟨w.heap.size, 0, none⟩) 0 0) 0 [] := World.ownsRow_made w #[] 0 (Nat.le_refl _) (by simp) rfl
    have hlen := ics_length l
    have HL := Lib.hid hlen
    clear hlen
    go_enter Try.func67, Try.ntmps67
    go_wp2_with (at_builtin; refine wpList_append_own _ rfl _ _ 22 rfl w.heap.size 3 i0 (.int .i64 0) 1 8 Try.underlying22 hi hz0 hz1 hz2 rfl (by decide) (.slice (some ⟨w.heap.size, 0, none⟩) 0 0) 0 [] rfl hown ad l.length c (ics l) rfl (by rw [HL.out]; omega) hcell (ics_oneCell l) (by unfold maxLen; omega) (by omega) (by simp) ?_; intro v1 w1 hown1 hg1 _)
    go_ret
    have e1 : 0 + l.length = l.length := by omega
    rw [e1, List.nil_append] at hown1
    exact ⟨_, rfl, hown1, ((Below.refl _ _).alloc (Nat.le_refl _) _).grown hg1 (by simp) (fun k hk => Nat.le_of_eq (by simpa [Value.ownBlock] using hk))⟩
theorem ownA_any (v : Value) (l : List Int) (w : World) (h : RI w w.heap.size v l) (hn : l.length ≤ 1048576) :
    Calls Try.prog 55 #[v] w (RetA 3 w l) := by
  have h0 := h
  have hsh := Lib.hid h.shape
  obtain ⟨A, c, rfl, hlc, hc⟩ := h
  clear hc
  obtain ⟨i0, hi, hz0, hz1, hz2⟩ := info_parts int_info
  have hb0 : Below w.heap.size w (w.alloc (.cells #[] 3)) := (Below.refl _ _).alloc (Nat.le_refl _) _
  have ha : Acc 3 (w.alloc (.cells #[] 3)) w.heap.size (.slice (some ⟨w.heap.size, 0, none⟩) 0 0) [] := World.ownsRow_made w #[] 0 (Nat.le_refl _) (by simp) rfl
  go_enter Try.func55, Try.ntmps55
  go_wp2_with (at_builtin; refine wpList_cat rfl (.tmp 3) (.tmp 4) 22 rfl 3 i0 Try.underlying22 hi hz0 hz1 hz2 w w.heap.size w.heap.size _ _ _ l rfl ha rfl (h0.below hb0) hsh.out (by simp; omega) hb0 hb0.size ?_; intro v2 w2 ha2 hb2)
  go_ret
  exact ⟨_, rfl, by simpa using ha2, hb2⟩


set_option maxHeartbeats 4000000 in
theorem everyStates_any (n k : Nat) (w : World) (hn : n ≤ 5) (hk : k ≤ 5) :
    Calls Try.prog 51 #[.int .i64 n, .int .i64 k] w fun e w' => ∃ u, e = .returned u ∧ OS 22 3 w' w.heap.size w'.heap.size u (allN k n) ∧ Below w.heap.size w w' := by
  obtain ⟨i0, hi, hz0, hz1, hz2⟩ := info_parts elInts_info
  obtain ⟨j0, hj, hjz0, hjz1, hjz2⟩ := info_parts int_info
  have hn' : (n : Int) ≤ 5 := by omega
  have hk' : (k : Int) ≤ 5 := by omega
  have HO : Hid (OS 22 3 (w.alloc (.cells #[.slice none 0 0] 22)) w.heap.size (w.heap.size + 1) (.slice (some ⟨w.heap.size, 0, none⟩) 1 1) (allN k 0)) :=
    OS.lit1 (lo := w.heap.size) (hi := w.heap.size) rfl (.inl ⟨rfl, none, 0, rfl, by simp, fun _ => rfl⟩) (Nat.le_refl _) (Nat.le_refl _)
  have HW : Hid (Below w.heap.size w (w.alloc (.cells #[.slice none 0 0] 22))) := (Below.refl _ _).alloc (Nat.le_refl _) _
  go_enter Try.func51, Try.ntmps51
  go_wp2_with fail
  have HS2 : Hid ((w.alloc (.cells #[.slice none 0 0] 22)).heap.size = w.heap.size + 1) := by show _ = _; simp
  go_loopg [5, 12] n (fun g s5 s12 wx => ∃ i : Nat, i + g = n ∧ s12 = .int .i64 i ∧ OS 22 3 wx w.heap.size wx.heap.size s5 (allN k i) ∧ Below w.heap.size w wx)
  case atStart => exact ⟨0, by omega, rfl, HO.out.wide (Nat.le_refl _) (by rw [HS2.out]; exact Nat.le_refl _), HW.out⟩
  case round =>
    obtain ⟨i, hig, rfl, hos, hbw⟩ := hrel
    rename World => W1
    cases gk with
    | zero =>
      obtain rfl : i = n := by omega
      have hz : ¬ ((i : Int) < (i : Int)) := by omega
      go_wp2_with fail
      go_ret
      exact ⟨_, rfl, hos, hbw⟩
    | succ g =>
      have hin : (i : Int) < (n : Int) := by omega
      have hL1 : (allN k i).length ≤ 3125 := by rw [allN_length]; exact pow_small hk (by omega)
      have HROW := Lib.hid (allN_row k i)
      have HALL : Hid (allN k (i + 1) = midN k (allN k i) (allN k i).length) := rfl
      have HOS := Lib.hid hos
      have HBW := Lib.hid hbw
      obtain ⟨V, VA, vc, rfl, hV, hlc2, hcells, hrows⟩ := hos.rd
      obtain ⟨L, hL⟩ : ∃ L, L = allN k i := ⟨_, rfl⟩
      rw [← hL] at hL1 HROW HALL HOS hlc2 hcells hrows hV
      rw [← hL]
      clear hL hos hbw
      have hLi : (L.length : Int) ≤ 3125 := by omega
      have HCE := Lib.hid hcells
      have HRO := Lib.hid hrows
      clear hcells hrows hV
      have hml : ∀ j, j ≤ L.length → (midN k L j).length ≤ 15625 := fun j hj => by
        rw [midN_length k L j hj]
        exact Nat.le_trans (Nat.mul_le_mul (Nat.le_trans hj hL1) hk) (by decide)
      have HML := Lib.hid hml
      clear hml
      go_wp2_with fail
      go_loopg [6, 16] L.length (fun g2 s6 s16 wy => ∃ j : Nat, j + g2 = L.length ∧ s16 = .int .i64 j ∧ OS 22 3 wy W1.heap.size wy.heap.size s6 (midN k L j) ∧ Below W1.heap.size W1 wy)
      case atStart => exact ⟨0, by omega, rfl, by simpa [midN] using OS.nil _ _ _ _ _, Below.refl _ _⟩
      case round =>
        obtain ⟨j, hjg, rfl, hos2, hb2⟩ := hrel
        rename World => W2
        have HO2 := Lib.hid hos2
        have HB2 := Lib.hid hb2
        clear hos2 hb2
        cases gk with
        | zero =>
          obtain rfl : j = L.length := by omega
          have hz : ¬ ((L.length : Int) < (L.length : Int)) := by omega
          go_wp2_with fail
          go_roundg g
          case measure => omega
          case rel => exact ⟨i + 1, by omega, by go_num, by rw [HALL.out]; exact HO2.out.wide HBW.out.size (Nat.le_refl _), HBW.out.trans (HB2.out.mono HBW.out.size)⟩
        | succ g2 =>
          have hjl : j < L.length := by omega
          have hjl' : (j : Int) < (L.length : Int) := by omega
          obtain ⟨b, off, rfl, hbB, hcell⟩ := HCE.out (by omega)
          have hcx := (HB2.out.cell (p := ⟨b, off + j, none⟩) hbB).trans (hcell j hjl)
          clear hcell
          have hrow := HRO.out j hjl
          have hsl : (L.getD j []).length = i := HROW.out _ (by simp [List.getD, hjl])
          have HMID := Lib.hid (midN_succ k L j hjl)
          obtain ⟨s, hs⟩ : ∃ s, s = L.getD j [] := ⟨_, rfl⟩
          rw [← hs] at hrow hsl HMID
          have HMJ := Lib.hid (HML.out j (by omega))
          have HMJ1 := Lib.hid (HML.out (j + 1) hjl)
          clear hs
          have hrow0 := hrow
          obtain ⟨A5, c5, e5, _, _⟩ := hrow
          rw [e5] at hcx hrow0
          have HR := Lib.hid hrow0
          have HSL := Lib.hid hsl
          clear e5 hrow0 hsl
          have hs12 : s.length ≤ 5 := by rw [HSL.out]; omega
          have HS5 := Lib.hid hs12
          clear hs12
          generalize hsn : s.length = sn at hcx HR
          have HSN := Lib.hid hsn
          clear hsn
          go_wp2_with fail
          go_loopg [6, 21] k (fun g3 s6 s21 wz => ∃ x : Nat, x + g3 = k ∧ s21 = .int .i64 x ∧ OS 22 3 wz W1.heap.size wz.heap.size s6 (midN k L j ++ addN k s x) ∧ Below W1.heap.size W1 wz)
          case atStart => exact ⟨0, by omega, rfl, by simpa [addN] using HO2.out, HB2.out⟩
          case round =>
            obtain ⟨x, hxg, rfl, hos3, hb3⟩ := hrel
            rename World => W3
            have HO3 := Lib.hid hos3
            have HB3 := Lib.hid hb3
            clear hos3 hb3
            cases gk with
            | zero =>
              obtain rfl : x = k := by omega
              have hz : ¬ ((x : Int) < (x : Int)) := by omega
              go_wp2_with fail
              go_roundg g2
              case measure => omega
              case rel => exact ⟨j + 1, by omega, by go_num, by rw [HMID.out]; exact HO3.out, HB3.out⟩
            | succ g3 =>
              have hxk : (x : Int) < (k : Int) := by omega
              have HC3 := Lib.hid (cloneA_any _ s W3 ((HR.out.below HB3.out).more HB3.out.size) (by have := HS5.out; omega))
              have HADD := Lib.hid (addN_succ k s x)
              have HLEN : Hid ((midN k L j ++ addN k s x).length < 1000000) := by
                show _ < _
                have := HMJ.out
                rw [List.length_append, addN_length]
                omega
              go_wp2_with fail
              refine HC3.out.mono ?_; rintro e W4 ⟨u4, rfl, hacc4, hb4⟩
              have HA4 := Lib.hid hacc4
              have HB4 := Lib.hid hb4
              clear hacc4 hb4
              go_wp2_with (first
                | (at_builtin; refine wpList_push rfl (.tmp 26) (.tmp 28) 22 rfl 3 j0 Try.underlying22 hj hjz0 hjz1 hjz2 W4 W3 W3.heap.size _ s (x : Int) rfl rfl HA4.out rfl (by have := HS5.out; omega) HB4.out.size HB4.out ?_; intro v5 w5 hacc5 hb5; obtain ⟨A8, c8, h8⟩ := acc_shape hacc5; generalize (s ++ [(x : Int)]).length = n8 at h8; subst h8; have HA5 := Lib.hid hacc5; have HB5 := Lib.hid hb5; clear hacc5 hb5)
                | (at_builtin; refine wpList_pushS rfl (.tmp 24) (.tmp 30) 23 rfl 22 3 (by decide) i0 Try.underlying23 hi hz0 hz1 hz2 w5 W1 W1.heap.size W3.heap.size w5.heap.size _ _ (midN k L j ++ addN k s x) (s ++ [(x : Int)]) rfl rfl (HO3.out.step HB5.out (Nat.le_refl _)) HA5.out.oi HB3.out.size (Nat.le_refl _) HB5.out.size rfl HLEN.out (HB3.out.trans (HB5.out.mono HB3.out.size)) ?_; intro v6 w6 hos6 hb6))
              go_roundg g3
              case measure => omega
              case rel => exact ⟨x + 1, by omega, by go_num, by rw [HADD.out, ← List.append_assoc]; exact hos6, hb6⟩


set_option maxHeartbeats 4000000 in
theorem elAll_any (n k : Nat) (w : World) (hn : n ≤ 5) (hk : k ≤ 5) :
    Calls Try.prog 45 #[.int .i64 n, .int .i64 k] w fun e w' => ∃ u, e = .returned u ∧ OS 22 3 w' w.heap.size w'.heap.size u (allN k n) ∧ Below w.heap.size w w' := by
  obtain ⟨i0, hi, hz0, hz1, hz2⟩ := info_parts elInts_info
  obtain ⟨j0, hj, hjz0, hjz1, hjz2⟩ := info_parts int_info
  have hn' : (n : Int) ≤ 5 := by omega
  have hk' : (k : Int) ≤ 5 := by omega
  have HO : Hid (OS 22 3 (w.alloc (.cells #[.slice none 0 0] 22)) w.heap.size (w.heap.size + 1) (.slice (some ⟨w.heap.size, 0, none⟩) 1 1) (allN k 0)) :=
    OS.lit1 (lo := w.heap.size) (hi := w.heap.size) rfl (.inl ⟨rfl, none, 0, rfl, by simp, fun _ => rfl⟩) (Nat.le_refl _) (Nat.le_refl _)
  have HW : Hid (Below w.heap.size w (w.alloc (.cells #[.slice none 0 0] 22))) := (Below.refl _ _).alloc (Nat.le_refl _) _
  go_enter Try.func45, Try.ntmps45
  go_wp2_with fail
  have HS2 : Hid ((w.alloc (.cells #[.slice none 0 0] 22)).heap.size = w.heap.size + 1) := by show _ = _; simp
  go_loopg [5, 6] n (fun g s5 s12 wx => ∃ i : Nat, i + g = n ∧ s12 = .int .i64 i ∧ OS 22 3 wx w.heap.size wx.heap.size s5 (allN k i) ∧ Below w.heap.size w wx)
  case atStart => exact ⟨0, by omega, rfl, HO.out.wide (Nat.le_refl _) (by rw [HS2.out]; exact Nat.le_refl _), HW.out⟩
  case round =>
    obtain ⟨i, hig, rfl, hos, hbw⟩ := hrel
    rename World => W1
    cases gk with
    | zero =>
      obtain rfl : i = n := by omega
      have hz : ¬ ((i : Int) < (i : Int)) := by omega
      go_wp2_with fail
      go_ret
      exact ⟨_, rfl, hos, hbw⟩
    | succ g =>
      have hin : (i : Int) < (n : Int) := by omega
      have hL1 : (allN k i).length ≤ 3125 := by rw [allN_length]; exact pow_small hk (by omega)
      have HROW := Lib.hid (allN_row k i)
      have HALL : Hid (allN k (i + 1) = midN k (allN k i) (allN k i).length) := rfl
      have HOS := Lib.hid hos
      have HBW := Lib.hid hbw
      obtain ⟨V, VA, vc, rfl, hV, hlc2, hcells, hrows⟩ := hos.rd
      obtain ⟨L, hL⟩ : ∃ L, L = allN k i := ⟨_, rfl⟩
      rw [← hL] at hL1 HROW HALL HOS hlc2 hcells hrows hV
      rw [← hL]
      clear hL hos hbw
      have hLi : (L.length : Int) ≤ 3125 := by omega
      have HCE := Lib.hid hcells
      have HRO := Lib.hid hrows
      clear hcells hrows hV
      have hml : ∀ j, j ≤ L.length → (midN k L j).length ≤ 15625 := fun j hj => by
        rw [midN_length k L j hj]
        exact Nat.le_trans (Nat.mul_le_mul (Nat.le_trans hj hL1) hk) (by decide)
      have HML := Lib.hid hml
      clear hml
      go_wp2_with fail
      go_loopg [7, 19] L.length (fun g2 s6 s16 wy => ∃ j : Nat, j + g2 = L.length ∧ s16 = .int .i64 j ∧ OS 22 3 wy W1.heap.size wy.heap.size s6 (midN k L j) ∧ Below W1.heap.size W1 wy)
      case atStart => exact ⟨0, by omega, rfl, by simpa [midN] using OS.nil _ _ _ _ _, Below.refl _ _⟩
      case round =>
        obtain ⟨j, hjg, rfl, hos2, hb2⟩ := hrel
        rename World => W2
        have HO2 := Lib.hid hos2
        have HB2 := Lib.hid hb2
        clear hos2 hb2
        cases gk with
        | zero =>
          obtain rfl : j = L.length := by omega
          have hz : ¬ ((L.length : Int) < (L.length : Int)) := by omega
          go_wp2_with fail
          go_roundg g
          case measure => omega
          case rel => exact ⟨i + 1, by omega, by go_num, by rw [HALL.out]; exact HO2.out.wide HBW.out.size (Nat.le_refl _), HBW.out.trans (HB2.out.mono HBW.out.size)⟩
        | succ g2 =>
          have hjl : j < L.length := by omega
          have hjl' : (j : Int) < (L.length : Int) := by omega
          obtain ⟨b, off, rfl, hbB, hcell⟩ := HCE.out (by omega)
          have hcx := (HB2.out.cell (p := ⟨b, off + j, none⟩) hbB).trans (hcell j hjl)
          clear hcell
          have hrow := HRO.out j hjl
          have hsl : (L.getD j []).length = i := HROW.out _ (by simp [List.getD, hjl])
          have HMID := Lib.hid (midN_succ k L j hjl)
          obtain ⟨s, hs⟩ : ∃ s, s = L.getD j [] := ⟨_, rfl⟩
          rw [← hs] at hrow hsl HMID
          have HMJ := Lib.hid (HML.out j (by omega))
          have HMJ1 := Lib.hid (HML.out (j + 1) hjl)
          clear hs
          have hrow0 := hrow
          obtain ⟨A5, c5, e5, _, _⟩ := hrow
          rw [e5] at hcx hrow0
          have HR := Lib.hid hrow0
          have HSL := Lib.hid hsl
          clear e5 hrow0 hsl
          have hs12 : s.length ≤ 5 := by rw [HSL.out]; omega
          have HS5 := Lib.hid hs12
          clear hs12
          generalize hsn : s.length = sn at hcx HR
          have HSN := Lib.hid hsn
          clear hsn
          go_wp2_with fail
          go_loopg [7, 10] k (fun g3 s6 s21 wz => ∃ x : Nat, x + g3 = k ∧ s21 = .int .i64 x ∧ OS 22 3 wz W1.heap.size wz.heap.size s6 (midN k L j ++ addN k s x) ∧ Below W1.heap.size W1 wz)
          case atStart => exact ⟨0, by omega, rfl, by simpa [addN] using HO2.out, HB2.out⟩
          case round =>
            obtain ⟨x, hxg, rfl, hos3, hb3⟩ := hrel
            rename World => W3
            have HO3 := Lib.hid hos3
            have HB3 := Lib.hid hb3
            clear hos3 hb3
            cases gk with
            | zero =>
              obtain rfl : x = k := by omega
              have hz : ¬ ((x : Int) < (x : Int)) := by omega
              go_wp2_with fail
              go_roundg g2
              case measure => omega
              case rel => exact ⟨j + 1, by omega, by go_num, by rw [HMID.out]; exact HO3.out, HB3.out⟩
            | succ g3 =>
              have hxk : (x : Int) < (k : Int) := by omega
              have HC3 := Lib.hid (ownA_any _ s W3 ((HR.out.below HB3.out).more HB3.out.size) (by have := HS5.out; omega))
              have HADD := Lib.hid (addN_succ k s x)
              have HLEN : Hid ((midN k L j ++ addN k s x).length < 1000000) := by
                show _ < _
                have := HMJ.out
                rw [List.length_append, addN_length]
                omega
              go_wp2_with fail
              refine HC3.out.mono ?_; rintro e W4 ⟨u4, rfl, hacc4, hb4⟩
              have HA4 := Lib.hid hacc4
              have HB4 := Lib.hid hb4
              clear hacc4 hb4
              go_wp2_with (first
                | (at_builtin; refine wpList_push rfl (.tmp 30) (.tmp 32) 22 rfl 3 j0 Try.underlying22 hj hjz0 hjz1 hjz2 W4 W3 W3.heap.size _ s (x : Int) rfl rfl HA4.out rfl (by have := HS5.out; omega) HB4.out.size HB4.out ?_; intro v5 w5 hacc5 hb5; obtain ⟨A8, c8, h8⟩ := acc_shape hacc5; generalize (s ++ [(x : Int)]).length = n8 at h8; subst h8; have HA5 := Lib.hid hacc5; have HB5 := Lib.hid hb5; clear hacc5 hb5)
                | (at_builtin; refine wpList_pushS rfl (.tmp 28) (.tmp 34) 23 rfl 22 3 (by decide) i0 Try.underlying23 hi hz0 hz1 hz2 w5 W1 W1.heap.size W3.heap.size w5.heap.size _ _ (midN k L j ++ addN k s x) (s ++ [(x : Int)]) rfl rfl (HO3.out.step HB5.out (Nat.le_refl _)) HA5.out.oi HB3.out.size (Nat.le_refl _) HB5.out.size rfl HLEN.out (HB3.out.trans (HB5.out.mono HB3.out.size)) ?_; intro v6 w6 hos6 hb6))
              go_roundg g3
              case measure => omega
              case rel => exact ⟨x + 1, by omega, by go_num, by rw [HADD.out, ← List.append_assoc]; exact hos6, hb6⟩

end Go.Proofs.Ytgmknndmmpoliaa
