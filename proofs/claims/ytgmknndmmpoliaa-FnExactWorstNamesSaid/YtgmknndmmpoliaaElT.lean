/-
  Chapter 7: the model's orders, by recursion.
-/
import Derived.Test.YtgmknndmmpoliaaElR
namespace Go.Proofs.Ytgmknndmmpoliaa
open Go.RowKit
set_option maxRecDepth 100000
set_option linter.unusedVariables false

set_option maxHeartbeats 2000000 in
theorem elOrders_any (n : Nat) (hn : 1 ≤ n ∧ n ≤ 6) : ∀ (m : Nat) (v : Value) (l : List Int) (w : World), l.length + m = n → RI w w.heap.size v l → (∀ x ∈ l, 0 ≤ x ∧ x < (n : Int)) →
    Calls Try.prog 64 #[.int .i64 n, v] w fun e w' => ∃ u, e = .returned u ∧ OS 22 3 w' w.heap.size w'.heap.size u (ordF n m l) ∧ Below w.heap.size w w' := by
  obtain ⟨i0, hi, hz0, hz1, hz2⟩ := info_parts elInts_info
  obtain ⟨j0, hj, hjz0, hjz1, hjz2⟩ := info_parts int_info
  have hn' : (1 : Int) ≤ (n : Int) ∧ (n : Int) ≤ 6 := by omega
  intro m
  induction m with
  | zero =>
    intro v l w hl h hd
    have HC := Lib.hid (elOwn_any v l w h (by omega))
    have HL := Lib.hid hl
    obtain ⟨A, c, rfl, hlc, hc⟩ := h
    clear hc hd hl
    have hln : l.length = n := by have := HL.out; omega
    have HLN := Lib.hid hln
    rw [hln] at HC hlc ⊢
    clear hln
    go_enter Try.func64, Try.ntmps64
    go_wp2_with fail
    refine HC.out.mono ?_; rintro e w1 ⟨u1, rfl, ho1, hb1⟩
    have hos := OS.lit1 (T := 22) (w := w1) (g := w1.heap.size) rfl ho1 hb1.size (Nat.le_refl _)
    obtain ⟨A1, c1, rfl, _, _⟩ := ho1.ri
    have HOS := Lib.hid hos
    have HB := Lib.hid (hb1.alloc hb1.size (.cells #[.slice A1 l.length c1] 22))
    clear hos ho1 hb1
    rw [HLN.out] at HOS HB ⊢
    go_wp2_with fail
    go_ret
    exact ⟨_, rfl, HOS.out.wide (Nat.le_refl _) (by simp), HB.out⟩
  | succ m ih =>
    intro v l w hl h hd
    have HIH := Lib.hid ih
    clear ih
    have hl6 : l.length ≤ 5 := by omega
    have hln : (l.length : Int) < (n : Int) := by omega
    have hlb : ((l.length : Int) == (n : Int)) = false := by simp; omega
    have HL := Lib.hid hl
    have HD := Lib.hid hd
    have HSH := Lib.hid h
    obtain ⟨A, c, rfl, hlc, hc⟩ := h
    clear hc hd hl
    have HORD : Hid (ordF n (m + 1) l = ordP n m l n) := rfl
    go_enter Try.func64, Try.ntmps64
    go_wp2_with fail
    go_loopg [5, 6] n (fun g s5 s6 wx => ∃ x : Nat, x + g = n ∧ s6 = .int .i64 x ∧ OS 22 3 wx w.heap.size wx.heap.size s5 (ordP n m l x) ∧ Below w.heap.size w wx)
    case atStart => exact ⟨0, by omega, rfl, by simpa [ordP] using OS.nil _ _ _ _ _, Below.refl _ _⟩
    case round =>
      obtain ⟨x, hxg, rfl, hos, hb⟩ := hrel
      rename World => W1
      have HO := Lib.hid hos
      have HB := Lib.hid hb
      clear hos hb
      cases gk with
      | zero =>
        obtain rfl : x = n := by omega
        have hz : ¬ ((x : Int) < (x : Int)) := by omega
        go_wp2_with fail
        go_ret
        exact ⟨_, rfl, by rw [HORD.out]; exact HO.out, HB.out⟩
      | succ g =>
        have hxn : (x : Int) < (n : Int) := by omega
        have hr1 := (HSH.out.below HB.out).more HB.out.size
        have HH := Lib.hid (l1Has_any _ l (x : Int) W1 hr1 (by omega))
        cases hh : hasI l (x : Int)
        · have HN := Lib.hid (ordP_new (m := m) (n := n) hh)
          rw [hh] at HH
          have HC3 := Lib.hid (ownA_any _ l W1 hr1 (by omega))
          have hpl : (ordP n m l x).length ≤ 46656 * 6 := by
            have h1 := ordP_len_of (n := n) (m := m) l x fun l => ordF_len n m l
            have h2 := capN_small n m hn.2 (by have := HL.out; omega)
            have h3 : x * capN n m ≤ 6 * 46656 := Nat.mul_le_mul (by omega) h2
            omega
          have hfl : (ordF n m (l ++ [(x : Int)])).length ≤ 46656 := Nat.le_trans (ordF_len n m _) (capN_small n m hn.2 (by have := HL.out; omega))
          have hin2 : ∀ y ∈ l ++ [(x : Int)], 0 ≤ y ∧ y < (n : Int) := by
            intro y hy
            rcases List.mem_append.1 hy with hy | hy
            · exact HD.out y hy
            · simp at hy; omega
          have hl2 : (l ++ [(x : Int)]).length + m = n := by have := HL.out; simp; omega
          have HFP := Lib.hid (ordF_pos n m (l ++ [(x : Int)]) hl2 hin2)
          have HLEN : Hid ((ordP n m l x).length + (ordF n m (l ++ [(x : Int)])).length < 1000000) := by show _ < _; omega
          have HL2 := Lib.hid hl2
          have HIN2 := Lib.hid hin2
          clear hh hr1 hpl hfl hl2 hin2
          go_wp2_with fail
          refine HH.out.mono ?_; rintro e w' ⟨rfl, rfl⟩
          go_wp2_with fail
          refine HC3.out.mono ?_; rintro e W4 ⟨u4, rfl, hacc4, hb4⟩
          have HA4 := Lib.hid hacc4
          have HB4 := Lib.hid hb4
          clear hacc4 hb4
          go_wp2_with (first
            | (at_builtin; refine wpList_push rfl (.tmp 26) (.tmp 28) 22 rfl 3 j0 Try.underlying22 hj hjz0 hjz1 hjz2 W4 W1 W1.heap.size _ l (x : Int) rfl rfl HA4.out rfl (by omega) HB4.out.size HB4.out ?_; intro v5 w5 hacc5 hb5)
            | fail)
          have HIC := Lib.hid (HIH.out v5 (l ++ [(x : Int)]) w5 HL2.out hacc5.oi.ri HIN2.out)
          have HB5 := Lib.hid hb5
          clear hacc5 hb5
          refine HIC.out.mono ?_; rintro e W6 ⟨u6, rfl, hos6, hb6⟩
          have HO6 := Lib.hid (hos6.wide (lo' := W1.heap.size) HB5.out.size (Nat.le_refl _))
          have HB6 : Hid (Below W1.heap.size W1 W6) := HB5.out.trans (hb6.mono HB5.out.size)
          clear hos6 hb6
          go_wp2_with (at_builtin; refine wpList_catS rfl (.tmp 23) (.tmp 30) 23 rfl 22 3 (by decide) i0 Try.underlying23 hi hz0 hz1 hz2 w w.heap.size W1.heap.size W6.heap.size _ _ (ordP n m l x) (ordF n m (l ++ [(x : Int)])) rfl (HO.out.step HB6.out (Nat.le_refl _)) HO6.out HFP.out HB.out.size (Nat.le_refl _) HB6.out.size rfl HLEN.out (HB.out.trans (HB6.out.mono HB.out.size)) ?_; intro v7 w7 hos7 hb7)
          go_roundg g
          case measure => omega
          case rel => exact ⟨x + 1, by omega, by go_num, by rw [HN.out]; exact hos7, hb7⟩
        · have HN := Lib.hid (ordP_has (m := m) (n := n) hh)
          rw [hh] at HH
          clear hh hr1
          go_wp2_with fail
          refine HH.out.mono ?_; rintro e w' ⟨rfl, rfl⟩
          go_wp2_with fail
          go_roundg g
          case measure => omega
          case rel => exact ⟨x + 1, by omega, by go_num, by rw [HN.out]; exact HO.out, HB.out⟩

end Go.Proofs.Ytgmknndmmpoliaa
