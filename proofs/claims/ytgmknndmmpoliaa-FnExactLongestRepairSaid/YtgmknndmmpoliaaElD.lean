/-
  Chapter 7: states: the contracts of AreStates, HoldersOf, FireStation, IsOneToken, both sides.
-/
import Derived.Test.YtgmknndmmpoliaaElB
import Derived.Test.YtgmknndmmpoliaaClone
import Derived.Test.YtgmknndmmpoliaaMathSt
namespace Go.Proofs.Ytgmknndmmpoliaa
open Go.RowKit
set_option maxRecDepth 100000
set_option linter.unusedVariables false

/-- What areStatesFor says. -/
def stOk (l : List Int) (k : Int) : Bool := wi k 2 9 && wi l.length 2 12 && okAll 0 (k - 1) l
theorem stOk_k {l : List Int} {k : Int} (h : stOk l k = true) : 2 ≤ k ∧ k ≤ 9 := by simp [stOk, wi] at h; exact h.1.1
theorem stOk_len {l : List Int} {k : Int} (h : stOk l k = true) : 2 ≤ l.length ∧ l.length ≤ 12 := by simp [stOk, wi] at h; omega
theorem stOk_in {l : List Int} {k : Int} (h : stOk l k = true) : InK l k := by
  intro x hx
  simp only [stOk, Bool.and_eq_true] at h
  have h1 := h.2
  unfold okAll at h1
  rw [List.all_eq_true] at h1
  have := h1 x hx
  simp at this
  omega
theorem wi_yes {a lo hi : Int} (h : lo ≤ a ∧ a ≤ hi) : wi a lo hi = true := by simp [wi, h]
theorem wi_no {a lo hi : Int} (h : ¬ (lo ≤ a ∧ a ≤ hi)) : wi a lo hi = false := by simpa [wi] using h


theorem implHolds_any (v : Value) (l : List Int) (s : Nat) (w : World) (h : RI w w.heap.size v l) (hn : 2 ≤ l.length ∧ l.length ≤ 12) (hs : s < l.length) :
    Calls Try.prog 85 #[v, .int .i64 s] w (RetV w (.bool (holdB l s))) := by
  obtain ⟨A, c, rfl, hlc, hc⟩ := h
  obtain ⟨b, off, rfl, hbB, hcell⟩ := hc (by omega)
  clear hc
  have hn' : (2 : Int) ≤ (l.length : Int) ∧ (l.length : Int) ≤ 12 := by omega
  rcases s with _ | s
  · have c0 := hcell 0 (by omega)
    have c1 := hcell (l.length - 1) (by omega)
    rw [Nat.add_zero] at c0
    have HR : Hid (holdB l 0 = (l.getD 0 0 == l.getD (l.length - 1) 0)) := by show _ = _; simp [holdB]
    rw [HR.out]
    obtain ⟨q, hq⟩ : ∃ q, q = l.length - 1 := ⟨_, rfl⟩
    rw [← hq] at c1 ⊢
    have e1 : (l.length : Int) - 1 = (q : Int) := by omega
    have e2 : IntKind.i64.wrap (q : Int) = (q : Int) := IntWalk.i64_in _ (by omega)
    have e3 : (q : Int) < (l.length : Int) := by omega
    have e4 : q < l.length := by omega
    clear hq hcell HR
    generalize l.getD 0 0 = x at c0 ⊢
    generalize l.getD q 0 = y at c1 ⊢
    have e0 : ((0 : Nat) : Int) = 0 := rfl
    rw [e0]
    clear e0
    generalize l.length = n at *
    go_enter Try.func85, Try.ntmps85
    go_wp2_with fail
    go_quiet (fail)
    go_wp2_with fail
    go_ret
    exact ⟨by first | rfl | simp, below_drewN (Below.refl _ _) _⟩
  · have c0 := hcell (s + 1) (by omega)
    have c1 := hcell s (by omega)
    have HR : Hid (holdB l (s + 1) = (l.getD (s + 1) 0 != l.getD s 0)) := by show _ = _; simp [holdB]
    rw [HR.out]
    obtain ⟨q, hq⟩ : ∃ q, q = s + 1 := ⟨_, rfl⟩
    rw [← hq] at c0 hs ⊢
    have e1 : (q : Int) - 1 = (s : Int) := by omega
    have e2 : IntKind.i64.wrap (s : Int) = (s : Int) := IntWalk.i64_in _ (by omega)
    have e3 : (q : Int) < (l.length : Int) := by omega
    have e4 : s < l.length := by omega
    have e5 : (s : Int) < (l.length : Int) := by omega
    have e6 : ((q : Int) == 0) = false := by simp; omega
    have e7 : 0 < q := by omega
    clear hq hcell HR
    generalize l.getD q 0 = x at c0 ⊢
    generalize l.getD s 0 = y at c1 ⊢
    generalize l.length = n at *
    go_enter Try.func85, Try.ntmps85
    go_wp2_with fail
    go_quiet (fail)
    go_wp2_with fail
    go_ret
    exact ⟨by first | rfl | simp, below_drewN (Below.refl _ _) _⟩
theorem implHolders_any (v : Value) (l : List Int) (w : World) (h : RI w w.heap.size v l) (hn : 2 ≤ l.length ∧ l.length ≤ 12) :
    Calls Try.prog 72 #[v] w (RetL 3 w (holdN l l.length)) := by
  have h0 := h
  obtain ⟨A, c, rfl, hlc, hc⟩ := h
  clear hc
  obtain ⟨i0, hi, hz0, hz1, hz2⟩ := info_parts int_info
  have hn' : (2 : Int) ≤ (l.length : Int) ∧ (l.length : Int) ≤ 12 := by omega
  go_enter Try.func72, Try.ntmps72
  go_wp2_with fail
  go_loopw [3, 7] (fun u i wr => ∃ k : Nat, k ≤ l.length ∧ i = .int .i64 k ∧ Acc 3 wr w.heap.size u (holdN l k) ∧ Below w.heap.size w wr) (fun _ i _ => l.length - (intOf i).toNat)
  case atStart => exact ⟨0, Nat.zero_le _, rfl, Acc.nil _ _ _, Below.refl _ _⟩
  case round =>
    obtain ⟨k, hk, rfl, hacc, hb⟩ := hrel
    by_cases hlt : k < l.length
    · have HC := Lib.hid (implHolds_any _ l k wr ((h0.below hb).more hb.size) hn hlt)
      have hln := holdN_len l k
      cases hh : holdB l k
      · rw [hh] at HC
        have HN := Lib.hid (holdN_no hh)
        have HA := Lib.hid hacc
        have HB := Lib.hid hb
        clear hh hacc hb hln
        go_wp2_with fail
        refine HC.out.mono ?_; rintro e w2 ⟨rfl, hb2⟩
        have ha2 := HA.out.step hb2
        have hb3 := HB.out.trans (hb2.mono HB.out.size)
        clear hb2
        go_wp2_with fail
        go_roundw
        case rel => exact ⟨k + 1, by omega, by go_num, by rw [HN.out]; exact ha2, hb3⟩
        case measure => simp [intOf]; omega
      · rw [hh] at HC
        have HN := Lib.hid (holdN_yes hh)
        have HA := Lib.hid hacc
        have HB := Lib.hid hb
        clear hh hacc hb
        go_wp2_with fail
        refine HC.out.mono ?_; rintro e w2 ⟨rfl, hb2⟩
        have ha2 := HA.out.step hb2
        have hb3 := HB.out.trans (hb2.mono HB.out.size)
        clear hb2
        go_wp2_with (at_builtin; refine wpList_push rfl (.tmp 13) (.tmp 15) 22 rfl 3 i0 Try.underlying22 hi hz0 hz1 hz2 w2 w w.heap.size _ (holdN l k) (k : Int) rfl rfl ha2 rfl (by omega) hb3.size hb3 ?_; intro v3 w3 hacc3 hb4)
        go_roundw
        case rel => first | exact ⟨k + 1, by omega, by go_num, by rw [HN.out]; exact hacc3, hb4⟩ | exact ⟨k + 1, by omega, by omega, by rw [HN.out]; exact hacc3⟩
        case measure => simp [intOf]; omega
    · obtain rfl : k = l.length := by omega
      go_wp2
      go_ret
      exact ⟨_, rfl, hacc.oi, hb⟩


set_option maxHeartbeats 1000000 in
theorem implFire_any (v : Value) (l : List Int) (k : Int) (s : Nat) (w : World) (h : RI w w.heap.size v l) (hn : 2 ≤ l.length ∧ l.length ≤ 12) (hk : 2 ≤ k ∧ k ≤ 9) (hin : InK l k) (hs : s < l.length) :
    Calls Try.prog 83 #[v, .int .i64 k, .int .i64 s] w (RetL 3 w (fireL l k s)) := by
  have HC := Lib.hid (clone_any v l w h (by omega))
  obtain ⟨A, c, rfl, hlc, hc⟩ := h
  obtain ⟨b, off, rfl, hbB, hcell⟩ := hc (by omega)
  clear hc
  have hn' : (2 : Int) ≤ (l.length : Int) ∧ (l.length : Int) ≤ 12 := by omega
  rcases s with _ | s
  · have c0 := hcell 0 (by omega)
    rw [Nat.add_zero] at c0
    have hx := hin.at 0 (by omega)
    have HR : Hid (fireL l k 0 = l.set 0 ((l.getD 0 0 + 1) % k)) := by show _ = _; simp [fireL]
    rw [HR.out]
    have e0 : ((0 : Nat) : Int) = 0 := rfl
    rw [e0]
    clear e0 hcell HR hin
    have hl0 : 0 < l.length := by omega
    obtain ⟨x, hxx⟩ : ∃ x, x = l.getD 0 0 := ⟨_, rfl⟩
    rw [← hxx] at c0 hx ⊢
    have HXX := Lib.hid hxx
    clear hxx
    have e1 : (x + 1).tmod k = (x + 1) % k := Int.tmod_eq_emod_of_nonneg (by omega)
    have h1 := Int.emod_nonneg (x + 1) (show k ≠ 0 by omega)
    have h2 := Int.emod_lt_of_pos (x + 1) (show 0 < k by omega)
    have e4 : k ≠ 0 := by omega
    obtain ⟨y, hy⟩ : ∃ y, y = (x + 1) % k := ⟨_, rfl⟩
    rw [← hy] at e1 h1 h2 ⊢
    have e3 : (x + 1) % k = y := hy.symm
    have e2 : IntKind.i64.wrap y = y := IntWalk.i64_in _ (by omega)
    obtain ⟨L, hL⟩ : ∃ L, L = l.set 0 y := ⟨_, rfl⟩
    rw [← hL]
    have HL := Lib.hid hL
    clear hL hy
    go_enter Try.func83, Try.ntmps83
    go_wp2_with fail
    refine HC.out.mono ?_; rintro e w1 ⟨u, rfl, ho, hb1⟩
    obtain ⟨g, c3, hv, hg0, hgh, hgs, hcl, hfz, hput⟩ := elPut_at ho 0 (by omega)
    subst hv
    rw [← HXX.out] at hcl
    have x0 := (hb1.cell (p := ⟨b, off, none⟩) hbB).trans c0
    have hst := hput y
    have HB := Lib.hid (hb1.setCell (p := ⟨g, 0, none⟩) hg0 (.int .i64 y))
    have hsz : ∀ x, (w1.setCell ⟨g, 0, none⟩ x).heap.size = w1.heap.size := fun x => by simp [World.setCell]
    have HST : Hid (OI 3 (w1.setCell ⟨g, 0, none⟩ (.int .i64 y)) w.heap.size (w1.setCell ⟨g, 0, none⟩ (.int .i64 y)).heap.size (.slice (some ⟨g, 0, none⟩) l.length c3) L) := by
      show OI _ _ _ _ _ _
      rw [hsz, HL.out]
      exact hst
    clear hst hput ho hb1 hsz
    go_wp2_with fail
    go_ret
    exact ⟨_, rfl, HST.out, HB.out⟩
  · have c0 := hcell s (by omega)
    have HR : Hid (fireL l k (s + 1) = l.set (s + 1) (l.getD s 0)) := by show _ = _; simp [fireL]
    rw [HR.out]
    clear hcell HR hin
    obtain ⟨q, hq⟩ : ∃ q, q = s + 1 := ⟨_, rfl⟩
    rw [← hq] at hs ⊢
    have e1 : (q : Int) - 1 = (s : Int) := by omega
    have e3 : (q : Int) < (l.length : Int) := by omega
    have e4 : s < l.length := by omega
    have e5 : (s : Int) < (l.length : Int) := by omega
    have e6 : ((q : Int) == 0) = false := by simp; omega
    have e7 : 0 < q := by omega
    clear hq
    obtain ⟨x, hxx⟩ : ∃ x, x = l.getD s 0 := ⟨_, rfl⟩
    rw [← hxx] at c0 ⊢
    obtain ⟨L, hL⟩ : ∃ L, L = l.set q x := ⟨_, rfl⟩
    rw [← hL]
    have HXX := Lib.hid hxx
    have HL := Lib.hid hL
    clear hL hxx
    go_enter Try.func83, Try.ntmps83
    go_wp2_with fail
    refine HC.out.mono ?_; rintro e w1 ⟨u, rfl, ho, hb1⟩
    obtain ⟨g, c3, hv, hg0, hgh, hgs, hcl, hfz, hput⟩ := elPut_at ho q hs
    subst hv
    have x0 := (hb1.cell (p := ⟨b, off + s, none⟩) hbB).trans c0
    skip
    have hst := hput x
    have HB := Lib.hid (hb1.setCell (p := ⟨g, q, none⟩) hg0 (.int .i64 x))
    have hsz : ∀ x, (w1.setCell ⟨g, q, none⟩ x).heap.size = w1.heap.size := fun x => by simp [World.setCell]
    have HST : Hid (OI 3 (w1.setCell ⟨g, q, none⟩ (.int .i64 x)) w.heap.size (w1.setCell ⟨g, q, none⟩ (.int .i64 x)).heap.size (.slice (some ⟨g, 0, none⟩) l.length c3) L) := by
      show OI _ _ _ _ _ _
      rw [hsz, HL.out]
      exact hst
    clear hst hput ho hb1 hsz
    generalize l.getD q 0 = y at hcl
    go_wp2_with fail
    go_ret
    exact ⟨_, rfl, HST.out, HB.out⟩


theorem specHolds_any (v : Value) (l : List Int) (s : Nat) (w : World) (h : RI w w.heap.size v l) (hn : 2 ≤ l.length ∧ l.length ≤ 12) (hs : s < l.length) :
    Calls Try.prog 70 #[v, .int .i64 s] w (RetV w (.bool (holdB l s))) := by
  obtain ⟨A, c, rfl, hlc, hc⟩ := h
  obtain ⟨b, off, rfl, hbB, hcell⟩ := hc (by omega)
  clear hc
  have hn' : (2 : Int) ≤ (l.length : Int) ∧ (l.length : Int) ≤ 12 := by omega
  rcases s with _ | s
  · have c0 := hcell 0 (by omega)
    have c1 := hcell (l.length - 1) (by omega)
    rw [Nat.add_zero] at c0
    have HR : Hid (holdB l 0 = (l.getD 0 0 == l.getD (l.length - 1) 0)) := by show _ = _; simp [holdB]
    rw [HR.out]
    obtain ⟨q, hq⟩ : ∃ q, q = l.length - 1 := ⟨_, rfl⟩
    rw [← hq] at c1 ⊢
    have e1 : (l.length : Int) - 1 = (q : Int) := by omega
    have e2 : IntKind.i64.wrap (q : Int) = (q : Int) := IntWalk.i64_in _ (by omega)
    have e3 : (q : Int) < (l.length : Int) := by omega
    have e4 : q < l.length := by omega
    clear hq hcell HR
    generalize l.getD 0 0 = x at c0 ⊢
    generalize l.getD q 0 = y at c1 ⊢
    have e0 : ((0 : Nat) : Int) = 0 := rfl
    rw [e0]
    clear e0
    generalize l.length = n at *
    go_enter Try.func70, Try.ntmps70
    go_wp2_with fail
    go_quiet (fail)
    go_wp2_with fail
    go_ret
    exact ⟨by first | rfl | simp, below_drewN (Below.refl _ _) _⟩
  · have c0 := hcell (s + 1) (by omega)
    have c1 := hcell s (by omega)
    have HR : Hid (holdB l (s + 1) = (l.getD (s + 1) 0 != l.getD s 0)) := by show _ = _; simp [holdB]
    rw [HR.out]
    obtain ⟨q, hq⟩ : ∃ q, q = s + 1 := ⟨_, rfl⟩
    rw [← hq] at c0 hs ⊢
    have e1 : (q : Int) - 1 = (s : Int) := by omega
    have e2 : IntKind.i64.wrap (s : Int) = (s : Int) := IntWalk.i64_in _ (by omega)
    have e3 : (q : Int) < (l.length : Int) := by omega
    have e4 : s < l.length := by omega
    have e5 : (s : Int) < (l.length : Int) := by omega
    have e6 : ((q : Int) == 0) = false := by simp; omega
    have e7 : 0 < q := by omega
    clear hq hcell HR
    generalize l.getD q 0 = x at c0 ⊢
    generalize l.getD s 0 = y at c1 ⊢
    generalize l.length = n at *
    go_enter Try.func70, Try.ntmps70
    go_wp2_with fail
    go_quiet (fail)
    go_wp2_with fail
    go_ret
    exact ⟨by first | rfl | simp, below_drewN (Below.refl _ _) _⟩
theorem specHolders_any (v : Value) (l : List Int) (w : World) (h : RI w w.heap.size v l) (hn : 2 ≤ l.length ∧ l.length ≤ 12) :
    Calls Try.prog 46 #[v] w (RetL 3 w (holdN l l.length)) := by
  have h0 := h
  obtain ⟨A, c, rfl, hlc, hc⟩ := h
  clear hc
  obtain ⟨i0, hi, hz0, hz1, hz2⟩ := info_parts int_info
  have hn' : (2 : Int) ≤ (l.length : Int) ∧ (l.length : Int) ≤ 12 := by omega
  go_enter Try.func46, Try.ntmps46
  go_wp2_with fail
  go_loopw [3, 7] (fun u i wr => ∃ k : Nat, k ≤ l.length ∧ i = .int .i64 k ∧ Acc 3 wr w.heap.size u (holdN l k) ∧ Below w.heap.size w wr) (fun _ i _ => l.length - (intOf i).toNat)
  case atStart => exact ⟨0, Nat.zero_le _, rfl, Acc.nil _ _ _, Below.refl _ _⟩
  case round =>
    obtain ⟨k, hk, rfl, hacc, hb⟩ := hrel
    by_cases hlt : k < l.length
    · have HC := Lib.hid (specHolds_any _ l k wr ((h0.below hb).more hb.size) hn hlt)
      have hln := holdN_len l k
      cases hh : holdB l k
      · rw [hh] at HC
        have HN := Lib.hid (holdN_no hh)
        have HA := Lib.hid hacc
        have HB := Lib.hid hb
        clear hh hacc hb hln
        go_wp2_with fail
        refine HC.out.mono ?_; rintro e w2 ⟨rfl, hb2⟩
        have ha2 := HA.out.step hb2
        have hb3 := HB.out.trans (hb2.mono HB.out.size)
        clear hb2
        go_wp2_with fail
        go_roundw
        case rel => exact ⟨k + 1, by omega, by go_num, by rw [HN.out]; exact ha2, hb3⟩
        case measure => simp [intOf]; omega
      · rw [hh] at HC
        have HN := Lib.hid (holdN_yes hh)
        have HA := Lib.hid hacc
        have HB := Lib.hid hb
        clear hh hacc hb
        go_wp2_with fail
        refine HC.out.mono ?_; rintro e w2 ⟨rfl, hb2⟩
        have ha2 := HA.out.step hb2
        have hb3 := HB.out.trans (hb2.mono HB.out.size)
        clear hb2
        go_wp2_with (at_builtin; refine wpList_push rfl (.tmp 13) (.tmp 15) 22 rfl 3 i0 Try.underlying22 hi hz0 hz1 hz2 w2 w w.heap.size _ (holdN l k) (k : Int) rfl rfl ha2 rfl (by omega) hb3.size hb3 ?_; intro v3 w3 hacc3 hb4)
        go_roundw
        case rel => first | exact ⟨k + 1, by omega, by go_num, by rw [HN.out]; exact hacc3, hb4⟩ | exact ⟨k + 1, by omega, by omega, by rw [HN.out]; exact hacc3⟩
        case measure => simp [intOf]; omega
    · obtain rfl : k = l.length := by omega
      go_wp2
      go_ret
      exact ⟨_, rfl, hacc.oi, hb⟩


set_option maxHeartbeats 1000000 in
theorem specFire_any (v : Value) (l : List Int) (k : Int) (s : Nat) (w : World) (h : RI w w.heap.size v l) (hn : 2 ≤ l.length ∧ l.length ≤ 12) (hk : 2 ≤ k ∧ k ≤ 9) (hin : InK l k) (hs : s < l.length) :
    Calls Try.prog 48 #[v, .int .i64 k, .int .i64 s] w (RetL 3 w (fireL l k s)) := by
  have HC := Lib.hid (elOwn_any v l w h (by omega))
  obtain ⟨A, c, rfl, hlc, hc⟩ := h
  obtain ⟨b, off, rfl, hbB, hcell⟩ := hc (by omega)
  clear hc
  have hn' : (2 : Int) ≤ (l.length : Int) ∧ (l.length : Int) ≤ 12 := by omega
  rcases s with _ | s
  · have c0 := hcell 0 (by omega)
    rw [Nat.add_zero] at c0
    have hx := hin.at 0 (by omega)
    have HR : Hid (fireL l k 0 = l.set 0 ((l.getD 0 0 + 1) % k)) := by show _ = _; simp [fireL]
    rw [HR.out]
    have e0 : ((0 : Nat) : Int) = 0 := rfl
    rw [e0]
    clear e0 hcell HR hin
    have hl0 : 0 < l.length := by omega
    obtain ⟨x, hxx⟩ : ∃ x, x = l.getD 0 0 := ⟨_, rfl⟩
    rw [← hxx] at c0 hx ⊢
    have HXX := Lib.hid hxx
    clear hxx
    have e1 : (x + 1).tmod k = (x + 1) % k := Int.tmod_eq_emod_of_nonneg (by omega)
    have h1 := Int.emod_nonneg (x + 1) (show k ≠ 0 by omega)
    have h2 := Int.emod_lt_of_pos (x + 1) (show 0 < k by omega)
    have e4 : k ≠ 0 := by omega
    obtain ⟨y, hy⟩ : ∃ y, y = (x + 1) % k := ⟨_, rfl⟩
    rw [← hy] at e1 h1 h2 ⊢
    have e3 : (x + 1) % k = y := hy.symm
    have e2 : IntKind.i64.wrap y = y := IntWalk.i64_in _ (by omega)
    obtain ⟨L, hL⟩ : ∃ L, L = l.set 0 y := ⟨_, rfl⟩
    rw [← hL]
    have HL := Lib.hid hL
    clear hL hy
    go_enter Try.func48, Try.ntmps48
    go_wp2_with fail
    refine HC.out.mono ?_; rintro e w1 ⟨u, rfl, ho, hb1⟩
    obtain ⟨g, c3, hv, hg0, hgh, hgs, hcl, hfz, hput⟩ := elPut_at ho 0 (by omega)
    subst hv
    rw [← HXX.out] at hcl
    have x0 := hcl
    have hst := hput y
    have HB := Lib.hid (hb1.setCell (p := ⟨g, 0, none⟩) hg0 (.int .i64 y))
    have hsz : ∀ x, (w1.setCell ⟨g, 0, none⟩ x).heap.size = w1.heap.size := fun x => by simp [World.setCell]
    have HST : Hid (OI 3 (w1.setCell ⟨g, 0, none⟩ (.int .i64 y)) w.heap.size (w1.setCell ⟨g, 0, none⟩ (.int .i64 y)).heap.size (.slice (some ⟨g, 0, none⟩) l.length c3) L) := by
      show OI _ _ _ _ _ _
      rw [hsz, HL.out]
      exact hst
    clear hst hput ho hb1 hsz
    go_wp2_with fail
    go_ret
    exact ⟨_, rfl, HST.out, HB.out⟩
  · have c0 := hcell s (by omega)
    have HR : Hid (fireL l k (s + 1) = l.set (s + 1) (l.getD s 0)) := by show _ = _; simp [fireL]
    rw [HR.out]
    clear hcell HR hin
    obtain ⟨q, hq⟩ : ∃ q, q = s + 1 := ⟨_, rfl⟩
    rw [← hq] at hs ⊢
    have e1 : (q : Int) - 1 = (s : Int) := by omega
    have e3 : (q : Int) < (l.length : Int) := by omega
    have e4 : s < l.length := by omega
    have e5 : (s : Int) < (l.length : Int) := by omega
    have e6 : ((q : Int) == 0) = false := by simp; omega
    have e7 : 0 < q := by omega
    clear hq
    obtain ⟨x, hxx⟩ : ∃ x, x = l.getD s 0 := ⟨_, rfl⟩
    rw [← hxx] at c0 ⊢
    obtain ⟨L, hL⟩ : ∃ L, L = l.set q x := ⟨_, rfl⟩
    rw [← hL]
    have HXX := Lib.hid hxx
    have HL := Lib.hid hL
    clear hL hxx
    go_enter Try.func48, Try.ntmps48
    go_wp2_with fail
    refine HC.out.mono ?_; rintro e w1 ⟨u, rfl, ho, hb1⟩
    obtain ⟨g, c3, hv, hg0, hgh, hgs, hcl, hfz, hput⟩ := elPut_at ho q hs
    subst hv
    obtain ⟨g2, c4, hv2, _, _, _, x0, _, _⟩ := elPut_at ho s (by omega)
    injection hv2 with hv2 _ hv3
    injection hv2 with hv2
    injection hv2 with hv2
    subst hv2
    clear hv3
    rw [← HXX.out] at x0
    have hst := hput x
    have HB := Lib.hid (hb1.setCell (p := ⟨g, q, none⟩) hg0 (.int .i64 x))
    have hsz : ∀ x, (w1.setCell ⟨g, q, none⟩ x).heap.size = w1.heap.size := fun x => by simp [World.setCell]
    have HST : Hid (OI 3 (w1.setCell ⟨g, q, none⟩ (.int .i64 x)) w.heap.size (w1.setCell ⟨g, q, none⟩ (.int .i64 x)).heap.size (.slice (some ⟨g, 0, none⟩) l.length c3) L) := by
      show OI _ _ _ _ _ _
      rw [hsz, HL.out]
      exact hst
    clear hst hput ho hb1 hsz
    generalize l.getD q 0 = y at hcl
    go_wp2_with fail
    go_ret
    exact ⟨_, rfl, HST.out, HB.out⟩

end Go.Proofs.Ytgmknndmmpoliaa
