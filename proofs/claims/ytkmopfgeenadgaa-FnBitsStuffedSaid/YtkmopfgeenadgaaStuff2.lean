/-
  The contracts of StuffBits and UnstuffBits.
-/
import Derived.Test.YtkmopfgeenadgaaStuff
namespace Go.Proofs.Ytkmopfgeenadgaa
open Go.RowKit
set_option maxRecDepth 100000

/-- What StuffBits says. -/
def stuffBits (l : List Int) : List Int × Bool := if areBit l = true ∧ (stuffOf l).length ≤ 400 then (stuffOf l, true) else ([], false)
theorem stuffBits_yes {l : List Int} (h1 : areBit l = true) (h2 : (stuffOf l).length ≤ 400) : stuffBits l = (stuffOf l, true) := by unfold stuffBits; rw [if_pos ⟨h1, h2⟩]
theorem stuffBits_no {l : List Int} (h : ¬ (areBit l = true ∧ (stuffOf l).length ≤ 400)) : stuffBits l = ([], false) := by unfold stuffBits; rw [if_neg h]
theorem stuffBits_len (l : List Int) : (stuffBits l).1.length ≤ 1048576 := by
  by_cases h : areBit l = true ∧ (stuffOf l).length ≤ 400
  · rw [stuffBits_yes h.1 h.2]; have := h.2; show (stuffOf l).length ≤ _; omega
  · rw [stuffBits_no h]; simp
/-- What UnstuffBits says. -/
def unstuffBits (l : List Int) : List Int × Bool := if areBit l = true then unOf l else ([], false)
theorem unstuffBits_yes {l : List Int} (h1 : areBit l = true) : unstuffBits l = unOf l := by unfold unstuffBits; rw [if_pos h1]
theorem unstuffBits_no {l : List Int} (h : areBit l = false) : unstuffBits l = ([], false) := by unfold unstuffBits; rw [if_neg (by simp [h])]
theorem unstuffBits_len (l : List Int) : (unstuffBits l).1.length ≤ 1048576 := by
  cases h : areBit l
  · rw [unstuffBits_no h]; simp
  · rw [unstuffBits_yes h]; have := unOf_len l; have := areBit_len h; omega

theorem implStuffBits_any (v : Value) (l : List Int) (w : World) (h : RI w w.heap.size v l) (hn : l.length ≤ 1048576) :
    Calls Try.prog 6 #[v] w (RetLB 3 w (stuffBits l).1 (stuffBits l).2) := by
  cases hB : areBit l
  · rw [stuffBits_no (by rw [hB]; simp)]
    go_enter Try.func6, Try.ntmps6
    go_wp2_with (go_at_call 19; refine (areBits_any _ _ _ h hn).mono ?_; rintro e w' ⟨rfl, rfl⟩)
    go_ret2
    exact ⟨_, rfl, (Acc.nil _ _ _).oi, Below.refl _ _⟩
  · have HO := Lib.hid (areBit_ok hB)
    have HL := stuffOf_len l
    have hl4 := areBit_len hB
    rcases Nat.lt_or_ge 400 (stuffOf l).length with h4 | h4
    · rw [stuffBits_no (by omega)]
      have h4' : (400 : Int) < ((stuffOf l).length : Nat) := by omega
      go_enter Try.func6, Try.ntmps6
      go_wp2_with (first | (go_at_call 19; refine (areBits_any _ _ _ h hn).mono ?_; rintro e w' ⟨rfl, rfl⟩) | (go_at_call 20; refine (stuffedBits_any _ _ _ h hn HO.out).mono ?_; rintro e w1 ⟨u, rfl, ho, hb⟩; obtain ⟨A', c', rfl, _, _⟩ := ho.ri))
      go_ret2
      exact ⟨_, rfl, (Acc.nil _ _ _).oi, hb⟩
    · rw [stuffBits_yes hB h4]
      have h4' : (((stuffOf l).length : Nat) : Int) ≤ 400 := by omega
      go_enter Try.func6, Try.ntmps6
      go_wp2_with (first | (go_at_call 19; refine (areBits_any _ _ _ h hn).mono ?_; rintro e w' ⟨rfl, rfl⟩) | (go_at_call 20; refine (stuffedBits_any _ _ _ h hn HO.out).mono ?_; rintro e w1 ⟨u, rfl, ho, hb⟩; obtain ⟨A', c', rfl, _, _⟩ := ho.ri))
      go_ret2
      exact ⟨_, rfl, ho, hb⟩

theorem specStuffBits_any (v : Value) (l : List Int) (w : World) (h : RI w w.heap.size v l) (hn : l.length ≤ 1048576) :
    Calls Try.prog 7 #[v] w (RetLB 3 w (stuffBits l).1 (stuffBits l).2) := by
  cases hB : areBit l
  · rw [stuffBits_no (by rw [hB]; simp)]
    go_enter Try.func7, Try.ntmps7
    go_wp2_with (go_at_call 21; refine (frAre_any _ _ _ h hn).mono ?_; rintro e w' ⟨rfl, rfl⟩)
    go_ret2
    exact ⟨_, rfl, (Acc.nil _ _ _).oi, Below.refl _ _⟩
  · have HO := Lib.hid (areBit_ok hB)
    have HL := stuffOf_len l
    have hl4 := areBit_len hB
    rcases Nat.lt_or_ge 400 (stuffOf l).length with h4 | h4
    · rw [stuffBits_no (by omega)]
      have h4' : (400 : Int) < ((stuffOf l).length : Nat) := by omega
      go_enter Try.func7, Try.ntmps7
      go_wp2_with (first | (go_at_call 21; refine (frAre_any _ _ _ h hn).mono ?_; rintro e w' ⟨rfl, rfl⟩) | (go_at_call 22; refine (frStuff_any _ _ _ h hn HO.out).mono ?_; rintro e w1 ⟨u, rfl, ho, hb⟩; obtain ⟨A', c', rfl, _, _⟩ := ho.ri))
      go_ret2
      exact ⟨_, rfl, (Acc.nil _ _ _).oi, hb⟩
    · rw [stuffBits_yes hB h4]
      have h4' : (((stuffOf l).length : Nat) : Int) ≤ 400 := by omega
      go_enter Try.func7, Try.ntmps7
      go_wp2_with (first | (go_at_call 21; refine (frAre_any _ _ _ h hn).mono ?_; rintro e w' ⟨rfl, rfl⟩) | (go_at_call 22; refine (frStuff_any _ _ _ h hn HO.out).mono ?_; rintro e w1 ⟨u, rfl, ho, hb⟩; obtain ⟨A', c', rfl, _, _⟩ := ho.ri))
      go_ret2
      exact ⟨_, rfl, ho, hb⟩

theorem implUnstuffBits_yes (v : Value) (l : List Int) (w : World) (h : RI w w.heap.size v l) (hn : l.length ≤ 1048576) (hA : areBit l = true) (hall : okAll 0 1 l = true) :
    Calls Try.prog 9 #[v] w (RetLB 3 w (unOf l).1 (unOf l).2) := by
  have h0 := h
  obtain ⟨A, c, rfl, hlc, hc⟩ := h
  have hn' : (l.length : Int) ≤ 1048576 := by omega
  obtain ⟨i0, hi, hz0, hz1, hz2⟩ := info_parts int_info
  have HB := Lib.hid (fun j hj => okAll_at hall j hj)
  clear hall
  go_enter Try.func9, Try.ntmps9
  go_wp2_with (first | (go_at_call 19; refine (areBits_any _ _ _ h0 hn).mono ?_; rintro e w' ⟨rfl, rfl⟩) | (at_make; refine wpList_make_own _ rfl _ _ 24 rfl w.heap.size 3 i0 _ 1 Try.underlying24 hi hz0 hz1 _ _ _ l.length rfl rfl (by omega) (by rw [hz2]; omega) (by unfold maxLen; omega) (Nat.le_refl _) ?_; intro w1 hown hg))
  have hb1 : Below w.heap.size w w1 := (Below.refl _ _).grown hg (Nat.le_refl _) (by intro k hk; cases hk)
  have ha1 : Acc 3 w1 w.heap.size (.slice (some ⟨w.heap.size, 0, none⟩) 0 l.length) [] := hown
  clear hown hg
  go_loopw [4, 5, 16] (fun v t i wr => ∃ (k : Nat) (o : List Int) (n : Nat), k ≤ l.length ∧ un (l.take k) = some (o, n) ∧ i = .int .i64 k ∧ t = .int .i64 n ∧ Acc 3 wr w.heap.size v o ∧ Below w.heap.size w wr) (fun _ _ i _ => l.length - (intOf i).toNat)
  case atStart => exact ⟨0, [], 0, Nat.zero_le _, rfl, rfl, rfl, ha1, hb1⟩
  case round =>
    obtain ⟨k, o, n, hk, hun, rfl, rfl, hacc, hb⟩ := hrel
    have hbd := un_bd l k hk o n hun
    obtain ⟨hn5, hol⟩ := hbd
    have HU := Lib.hid hun
    clear hun
    have hsz := hb.size
    by_cases hlt : k < l.length
    · obtain ⟨b, off, rfl, hbB, hcell⟩ := hc (by omega)
      have hcx : wr.cell? ⟨b, off + k, none⟩ = some (.int .i64 (l.getD k 0)) := (hb.cell (p := ⟨b, off + k, none⟩) hbB).trans (hcell k hlt)
      have HC := Lib.hid hcell
      clear hcell hc
      have HS : Hid (un (l.take (k + 1)) = unStep (some (o, n)) (l.getD k 0)) := by show _ = _; rw [un_snoc l k hlt, HU.out]
      have hx := HB.out k hlt
      generalize l.getD k 0 = x at hcx hx HS
      by_cases h5 : n = 5
      · subst h5
        by_cases hx0 : x = 0
        · subst hx0
          have HR : Hid (un (l.take (k + 1)) = some (o, 0)) := by show _ = _; rw [HS.out]; rfl
          go_wp2
          go_roundw
          case rel => first | exact ⟨k + 1, o, 0, by omega, HR.out, by go_num, by go_num, hacc, hb⟩ | exact ⟨k + 1, o, 0, by omega, HR.out, by omega, by omega, hacc⟩
          case measure => simp [intOf]; omega
        · obtain rfl : x = 1 := by omega
          have HN : Hid (unOf l = ([], false)) := by show _ = _; exact unOf_none (un_none l (k + 1) (by rw [HS.out]; rfl))
          go_wp2
          go_ret2
          rw [HN.out]
          exact ⟨_, rfl, (Acc.nil _ _ _).oi, hb⟩
      · have hn4 : (n : Int) ≤ 4 := by omega
        have H5 := Lib.hid h5
        clear h5
        by_cases hx0 : x = 0
        · subst hx0
          have HR : Hid (un (l.take (k + 1)) = some (o ++ [0], 0)) := by show _ = _; rw [HS.out]; unfold unStep; simp only; rw [if_neg H5.out]; rfl
          go_wp2_with (first | (go_at_call 23; refine (onesBehind_zero _ _).mono ?_; rintro e w' ⟨rfl, rfl⟩) | (at_builtin; refine wpList_push rfl (.tmp 22) (.tmp 24) _ rfl 3 i0 Try.underlying24 hi hz0 hz1 hz2 _ w w.heap.size _ o _ rfl rfl hacc rfl (by omega) hsz hb ?_; intro v1 w1 hacc1 hb1))
          go_roundw
          case rel => first | exact ⟨k + 1, o ++ [0], 0, by omega, HR.out, by go_num, by go_num, hacc1, hb1⟩ | exact ⟨k + 1, o ++ [0], 0, by omega, HR.out, by omega, by omega, hacc1⟩
          case measure => simp [intOf]; omega
        · obtain rfl : x = 1 := by omega
          have HR : Hid (un (l.take (k + 1)) = some (o ++ [1], n + 1)) := by show _ = _; rw [HS.out]; unfold unStep; simp only; rw [if_neg H5.out]; rfl
          go_wp2_with (first | (go_at_call 23; refine (onesBehind_one _ _ (by omega)).mono ?_; rintro e w' ⟨rfl, rfl⟩) | (at_builtin; refine wpList_push rfl (.tmp 22) (.tmp 24) _ rfl 3 i0 Try.underlying24 hi hz0 hz1 hz2 _ w w.heap.size _ o _ rfl rfl hacc rfl (by omega) hsz hb ?_; intro v1 w1 hacc1 hb1))
          go_roundw
          case rel => first | exact ⟨k + 1, o ++ [1], n + 1, by omega, HR.out, by go_num, by go_num, hacc1, hb1⟩ | exact ⟨k + 1, o ++ [1], n + 1, by omega, HR.out, by omega, by omega, hacc1⟩
          case measure => simp [intOf]; omega
    · obtain rfl : k = l.length := by omega
      have HE : Hid (un l = some (o, n)) := by show _ = _; have := HU.out; rw [List.take_length] at this; exact this
      by_cases h5 : n = 5
      · subst h5
        have HN : Hid (unOf l = ([], false)) := by show _ = _; exact unOf_five HE.out
        go_wp2
        go_ret2
        rw [HN.out]
        exact ⟨_, rfl, (Acc.nil _ _ _).oi, hb⟩
      · have HN : Hid (unOf l = (o, true)) := by show _ = _; exact unOf_yes HE.out h5
        have hn4 : (n : Int) ≤ 4 := by omega
        clear h5
        go_wp2
        go_ret2
        rw [HN.out]
        exact ⟨_, rfl, hacc.oi, hb⟩

theorem frPlain_any (v : Value) (l : List Int) (w : World) (h : RI w w.heap.size v l) (hn : l.length ≤ 1048576) (hall : okAll 0 1 l = true) :
    Calls Try.prog 26 #[v] w (RetLB 3 w (unOf l).1 (unOf l).2) := by
  have h0 := h
  obtain ⟨A, c, rfl, hlc, hc⟩ := h
  have hn' : (l.length : Int) ≤ 1048576 := by omega
  obtain ⟨i0, hi, hz0, hz1, hz2⟩ := info_parts int_info
  have HB := Lib.hid (fun j hj => okAll_at hall j hj)
  clear hall
  go_enter Try.func26, Try.ntmps26
  go_wp2
  go_loopw [4, 5, 10] (fun v t i wr => ∃ (k : Nat) (o : List Int) (n : Nat), k ≤ l.length ∧ un (l.take k) = some (o, n) ∧ i = .int .i64 k ∧ t = .int .i64 n ∧ Acc 3 wr w.heap.size v o ∧ Below w.heap.size w wr) (fun _ _ i _ => l.length - (intOf i).toNat)
  case atStart => exact ⟨0, [], 0, Nat.zero_le _, rfl, rfl, rfl, Acc.nil _ _ _, Below.refl _ _⟩
  case round =>
    obtain ⟨k, o, n, hk, hun, rfl, rfl, hacc, hb⟩ := hrel
    have hbd := un_bd l k hk o n hun
    obtain ⟨hn5, hol⟩ := hbd
    have HU := Lib.hid hun
    clear hun
    have hsz := hb.size
    by_cases hlt : k < l.length
    · obtain ⟨b, off, rfl, hbB, hcell⟩ := hc (by omega)
      have hcx : wr.cell? ⟨b, off + k, none⟩ = some (.int .i64 (l.getD k 0)) := (hb.cell (p := ⟨b, off + k, none⟩) hbB).trans (hcell k hlt)
      have HC := Lib.hid hcell
      clear hcell hc
      have HS : Hid (un (l.take (k + 1)) = unStep (some (o, n)) (l.getD k 0)) := by show _ = _; rw [un_snoc l k hlt, HU.out]
      have hx := HB.out k hlt
      generalize l.getD k 0 = x at hcx hx HS
      by_cases h5 : n = 5
      · subst h5
        by_cases hx0 : x = 0
        · subst hx0
          have HR : Hid (un (l.take (k + 1)) = some (o, 0)) := by show _ = _; rw [HS.out]; rfl
          go_wp2
          go_roundw
          case rel => first | exact ⟨k + 1, o, 0, by omega, HR.out, by go_num, by go_num, hacc, hb⟩ | exact ⟨k + 1, o, 0, by omega, HR.out, by omega, by omega, hacc⟩
          case measure => simp [intOf]; omega
        · obtain rfl : x = 1 := by omega
          have HN : Hid (unOf l = ([], false)) := by show _ = _; exact unOf_none (un_none l (k + 1) (by rw [HS.out]; rfl))
          go_wp2
          go_ret2
          rw [HN.out]
          exact ⟨_, rfl, (Acc.nil _ _ _).oi, hb⟩
      · have hn4 : (n : Int) ≤ 4 := by omega
        have H5 := Lib.hid h5
        clear h5
        by_cases hx0 : x = 0
        · subst hx0
          have HR : Hid (un (l.take (k + 1)) = some (o ++ [0], 0)) := by show _ = _; rw [HS.out]; unfold unStep; simp only; rw [if_neg H5.out]; rfl
          go_wp2_with (first | (at_builtin; refine wpList_push rfl (.tmp 18) (.tmp 20) _ rfl 3 i0 Try.underlying24 hi hz0 hz1 hz2 _ w w.heap.size _ o _ rfl rfl hacc rfl (by omega) hsz hb ?_; intro v1 w1 hacc1 hb1))
          go_roundw
          case rel => first | exact ⟨k + 1, o ++ [0], 0, by omega, HR.out, by go_num, by go_num, hacc1, hb1⟩ | exact ⟨k + 1, o ++ [0], 0, by omega, HR.out, by omega, by omega, hacc1⟩
          case measure => simp [intOf]; omega
        · obtain rfl : x = 1 := by omega
          have HR : Hid (un (l.take (k + 1)) = some (o ++ [1], n + 1)) := by show _ = _; rw [HS.out]; unfold unStep; simp only; rw [if_neg H5.out]; rfl
          go_wp2_with (first | (at_builtin; refine wpList_push rfl (.tmp 18) (.tmp 20) _ rfl 3 i0 Try.underlying24 hi hz0 hz1 hz2 _ w w.heap.size _ o _ rfl rfl hacc rfl (by omega) hsz hb ?_; intro v1 w1 hacc1 hb1))
          go_roundw
          case rel => first | exact ⟨k + 1, o ++ [1], n + 1, by omega, HR.out, by go_num, by go_num, hacc1, hb1⟩ | exact ⟨k + 1, o ++ [1], n + 1, by omega, HR.out, by omega, by omega, hacc1⟩
          case measure => simp [intOf]; omega
    · obtain rfl : k = l.length := by omega
      have HE : Hid (un l = some (o, n)) := by show _ = _; have := HU.out; rw [List.take_length] at this; exact this
      by_cases h5 : n = 5
      · subst h5
        have HN : Hid (unOf l = ([], false)) := by show _ = _; exact unOf_five HE.out
        go_wp2
        go_ret2
        rw [HN.out]
        exact ⟨_, rfl, (Acc.nil _ _ _).oi, hb⟩
      · have HN : Hid (unOf l = (o, true)) := by show _ = _; exact unOf_yes HE.out h5
        have hn4 : (n : Int) ≤ 4 := by omega
        clear h5
        go_wp2
        go_ret2
        rw [HN.out]
        exact ⟨_, rfl, hacc.oi, hb⟩

theorem implUnstuffBits_any (v : Value) (l : List Int) (w : World) (h : RI w w.heap.size v l) (hn : l.length ≤ 1048576) :
    Calls Try.prog 9 #[v] w (RetLB 3 w (unstuffBits l).1 (unstuffBits l).2) := by
  cases hB : areBit l
  · rw [unstuffBits_no hB]
    go_enter Try.func9, Try.ntmps9
    go_wp2_with (go_at_call 19; refine (areBits_any _ _ _ h hn).mono ?_; rintro e w' ⟨rfl, rfl⟩)
    go_ret2
    exact ⟨_, rfl, (Acc.nil _ _ _).oi, Below.refl _ _⟩
  · rw [unstuffBits_yes hB]
    exact implUnstuffBits_yes v l w h hn hB (areBit_ok hB)
theorem specUnstuffBits_any (v : Value) (l : List Int) (w : World) (h : RI w w.heap.size v l) (hn : l.length ≤ 1048576) :
    Calls Try.prog 12 #[v] w (RetLB 3 w (unstuffBits l).1 (unstuffBits l).2) := by
  cases hB : areBit l
  · rw [unstuffBits_no hB]
    go_enter Try.func12, Try.ntmps12
    go_wp2_with (go_at_call 21; refine (frAre_any _ _ _ h hn).mono ?_; rintro e w' ⟨rfl, rfl⟩)
    go_ret2
    exact ⟨_, rfl, (Acc.nil _ _ _).oi, Below.refl _ _⟩
  · rw [unstuffBits_yes hB]
    have HO := Lib.hid (areBit_ok hB)
    go_enter Try.func12, Try.ntmps12
    go_wp2_with (first | (go_at_call 21; refine (frAre_any _ _ _ h hn).mono ?_; rintro e w' ⟨rfl, rfl⟩) | (go_at_call 26; refine (frPlain_any _ _ _ h hn HO.out).mono ?_; rintro e w1 ⟨u, rfl, ho, hb⟩))
    go_ret2
    exact ⟨_, rfl, ho, hb⟩
end Go.Proofs.Ytkmopfgeenadgaa
