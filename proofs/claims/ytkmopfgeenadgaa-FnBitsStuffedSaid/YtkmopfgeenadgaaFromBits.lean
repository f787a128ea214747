/-
  The contracts on bytes of bits.
-/
import Derived.Test.YtkmopfgeenadgaaValid
import Derived.Test.YtkmopfgeenadgaaMath
namespace Go.Proofs.Ytkmopfgeenadgaa
open Go.RowKit
set_option maxRecDepth 100000

/-- What FromBits says. -/
def fromBits (l : List Int) : List Int × Bool := if areBit l = true ∧ l.length % 8 = 0 ∧ l.length ≤ 320 then (fromB l (l.length / 8), true) else ([], false)
theorem fromBits_yes {l : List Int} (h1 : areBit l = true) (h2 : l.length % 8 = 0) (h3 : l.length ≤ 320) : fromBits l = (fromB l (l.length / 8), true) := by unfold fromBits; rw [if_pos ⟨h1, h2, h3⟩]
theorem fromBits_no {l : List Int} (h : ¬ (areBit l = true ∧ l.length % 8 = 0 ∧ l.length ≤ 320)) : fromBits l = ([], false) := by unfold fromBits; rw [if_neg h]
theorem fromBits_len (l : List Int) : (fromBits l).1.length ≤ 1048576 := by
  by_cases h : areBit l = true ∧ l.length % 8 = 0 ∧ l.length ≤ 320
  · rw [fromBits_yes h.1 h.2.1 h.2.2]
    show (fromB l _).length ≤ _
    rw [fromB_length]; omega
  · rw [fromBits_no h]; simp

theorem implFromBits_yes (v : Value) (l : List Int) (w : World) (h : RI w w.heap.size v l) (hA : areBit l = true) (h8 : l.length % 8 = 0) (hl : l.length ≤ 320) :
    Calls Try.prog 17 #[v] w (RetLB 3 w (fromB l (l.length / 8)) true) := by
  have h0 := h
  obtain ⟨A, c, rfl, hlc, hc⟩ := h
  have hn' : (l.length : Int) ≤ 320 := by omega
  obtain ⟨i0, hi, hz0, hz1, hz2⟩ := info_parts int_info
  have HB := Lib.hid (fun j hj => okAll_at (areBit_ok hA) j hj)
  have h8' : (l.length : Int) % 8 ≤ 0 := by omega
  have h8n : l.length % 8 ≤ 0 := by omega
  have H8 := Lib.hid h8
  clear h8
  go_enter Try.func17, Try.ntmps17
  go_wp2_with (first | (go_at_call 19; refine (areBits_any _ _ _ h0 (by omega)).mono ?_; rintro e w' ⟨rfl, rfl⟩) | (at_make; refine wpList_make_full _ rfl _ _ 24 rfl w.heap.size 3 i0 _ 1 Try.underlying24 hi hz0 hz1 _ _ _ _ (l.length / 8) rfl rfl (by omega) (by omega) (by rw [hz2]; omega) (by unfold maxLen; omega) (Nat.le_refl _) ?_; intro w1 hown hg))
  have hown1 : w1.ownsRow w.heap.size 3 1 (.slice (some ⟨w.heap.size, 0, none⟩) (l.length / 8) (l.length / 8)) (l.length / 8) (ics (rowAt l 0)) := by
    rw [rowAt_zero, ← toList_madeCells_one]
    have h1 : (Value.int IntKind.i64 0).cells = #[Value.int IntKind.i64 0] := rfl
    rw [Nat.mul_one, h1] at hown
    exact hown
  have hb1 : Below w.heap.size w w1 := (Below.refl _ _).grown hg (Nat.le_refl _) (by intro k hk; cases hk)
  clear hown hg
  go_loopw [27] (fun i wr => ∃ k : Nat, k ≤ l.length ∧ i = .int .i64 k ∧ wr.ownsRow w.heap.size 3 1 (.slice (some ⟨w.heap.size, 0, none⟩) (l.length / 8) (l.length / 8)) (l.length / 8) (ics (rowAt l k)) ∧ Below w.heap.size w wr)
    (fun i _ => l.length - (intOf i).toNat)
  case atStart => exact ⟨0, Nat.zero_le _, rfl, hown1, hb1⟩
  case round =>
    obtain ⟨k, hk, rfl, hown, hb⟩ := hrel
    by_cases hlt : k < l.length
    · obtain ⟨b, off, rfl, hbB, hcell⟩ := hc (by omega)
      have hst' := rowAt_set l k hlt H8.out
      have hcx : wr.cell? ⟨b, off + k, none⟩ = some (.int .i64 (l.getD k 0)) := (hb.cell (p := ⟨b, off + k, none⟩) hbB).trans (hcell k hlt)
      have HC := Lib.hid hcell
      clear hcell hc
      have hcy : wr.cell? ⟨w.heap.size, k / 8, none⟩ = some (.int .i64 (pc l (8 * (k / 8)) (min 8 (k - 8 * (k / 8))))) := by
        rw [World.ownsRow.cellAt hown (k / 8) (by omega), ics_get _ _ (by rw [rowAt_length]; omega), rowAt_get _ _ _ (by omega)]
      have hp := pc_255 l (8 * (k / 8)) (fun j hj => HB.out j hj) (min 8 (k - 8 * (k / 8))) (by omega) (by omega)
      have hx := HB.out k hlt
      generalize l.getD k 0 = x at hst' hcx hx
      generalize pc l (8 * (k / 8)) (min 8 (k - 8 * (k / 8))) = p at hst' hcy hp
      have hfz := World.ownsRow.frozenAt hown (k / 8)
      have hst := World.ownsRow.stored hown (k / 8) (.int .i64 (p * 2 + x))
      rw [hst'] at hst
      have hb2 : Below w.heap.size w (wr.setCell ⟨w.heap.size, k / 8, none⟩ (.int .i64 (p * 2 + x))) := hb.setCell (p := ⟨w.heap.size, k / 8, none⟩) (Nat.le_refl _) _
      have hs1 := hst.1
      clear hst hown hst'
      have hk8 : (k : Int) / 8 < (l.length : Int) / 8 := by omega
      go_wp2
      go_roundw
      case rel => exact ⟨k + 1, by omega, by go_num, hs1, hb2⟩
      case measure => simp [intOf]; omega
    · obtain rfl : k = l.length := by omega
      rw [rowAt_full l H8.out] at hown
      go_wp2
      go_ret2
      have hl8 : (fromB l (l.length / 8)).length = l.length / 8 := fromB_length _ _
      exact ⟨_, rfl, OI.of_row (by rw [hl8]; exact hown), hb⟩
theorem implFromBits_any (v : Value) (l : List Int) (w : World) (h : RI w w.heap.size v l) (hn : l.length ≤ 1048576) :
    Calls Try.prog 17 #[v] w (RetLB 3 w (fromBits l).1 (fromBits l).2) := by
  by_cases hy : areBit l = true ∧ l.length % 8 = 0 ∧ l.length ≤ 320
  · rw [fromBits_yes hy.1 hy.2.1 hy.2.2]
    exact implFromBits_yes v l w h hy.1 hy.2.1 hy.2.2
  · rw [fromBits_no hy]
    have h0 := h
    obtain ⟨A, c, rfl, hlc, hc⟩ := h
    have HY := Lib.hid hy
    clear hy hc
    cases hA : areBit l
    · clear HY
      go_enter Try.func17, Try.ntmps17
      go_wp2_with (go_at_call 19; refine (areBits_any _ _ _ h0 hn).mono ?_; rintro e w' ⟨rfl, rfl⟩)
      go_ret2
      exact ⟨_, rfl, (Acc.nil _ _ _).oi, Below.refl _ _⟩
    · have HL := areBit_len hA
      by_cases h8 : l.length % 8 = 0
      · have h320 : (320 : Int) < l.length := by
          have := HY.out
          have : ¬ l.length ≤ 320 := fun h3 => this ⟨hA, h8, h3⟩
          omega
        have h8' : (l.length : Int) % 8 ≤ 0 := by omega
        clear HY h8
        go_enter Try.func17, Try.ntmps17
        go_wp2_with (go_at_call 19; refine (areBits_any _ _ _ h0 hn).mono ?_; rintro e w' ⟨rfl, rfl⟩)
        go_ret2
        exact ⟨_, rfl, (Acc.nil _ _ _).oi, Below.refl _ _⟩
      · have h8' : (0 : Int) < (l.length : Int) % 8 := by omega
        clear HY h8
        go_enter Try.func17, Try.ntmps17
        go_wp2_with (go_at_call 19; refine (areBits_any _ _ _ h0 hn).mono ?_; rintro e w' ⟨rfl, rfl⟩)
        go_ret2
        exact ⟨_, rfl, (Acc.nil _ _ _).oi, Below.refl _ _⟩

theorem frFrom_no (v : Value) (l : List Int) (w : World) (h : RI w w.heap.size v l) (hn : l.length ≤ 1048576) (h8 : ¬ l.length % 8 = 0) :
    Calls Try.prog 32 #[v] w (RetLB 3 w [] false) := by
  obtain ⟨A, c, rfl, hlc, hc⟩ := h
  have h8' : (0 : Int) < (l.length : Int) % 8 := by omega
  go_enter Try.func32, Try.ntmps32
  go_wp2
  go_ret2
  exact ⟨_, rfl, (Acc.nil _ _ _).oi, Below.refl _ _⟩

theorem frFrom_yes (v : Value) (l : List Int) (w : World) (h : RI w w.heap.size v l) (hn : l.length ≤ 1048576) (hall : okAll 0 1 l = true) (h8 : l.length % 8 = 0) :
    Calls Try.prog 32 #[v] w (RetLB 3 w (fromB l (l.length / 8)) true) := by
  obtain ⟨A, c, rfl, hlc, hc⟩ := h
  have hn' : (l.length : Int) ≤ 1048576 := by omega
  obtain ⟨i0, hi, hz0, hz1, hz2⟩ := info_parts int_info
  have HB := Lib.hid (fun j hj => okAll_at hall j hj)
  have h8' : (l.length : Int) % 8 ≤ 0 := by omega
  have h8n : l.length % 8 ≤ 0 := by omega
  clear h8 hall
  go_enter Try.func32, Try.ntmps32
  go_wp2
  go_loopw [4, 5] (fun v i wr => ∃ k : Nat, 8 * k ≤ l.length ∧ i = .int .i64 (8 * (k : Int)) ∧ Acc 3 wr w.heap.size v (fromB l k) ∧ Below w.heap.size w wr) (fun _ i _ => l.length - (intOf i).toNat)
  case atStart => exact ⟨0, Nat.zero_le _, rfl, Acc.nil _ _ _, Below.refl _ _⟩
  case round =>
    obtain ⟨k, hk, rfl, hacc, hb⟩ := hrel
    by_cases hlt : 8 * k < l.length
    · obtain ⟨b, off, rfl, hbB, hcell⟩ := hc (by omega)
      have hk8 : 8 * k + 8 ≤ l.length := by omega
      have hsz := hb.size
      have HS := Lib.hid (fromB_succ l k)
      have HL := Lib.hid (fromB_length l k)
      have hdl : (fromB l k).length < 1000000000 := by rw [HL.out]; omega
      generalize fromB l k = acc at hacc HS HL hdl
      obtain ⟨wo, rfl⟩ : ∃ wo : World, wo = wr := ⟨_, rfl⟩
      have HC : Hid (∀ j, j < l.length → wo.cell? ⟨b, off + j, none⟩ = some (.int .i64 (l.getD j 0))) := by
        show ∀ j, j < l.length → _
        exact fun j hj => (hb.cell (p := ⟨b, off + j, none⟩) hbB).trans (hcell j hj)
      clear hcell hc
      go_wp2
      go_loop [6, 25] (fun t i => ∃ j : Nat, j ≤ 8 ∧ i = .int .i64 j ∧ t = .int .i64 (pc l (8 * k) j)) (fun _ i => 8 - (intOf i).toNat)
      case atStart => exact ⟨0, by omega, rfl, by rw [pc_zero]⟩
      case round =>
        obtain ⟨j, hj, rfl, rfl⟩ := hrel
        by_cases hj8 : j < 8
        · have hcx := HC.out (8 * k + j) (by omega)
          have HP := Lib.hid (pc_succ l (8 * k) j (by omega))
          have hp := pc_255 l (8 * k) (fun j hj => HB.out j hj) j (by omega) (by omega)
          have hx := HB.out (8 * k + j) (by omega)
          generalize l.getD (8 * k + j) 0 = x at hcx HP hx
          generalize pc l (8 * k) j = t at hp HP
          have hcx' : wo.cell? ⟨b, off + 8 * k + j, none⟩ = some (.int .i64 x) := by rw [Nat.add_assoc]; exact hcx
          go_wp2
          go_round
          case rel => exact ⟨j + 1, by omega, by go_num, by rw [HP.out]⟩
          case measure => simp [intOf]; omega
        · obtain rfl : j = 8 := by omega
          go_wp2_with (at_builtin; refine wpList_push rfl _ _ _ rfl 3 i0 Try.underlying24 hi hz0 hz1 hz2 _ w w.heap.size _ acc _ rfl rfl hacc rfl hdl hsz hb ?_; intro v1 w1 hacc1 hb1)
          go_roundw
          case rel => first | exact ⟨k + 1, by omega, by omega, by rw [HS.out]; exact hacc1⟩ | exact ⟨k + 1, by omega, by go_num, by rw [HS.out]; exact hacc1, hb1⟩
          case measure => simp [intOf]; omega
    · obtain rfl : k = l.length / 8 := by omega
      go_wp2
      go_ret2
      exact ⟨_, rfl, hacc.oi, hb⟩
theorem specFromBits_any (v : Value) (l : List Int) (w : World) (h : RI w w.heap.size v l) (hn : l.length ≤ 1048576) :
    Calls Try.prog 18 #[v] w (RetLB 3 w (fromBits l).1 (fromBits l).2) := by
  have h0 := h
  obtain ⟨A, c, rfl, hlc, hc⟩ := h
  clear hc
  cases hA : areBit l
  · rw [fromBits_no (by rw [hA]; simp)]
    go_enter Try.func18, Try.ntmps18
    go_wp2_with (go_at_call 21; refine (frAre_any _ _ _ h0 hn).mono ?_; rintro e w' ⟨rfl, rfl⟩)
    go_ret2
    exact ⟨_, rfl, (Acc.nil _ _ _).oi, Below.refl _ _⟩
  · have HL := areBit_len hA
    rcases Nat.lt_or_ge 320 l.length with h3 | h3
    · rw [fromBits_no (by omega)]
      have h320 : (320 : Int) < l.length := by omega
      go_enter Try.func18, Try.ntmps18
      go_wp2_with (go_at_call 21; refine (frAre_any _ _ _ h0 hn).mono ?_; rintro e w' ⟨rfl, rfl⟩)
      go_ret2
      exact ⟨_, rfl, (Acc.nil _ _ _).oi, Below.refl _ _⟩
    · have h320 : (l.length : Int) ≤ 320 := by omega
      have hok := Lib.hid (areBit_ok hA)
      by_cases h8 : l.length % 8 = 0
      · rw [fromBits_yes hA h8 h3]
        have H8 := Lib.hid h8
        clear h8
        go_enter Try.func18, Try.ntmps18
        go_wp2_with (first | (go_at_call 21; refine (frAre_any _ _ _ h0 hn).mono ?_; rintro e w' ⟨rfl, rfl⟩) | (go_at_call 32; refine (frFrom_yes _ _ _ h0 hn hok.out H8.out).mono ?_; rintro e w1 ⟨u, rfl, ho, hb⟩))
        go_ret2
        exact ⟨_, rfl, ho, hb⟩
      · rw [fromBits_no (fun h => h8 h.2.1)]
        have H8 := Lib.hid h8
        clear h8
        go_enter Try.func18, Try.ntmps18
        go_wp2_with (first | (go_at_call 21; refine (frAre_any _ _ _ h0 hn).mono ?_; rintro e w' ⟨rfl, rfl⟩) | (go_at_call 32; refine (frFrom_no _ _ _ h0 hn H8.out).mono ?_; rintro e w1 ⟨u, rfl, ho, hb⟩))
        go_ret2
        exact ⟨_, rfl, ho, hb⟩
end Go.Proofs.Ytkmopfgeenadgaa
