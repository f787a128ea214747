/-
  The contracts of FlipBits.
-/
import Derived.Test.YtaokdocflbabjaaValid
import Derived.Test.YtaokdocflbabjaaMathFlip
import Derived.Test.YtaokdocflbabjaaClone
import Derived.Test.YtaokdocflbabjaaBits
import Derived.Test.YtaokdocflbabjaaFromBits
import Derived.RegionTactic
import Derived.BigRegion
namespace Go.Proofs.Ytaokdocflbabjaa
open Go.RowKit
set_option maxRecDepth 100000

theorem ics_set (l : List Int) (i : Nat) (y : Int) : (ics l).set i (.int .i64 y) = ics (l.set i y) := by unfold ics; rw [List.map_set]
theorem flip_xor (x j : Nat) (hx : x < 256) : bits .xor .i64 (x : Int) (wrap64 (2 ^ (7 - j))) = ((flipB x j : Nat) : Int) := by
  have h1 : 2 ^ (7 - j) ≤ 2 ^ 7 := Nat.pow_le_pow_right (by omega) (by omega)
  have h2 : (2 : Nat) ^ 7 = 128 := rfl
  have e : wrap64 (2 ^ (7 - j)) = ((2 ^ (7 - j) : Nat) : Int) := by
    rw [Int.natCast_pow]
    refine IntWalk.wrap64_in _ ⟨?_, ?_⟩
    · have : (0 : Int) ≤ ((2 ^ (7 - j) : Nat) : Int) := Int.natCast_nonneg _
      rw [Int.natCast_pow] at this
      exact Int.le_trans (by decide) this
    · have : ((2 ^ (7 - j) : Nat) : Int) ≤ 128 := Int.ofNat_le.2 (Nat.le_trans h1 (by decide))
      rw [Int.natCast_pow] at this
      exact Int.le_trans this (by decide)
  rw [e, i64_xor_nat x _ (by omega) (Nat.lt_of_le_of_lt h1 (by decide))]
  rfl
/-- The least place that may come next. -/
def nxt (l : List Int) : Nat → Int
  | 0 => 0
  | k + 1 => l.getD k 0 + 1
theorem nxt_ge {hi : Int} {l : List Int} {k : Nat} (h : Rises hi l k) : 0 ≤ nxt l k ∧ nxt l k ≤ hi + 1 ∨ (k = 0 ∧ nxt l k = 0) := by
  cases k with
  | zero => exact .inr ⟨rfl, rfl⟩
  | succ k => have := h k (by omega); simp only [nxt]; omega
theorem nxt_lt {l : List Int} {k : Nat} {x : Int} (h : nxt l k ≤ x) : 0 < k → l.getD (k - 1) 0 < x := by
  intro hk
  cases k with
  | zero => omega
  | succ k => simp only [nxt] at h; simp only [Nat.add_sub_cancel]; omega
theorem nxt_of {hi : Int} {l : List Int} {k : Nat} (h : Rises hi l (k + 1)) : nxt l k ≤ l.getD k 0 := by
  have h1 := h k (by omega)
  cases k with
  | zero => simp only [nxt]; exact h1.1
  | succ k => have := h1.2.2 (by omega); simp only [nxt, Nat.add_sub_cancel] at this ⊢; omega
theorem Rises.mono {hi : Int} {l : List Int} {k m : Nat} (h : Rises hi l m) (hk : k ≤ m) : Rises hi l k := fun j hj => h j (by omega)

theorem arePlaces_any (v : Value) (l : List Int) (n : Int) (w : World) (h : RI w w.heap.size v l) (hn : l.length ≤ 1048576) (h0 : 0 ≤ n) (h1 : n ≤ 1000) :
    Calls Try.prog 82 #[v, .int .i64 n] w fun e w' => e = .returned (.bool (decide (Rises (n - 1) l l.length))) ∧ w = w' := by
  obtain ⟨A, c, rfl, hlc, hc⟩ := h
  have hn' : (l.length : Int) ≤ 1048576 := by omega
  go_enter Try.func82, Try.ntmps82
  go_wp2
  go_loop [5, 10] (fun t i => ∃ k : Nat, k ≤ l.length ∧ i = .int .i64 k ∧ t = .int .i64 (nxt l k) ∧ Rises (n - 1) l k) (fun _ i => l.length - (intOf i).toNat)
  case atStart => exact ⟨0, Nat.zero_le _, rfl, rfl, fun j hj => absurd hj (by omega)⟩
  case round =>
    obtain ⟨k, hk, rfl, rfl, hall⟩ := hrel
    have hnx := nxt_ge hall
    have HA := Lib.hid hall
    clear hall
    by_cases hlt : k < l.length
    · obtain ⟨b, off, rfl, hbB, hcell⟩ := hc (by omega)
      have hcx : w.cell? ⟨b, off + k, none⟩ = some (.int .i64 (l.getD k 0)) := hcell k hlt
      have HC := Lib.hid hcell
      clear hcell hc
      have HX : Hid (nxt l (k + 1) = l.getD k 0 + 1) := rfl
      have HY : Hid (∀ m, m = l.getD k 0 → nxt l k ≤ m → m ≤ n - 1 → Rises (n - 1) l (k + 1)) := by
        show ∀ m, _
        rintro m rfl h2 h3
        exact HA.out.succ (by omega) h3 (nxt_lt h2)
      have HZ : Hid (∀ m, m = l.getD k 0 → Rises (n - 1) l l.length → nxt l k ≤ m ∧ m ≤ n - 1) := by
        show ∀ m, _
        rintro m rfl h2
        exact ⟨nxt_of (h2.mono (by omega)), (h2 k hlt).2.1⟩
      obtain ⟨x, hx⟩ : ∃ x, x = l.getD k 0 := ⟨_, rfl⟩
      rw [← hx] at hcx HX
      have HXX := Lib.hid hx
      clear hx
      generalize nxt l k = t at hnx HY HZ ⊢
      by_cases hw : t ≤ x ∧ x ≤ n - 1
      · have HR := Lib.hid (HY.out x HXX.out hw.1 hw.2)
        go_wp2_with (go_at_call 72; refine (isWithin_is _ _ _ _ true (by simp only [decide_eq_true_eq]; omega)).mono ?_; rintro e w' ⟨rfl, rfl⟩)
        go_round
        case rel => exact ⟨k + 1, by omega, by go_num, by rw [HX.out], HR.out⟩
        case measure => simp [intOf]; omega
      · have HN := Lib.hid hw
        clear hw
        go_wp2_with (go_at_call 72; refine (isWithin_is _ _ _ _ false (by have := HN.out; simp only [decide_eq_false_iff_not]; omega)).mono ?_; rintro e w' ⟨rfl, rfl⟩)
        go_ret
        exact ⟨ret_bool (by symm; rw [decide_eq_false_iff_not]; intro h2; exact HN.out (HZ.out x HXX.out h2)), rfl⟩
    · obtain rfl : k = l.length := by omega
      go_wp2
      go_ret
      exact ⟨ret_bool (by symm; rw [decide_eq_true_eq]; exact HA.out), rfl⟩

theorem l1Rising_any (v : Value) (l : List Int) (n : Int) (w : World) (h : RI w w.heap.size v l) (hn : l.length ≤ 1048576) :
    Calls Try.prog 81 #[v, .int .i64 0, .int .i64 n] w fun e w' => e = .returned (.bool (decide (Rises n l l.length))) ∧ w = w' := by
  obtain ⟨A, c, rfl, hlc, hc⟩ := h
  have hn' : (l.length : Int) ≤ 1048576 := by omega
  go_enter Try.func81, Try.ntmps81
  go_wp2
  go_loop [11] (fun i => ∃ k : Nat, k ≤ l.length ∧ i = .int .i64 k ∧ Rises n l k) (fun i => l.length - (intOf i).toNat)
  case atStart => exact ⟨0, Nat.zero_le _, rfl, fun j hj => absurd hj (by omega)⟩
  case round =>
    obtain ⟨k, hk, rfl, hall⟩ := hrel
    have HA := Lib.hid hall
    clear hall
    by_cases hlt : k < l.length
    · obtain ⟨b, off, rfl, hbB, hcell⟩ := hc (by omega)
      have hcx : w.cell? ⟨b, off + k, none⟩ = some (.int .i64 (l.getD k 0)) := hcell k hlt
      have hcy : 0 < k → w.cell? ⟨b, off + (k - 1), none⟩ = some (.int .i64 (l.getD (k - 1) 0)) := fun _ => hcell (k - 1) (by omega)
      have HC := Lib.hid hcell
      clear hcell hc
      have HY : Hid (0 ≤ l.getD k 0 → l.getD k 0 ≤ n → (0 < k → l.getD (k - 1) 0 < l.getD k 0) → Rises n l (k + 1)) := by
        show _ → _
        exact fun h1 h2 h3 => HA.out.succ h1 h2 h3
      have HZ : Hid (Rises n l l.length → 0 ≤ l.getD k 0 ∧ l.getD k 0 ≤ n ∧ (0 < k → l.getD (k - 1) 0 < l.getD k 0)) := by
        show _ → _
        exact fun h2 => h2 k hlt
      generalize l.getD k 0 = x at hcx HY HZ
      generalize l.getD (k - 1) 0 = y at hcy HY HZ
      by_cases hw : 0 ≤ x ∧ x ≤ n
      · rcases Nat.eq_zero_or_pos k with rfl | hk0
        · have HR := Lib.hid (HY.out hw.1 hw.2 (fun h => absurd h (by omega)))
          clear hcy
          rw [Nat.add_zero] at hcx
          go_wp2_with (go_at_call 94; refine (l1In_is _ _ _ _ true (by simp only [decide_eq_true_eq]; omega)).mono ?_; rintro e w' ⟨rfl, rfl⟩)
          go_round
          case rel => exact ⟨1, by omega, by go_num, HR.out⟩
          case measure => simp [intOf]; omega
        · have hcy' := hcy hk0
          clear hcy
          have hk0' : (0 : Int) < (k : Int) := by omega
          by_cases hyx : y < x
          · have HR := Lib.hid (HY.out hw.1 hw.2 (fun _ => hyx))
            go_wp2_with (go_at_call 94; refine (l1In_is _ _ _ _ true (by simp only [decide_eq_true_eq]; omega)).mono ?_; rintro e w' ⟨rfl, rfl⟩)
            go_round
            case rel => exact ⟨k + 1, by omega, by go_num, HR.out⟩
            case measure => simp [intOf]; omega
          · have hyx' : x ≤ y := by omega
            have HN := Lib.hid hyx
            clear hyx
            go_wp2_with (go_at_call 94; refine (l1In_is _ _ _ _ true (by simp only [decide_eq_true_eq]; omega)).mono ?_; rintro e w' ⟨rfl, rfl⟩)
            go_ret
            exact ⟨ret_bool (by symm; rw [decide_eq_false_iff_not]; intro h2; have h5 := HN.out; have h6 := (HZ.out h2).2.2 hk0; omega), rfl⟩
      · have HN := Lib.hid hw
        clear hw
        go_wp2_with (go_at_call 94; refine (l1In_is _ _ _ _ false (by have := HN.out; simp only [decide_eq_false_iff_not]; omega)).mono ?_; rintro e w' ⟨rfl, rfl⟩)
        go_ret
        exact ⟨ret_bool (by symm; rw [decide_eq_false_iff_not]; intro h2; exact HN.out ⟨(HZ.out h2).1, (HZ.out h2).2.1⟩), rfl⟩
    · obtain rfl : k = l.length := by omega
      go_wp2
      go_ret
      exact ⟨ret_bool (by symm; rw [decide_eq_true_eq]; exact HA.out), rfl⟩

/-- What FlipBits says. -/
def flipBits (l ps : List Int) : List Int × Bool := if areB l = true ∧ Rises (((8 * l.length : Nat) : Int) - 1) ps ps.length then (flipL l ps, true) else ([], false)
theorem flipBits_yes {l ps : List Int} (h1 : areB l = true) (h2 : Rises (((8 * l.length : Nat) : Int) - 1) ps ps.length) : flipBits l ps = (flipL l ps, true) := by unfold flipBits; rw [if_pos ⟨h1, h2⟩]
theorem flipBits_no {l ps : List Int} (h : ¬ (areB l = true ∧ Rises (((8 * l.length : Nat) : Int) - 1) ps ps.length)) : flipBits l ps = ([], false) := by unfold flipBits; rw [if_neg h]
theorem flipBits_len (l ps : List Int) : (flipBits l ps).1.length ≤ 1048576 := by
  by_cases h : areB l = true ∧ Rises (((8 * l.length : Nat) : Int) - 1) ps ps.length
  · rw [flipBits_yes h.1 h.2]; have := areB_len h.1; show (flipL l ps).length ≤ _; rw [flipL_length]; omega
  · rw [flipBits_no h]; simp

theorem implFlipBits_yes (v v' : Value) (l ps : List Int) (w : World) (h : RI w w.heap.size v l) (h' : RI w w.heap.size v' ps) (hn : l.length ≤ 1048576) (hn' : ps.length ≤ 1048576)
    (hA : areB l = true) (hR : Rises (((8 * l.length : Nat) : Int) - 1) ps ps.length) :
    Calls Try.prog 51 #[v, v'] w (RetLB 3 w (flipL l ps) true) := by
  have h1 := h
  have h1' := h'
  have hl := areB_len hA
  have hR' : decide (Rises ((l.length : Int) * 8 - 1) ps ps.length) = true := decide_eq_true ((show (l.length : Int) * 8 - 1 = ((8 * l.length : Nat) : Int) - 1 from by omega) ▸ hR)
  have HR := Lib.hid hR
  have HB := Lib.hid (flipL_bytes l · (fun j hj => okAll_at (areB_ok hA) j hj))
  obtain ⟨A, c, rfl, hlc, hc⟩ := h
  obtain ⟨A', c', rfl, hlc', hc'⟩ := h'
  clear hc hR
  have hz : (l.length : Int) ≤ 40 := by omega
  have hz' : (ps.length : Int) ≤ 1048576 := by omega
  go_enter Try.func51, Try.ntmps51
  go_wp2_with fail
  refine (areBytes_any _ _ _ h1 hn).mono ?_; rintro e w' ⟨rfl, rfl⟩
  go_wp2_with fail
  refine (arePlaces_any _ _ _ _ h1' hn' (by omega) (by omega)).mono ?_; rintro e w' ⟨rfl, rfl⟩
  go_wp2_with fail
  refine (clone_any _ _ _ h1 hn).mono ?_; rintro e w1 ⟨u, rfl, ho, hb⟩
  rcases ho with ⟨rfl, A0, c0, rfl, hc0⟩ | ⟨g, cc, rfl, hlo, hhi, hrow⟩
  · have hps : ps = [] := by
      rcases Nat.eq_zero_or_pos ps.length with h0 | h0
      · exact List.eq_nil_of_length_eq_zero h0
      · have := HR.out 0 h0; simp at this; omega
    subst hps
    go_wp2_with fail
    go_loopw [24] (fun i wr => i = .int .i64 0 ∧ Below w.heap.size w wr) (fun _ _ => 0)
    case atStart => exact ⟨rfl, hb⟩
    case round =>
      obtain ⟨rfl, hb2⟩ := hrel
      go_wp2
      go_ret2
      exact ⟨_, rfl, .inl ⟨rfl, A0, c0, rfl, hc0⟩, hb2⟩
  · have hrow0 : w1.ownsRow w.heap.size 3 1 (.slice (some ⟨g, 0, none⟩) l.length cc) l.length (ics (flipL l (ps.take 0))) := hrow
    clear hrow
    go_wp2_with fail
    go_loopw [24] (fun i wr => ∃ k : Nat, k ≤ ps.length ∧ i = .int .i64 k ∧ wr.ownsRow w.heap.size 3 1 (.slice (some ⟨g, 0, none⟩) l.length cc) l.length (ics (flipL l (ps.take k))) ∧ Below w.heap.size w wr) (fun i _ => ps.length - (intOf i).toNat)
    case atStart => exact ⟨0, Nat.zero_le _, rfl, hrow0, hb⟩
    case round =>
      obtain ⟨k, hk, rfl, hown, hb2⟩ := hrel
      by_cases hlt : k < ps.length
      · obtain ⟨b, off, rfl, hbB, hcell⟩ := hc' (by omega)
        have hcx : wr.cell? ⟨b, off + k, none⟩ = some (.int .i64 (ps.getD k 0)) := (hb2.cell (p := ⟨b, off + k, none⟩) hbB).trans (hcell k hlt)
        have HC := Lib.hid hcell
        clear hcell hc'
        have hp := HR.out k hlt
        have HS := Lib.hid (flipL_snoc l ps k hlt)
        have HL := Lib.hid (flipL_length l (ps.take k))
        have HBk := HB.out (ps.take k)
        generalize ps.getD k 0 = p at hcx hp HS
        obtain ⟨hp1, hp2, _⟩ := hp
        obtain ⟨pn, rfl⟩ := Int.eq_ofNat_of_zero_le hp1
        generalize flipL l (ps.take k) = r at hown HS HL HBk
        have hpn : pn / 8 < r.length := by rw [HL.out]; omega
        have hpn' : (pn : Int) / 8 < (l.length : Int) := by omega
        have hx := HBk _ hpn
        have hcy : wr.cell? ⟨g, pn / 8, none⟩ = some (.int .i64 (r.getD (pn / 8) 0)) := by
          rw [World.ownsRow.cellAt hown (pn / 8) (by omega), ics_get _ _ hpn]
        have HF : Hid (flipAt r (pn : Int) = r.set (pn / 8) ((flipB (r.getD (pn / 8) 0).toNat (pn % 8) : Nat) : Int)) := rfl
        generalize r.getD (pn / 8) 0 = x at hcy hx HF
        obtain ⟨xn, rfl⟩ := Int.eq_ofNat_of_zero_le hx.1
        have hx2 : xn < 256 := by omega
        clear HBk
        have hfz := World.ownsRow.frozenAt hown (pn / 8)
        have hxor := flip_xor xn (pn % 8) hx2
        rw [Int.toNat_natCast] at HF
        generalize flipB xn (pn % 8) = y at hxor HF
        have hst := World.ownsRow.stored hown (pn / 8) (.int .i64 (y : Int))
        rw [ics_set] at hst
        have hs1 := hst.1
        have hb3 : Below w.heap.size w (wr.setCell ⟨g, pn / 8, none⟩ (.int .i64 (y : Int))) := hb2.setCell (p := ⟨g, pn / 8, none⟩) hlo _
        clear hst hown
        go_wp2
        go_region
        all_goals
          go_wp2
          go_roundw
          case rel => exact ⟨k + 1, by omega, by go_num, by rw [HS.out, HF.out]; exact hs1, hb3.drew⟩
          case measure => simp [intOf]; omega
      · obtain rfl : k = ps.length := by omega
        rw [List.take_length] at hown
        have HL := flipL_length l ps
        go_wp2
        go_ret2
        exact ⟨.slice (some ⟨g, 0, none⟩) l.length cc, rfl, .inr ⟨g, cc, by rw [HL], hlo, by have := (row_parts hown).2.1; omega, by rw [HL]; exact hown⟩, hb2⟩

theorem specFlipBits_yes (v v' : Value) (l ps : List Int) (w : World) (h : RI w w.heap.size v l) (h' : RI w w.heap.size v' ps) (hn : l.length ≤ 1048576) (hn' : ps.length ≤ 1048576)
    (hA : areB l = true) (hR : Rises (((8 * l.length : Nat) : Int) - 1) ps ps.length) :
    Calls Try.prog 50 #[v, v'] w (RetLB 3 w (flipL l ps) true) := by
  have h1 := h
  have h1' := h'
  have hl := areB_len hA
  have hO := Lib.hid (areB_ok hA)
  have hR' : decide (Rises (8 * (l.length : Int) - 1) ps ps.length) = true := decide_eq_true ((show 8 * (l.length : Int) - 1 = ((8 * l.length : Nat) : Int) - 1 from by omega) ▸ hR)
  have HR := Lib.hid hR
  have HB := Lib.hid (flipL_bytes l · (fun j hj => okAll_at (areB_ok hA) j hj))
  obtain ⟨A, c, rfl, hlc, hc⟩ := h
  obtain ⟨A', c', rfl, hlc', hc'⟩ := h'
  clear hc hR
  have hz : (l.length : Int) ≤ 40 := by omega
  have hz' : (ps.length : Int) ≤ 1048576 := by omega
  go_enter Try.func50, Try.ntmps50
  go_wp2_with fail
  refine (frBytes_any _ _ _ h1 hn).mono ?_; rintro e w' ⟨rfl, rfl⟩
  go_wp2_with fail
  refine (l1Rising_any _ _ _ _ h1' hn').mono ?_; rintro e w' ⟨rfl, rfl⟩
  go_wp2_with fail
  refine (frBits_any _ _ _ h1 hn hO.out).mono ?_; rintro e w1 ⟨u, rfl, ho, hb⟩
  have HLB := Lib.hid (bitsL_length l)
  have HE : Hid (∀ wr L, RI wr wr.heap.size L (bitsL (flipL l ps)) → Below w.heap.size w wr → Calls Try.prog 69 #[L] wr (fun e w' => ∃ u, e = .returned (.tuple #[u, .bool true]) ∧ OI 3 w' w.heap.size w'.heap.size u (flipL l ps) ∧ Below w.heap.size w w')) := by
    show ∀ wr L, _
    intro wr L hri hbl
    have e1 : (bitsL (flipL l ps)).length = 8 * l.length := by rw [bitsL_length, flipL_length]
    have e2 : fromB (bitsL (flipL l ps)) ((bitsL (flipL l ps)).length / 8) = flipL l ps := by
      have e3 : (bitsL (flipL l ps)).length / 8 = (flipL l ps).length := by rw [bitsL_length]; omega
      rw [e3]
      exact fromB_bitsL _ (HB.out ps)
    have hall : okAll 0 1 (bitsL (flipL l ps)) = true := by
      unfold okAll
      rw [List.all_eq_true]
      intro x hx
      rcases bitsL_01 _ x hx with rfl | rfl <;> decide
    refine (frFrom_yes L (bitsL (flipL l ps)) wr hri (by rw [e1]; omega) hall (by rw [e1]; omega)).mono ?_
    rintro e w2 ⟨u2, rfl, ho2, hb2⟩
    rw [e2] at ho2
    exact ⟨u2, rfl, ho2.wide hbl.size (Nat.le_refl _), hbl.trans (hb2.mono hbl.size)⟩
  rcases ho with ⟨hnil, A0, c0, rfl, hc0⟩ | ⟨g, cc, rfl, hlo, hhi, hrow⟩
  · have hl0 : l.length = 0 := by rw [hnil] at HLB; have := HLB.out; simp only [List.length_nil] at this; omega
    have hps : ps = [] := by
      rcases Nat.eq_zero_or_pos ps.length with h0 | h0
      · exact List.eq_nil_of_length_eq_zero h0
      · have := HR.out 0 h0; omega
    subst hps
    have hFL : bitsL (flipL l []) = [] := hnil
    have HF := Lib.hid hFL
    have hln := List.eq_nil_of_length_eq_zero hl0
    clear hFL hnil hl0
    subst hln
    go_wp2_with fail
    go_loopw [25] (fun i wr => i = .int .i64 0 ∧ Below w.heap.size w wr) (fun _ _ => 0)
    case atStart => exact ⟨rfl, hb⟩
    case round =>
      obtain ⟨rfl, hb2⟩ := hrel
      go_wp2_with fail
      refine (HE.out wr _ (by rw [HF.out]; exact ⟨A0, c0, rfl, ⟨by simp, hc0⟩, fun h => absurd h (by simp)⟩) hb2).mono ?_
      rintro e w2 ⟨u2, rfl, ho2, hb3⟩
      go_wp2_with fail
      go_ret2
      exact ⟨_, rfl, ho2, hb3⟩
  · have hrow0 : w1.ownsRow w.heap.size 3 1 (.slice (some ⟨g, 0, none⟩) (bitsL l).length cc) (bitsL l).length (ics (bitsL (flipL l (ps.take 0)))) := hrow
    rw [HLB.out] at hrow0 ⊢
    clear hrow
    go_wp2_with fail
    go_loopw [25] (fun i wr => ∃ k : Nat, k ≤ ps.length ∧ i = .int .i64 k ∧ wr.ownsRow w.heap.size 3 1 (.slice (some ⟨g, 0, none⟩) (8 * l.length) cc) (8 * l.length) (ics (bitsL (flipL l (ps.take k)))) ∧ Below w.heap.size w wr) (fun i _ => ps.length - (intOf i).toNat)
    case atStart => exact ⟨0, Nat.zero_le _, rfl, hrow0, hb⟩
    case round =>
      obtain ⟨k, hk, rfl, hown, hb2⟩ := hrel
      by_cases hlt : k < ps.length
      · obtain ⟨b, off, rfl, hbB, hcell⟩ := hc' (by omega)
        have hcx : wr.cell? ⟨b, off + k, none⟩ = some (.int .i64 (ps.getD k 0)) := (hb2.cell (p := ⟨b, off + k, none⟩) hbB).trans (hcell k hlt)
        have HC := Lib.hid hcell
        clear hcell hc'
        have hp := HR.out k hlt
        have HS := Lib.hid (flipL_snoc l ps k hlt)
        have HL := Lib.hid (flipL_length l (ps.take k))
        have HBk := Lib.hid (HB.out (ps.take k))
        generalize ps.getD k 0 = p at hcx hp HS
        obtain ⟨hp1, hp2, _⟩ := hp
        obtain ⟨pn, rfl⟩ := Int.eq_ofNat_of_zero_le hp1
        generalize flipL l (ps.take k) = r at hown HS HL HBk
        have hpn : pn < 8 * r.length := by rw [HL.out]; omega
        have hpl : pn < 8 * l.length := by omega
        have hlr := bitsL_length r
        have hcy : wr.cell? ⟨g, pn, none⟩ = some (.int .i64 ((bitsL r).getD pn 0)) := by
          rw [World.ownsRow.cellAt hown pn (by omega), ics_get _ _ (by omega)]
        have HF := Lib.hid (flipAt_bits r pn HBk.out hpn)
        have hx := bitsL_01 r ((bitsL r).getD pn 0) (by have : pn < (bitsL r).length := by omega
                                                        simp [this])
        generalize (bitsL r).getD pn 0 = x at hcy hx HF
        have hfz := World.ownsRow.frozenAt hown pn
        have hst := World.ownsRow.stored hown pn (.int .i64 (1 - x))
        rw [ics_set] at hst
        have hs1 := hst.1
        have hb3 : Below w.heap.size w (wr.setCell ⟨g, pn, none⟩ (.int .i64 (1 - x))) := hb2.setCell (p := ⟨g, pn, none⟩) hlo _
        have hx1 : 0 ≤ x ∧ x ≤ 1 := by omega
        clear hst hown hlr hx
        go_wp2
        go_roundw
        case rel => exact ⟨k + 1, by omega, by go_num, by rw [HS.out, ← HF.out]; exact hs1, hb3⟩
        case measure => simp [intOf]; omega
      · obtain rfl : k = ps.length := by omega
        rw [List.take_length] at hown
        have HL8 : Hid ((bitsL (flipL l ps)).length = 8 * l.length) := by show _ = _; rw [bitsL_length, flipL_length]
        have hrp := row_parts hown
        have HRI : Hid (RI wr wr.heap.size (.slice (some ⟨g, 0, none⟩) (8 * l.length) cc) (bitsL (flipL l ps))) := by
          show RI _ _ _ _
          refine ⟨some ⟨g, 0, none⟩, cc, by rw [HL8.out], ⟨by rw [HL8.out]; exact hrp.2.2.1, hrp.2.2.2.1⟩, fun _ => ⟨g, 0, rfl, hrp.2.1, fun j hj => ?_⟩⟩
          rw [Nat.zero_add, World.ownsRow.cellAt hown j (by rw [HL8.out] at hj; omega), ics_get _ _ hj]
        clear hrp
        go_wp2_with fail
        refine (HE.out wr _ HRI.out hb2).mono ?_
        rintro e w2 ⟨u2, rfl, ho2, hb3⟩
        go_wp2_with fail
        go_ret2
        exact ⟨_, rfl, ho2, hb3⟩

theorem implFlipBits_any (v v' : Value) (l ps : List Int) (w : World) (h : RI w w.heap.size v l) (h' : RI w w.heap.size v' ps) (hn : l.length ≤ 1048576) (hn' : ps.length ≤ 1048576) :
    Calls Try.prog 51 #[v, v'] w (RetLB 3 w (flipBits l ps).1 (flipBits l ps).2) := by
  have h1 := h
  have h1' := h'
  cases hA : areB l
  · rw [flipBits_no (by rw [hA]; simp)]
    go_enter Try.func51, Try.ntmps51
    go_wp2_with fail
    refine (areBytes_any _ _ _ h1 hn).mono ?_; rintro e w' ⟨rfl, rfl⟩
    go_wp2_with fail
    go_ret2
    exact ⟨_, rfl, (Acc.nil _ _ _).oi, Below.refl _ _⟩
  · by_cases hR : Rises (((8 * l.length : Nat) : Int) - 1) ps ps.length
    · rw [flipBits_yes hA hR]
      exact implFlipBits_yes v v' l ps w h h' hn hn' hA hR
    · rw [flipBits_no (fun h => hR h.2)]
      have hl := areB_len hA
      obtain ⟨A, c, rfl, hlc, hc⟩ := h
      obtain ⟨A', c', rfl, hlc', hc'⟩ := h'
      clear hc hc'
      have hR' : decide (Rises ((l.length : Int) * 8 - 1) ps ps.length) = false := decide_eq_false ((show (l.length : Int) * 8 - 1 = ((8 * l.length : Nat) : Int) - 1 from by omega) ▸ hR)
      have hz : (l.length : Int) ≤ 40 := by omega
      clear hR
      go_enter Try.func51, Try.ntmps51
      go_wp2_with fail
      refine (areBytes_any _ _ _ h1 hn).mono ?_; rintro e w' ⟨rfl, rfl⟩
      go_wp2_with fail
      refine (arePlaces_any _ _ _ _ h1' hn' (by omega) (by omega)).mono ?_; rintro e w' ⟨rfl, rfl⟩
      go_wp2_with fail
      go_ret2
      exact ⟨_, rfl, (Acc.nil _ _ _).oi, Below.refl _ _⟩

theorem specFlipBits_any (v v' : Value) (l ps : List Int) (w : World) (h : RI w w.heap.size v l) (h' : RI w w.heap.size v' ps) (hn : l.length ≤ 1048576) (hn' : ps.length ≤ 1048576) :
    Calls Try.prog 50 #[v, v'] w (RetLB 3 w (flipBits l ps).1 (flipBits l ps).2) := by
  have h1 := h
  have h1' := h'
  cases hA : areB l
  · rw [flipBits_no (by rw [hA]; simp)]
    go_enter Try.func50, Try.ntmps50
    go_wp2_with fail
    refine (frBytes_any _ _ _ h1 hn).mono ?_; rintro e w' ⟨rfl, rfl⟩
    go_wp2_with fail
    go_ret2
    exact ⟨_, rfl, (Acc.nil _ _ _).oi, Below.refl _ _⟩
  · by_cases hR : Rises (((8 * l.length : Nat) : Int) - 1) ps ps.length
    · rw [flipBits_yes hA hR]
      exact specFlipBits_yes v v' l ps w h h' hn hn' hA hR
    · rw [flipBits_no (fun h => hR h.2)]
      have hl := areB_len hA
      obtain ⟨A, c, rfl, hlc, hc⟩ := h
      obtain ⟨A', c', rfl, hlc', hc'⟩ := h'
      clear hc hc'
      have hR' : decide (Rises (8 * (l.length : Int) - 1) ps ps.length) = false := decide_eq_false ((show 8 * (l.length : Int) - 1 = ((8 * l.length : Nat) : Int) - 1 from by omega) ▸ hR)
      have hz : (l.length : Int) ≤ 40 := by omega
      clear hR
      go_enter Try.func50, Try.ntmps50
      go_wp2_with fail
      refine (frBytes_any _ _ _ h1 hn).mono ?_; rintro e w' ⟨rfl, rfl⟩
      go_wp2_with fail
      refine (l1Rising_any _ _ _ _ h1' hn').mono ?_; rintro e w' ⟨rfl, rfl⟩
      go_wp2_with fail
      go_ret2
      exact ⟨_, rfl, (Acc.nil _ _ _).oi, Below.refl _ _⟩
end Go.Proofs.Ytaokdocflbabjaa
