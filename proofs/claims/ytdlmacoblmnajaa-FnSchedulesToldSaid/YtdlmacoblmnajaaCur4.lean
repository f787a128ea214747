/-
  The cursor from which the laws' inputs are drawn: what it does to memory, and within which bounds its numbers lie. (The laws hold whatever is drawn.)
-/
import Derived.Test.YtdlmacoblmnajaaBk
import Derived.Test.YtdlmacoblmnajaaIn
import Derived.Laws.BitsAllLaws
import Derived.Laws.BitsLemmas
namespace Go.Proofs.Ytdlmacoblmnajaa
open Go.RowKit
set_option maxRecDepth 100000

theorem Wr.drewN {lo hi : Nat} {a w : World} (h : Wr lo hi a w) (n : Nat) : Wr lo hi a (w.drewN n) := ⟨h.os, h.tape, h.output, h.size, h.block⟩
theorem BK.drewN {w : World} {g : Nat} {t : TypeId} {cs : Array Value} (h : BK w g t cs) (n : Nat) : BK (w.drewN n) g t cs := h
theorem low_byte (X : Int) : 0 ≤ wrap64 (bits .and .u64 X 255) ∧ wrap64 (bits .and .u64 X 255) ≤ 255 := by
  have e : bits .and .u64 X 255 = IntKind.u64.wrap ((BitVec.ofInt 64 X &&& BitVec.ofInt 64 255).toNat : Int) := rfl
  have h255 : (BitVec.ofInt 64 255).toNat = 255 := by decide
  have hm : (BitVec.ofInt 64 X &&& BitVec.ofInt 64 255).toNat ≤ 255 := by
    rw [BitVec.toNat_and, h255]
    exact Nat.and_le_right
  generalize (BitVec.ofInt 64 X &&& BitVec.ofInt 64 255).toNat = m at e hm
  have e2 : IntKind.u64.wrap (m : Int) = (m : Int) := by rw [IntKind.wrap_u64]; omega
  rw [e, e2, IntWalk.wrap64_in _ ⟨by omega, by omega⟩]
  omega
/-- A slice of n bytes below block B. -/
def RB (w : World) (B : Nat) (v : Value) (n : Nat) : Prop :=
  ∃ A c, v = .slice A n c ∧ (n ≤ c ∧ c ≤ maxLen) ∧ (0 < n → ∃ b off, A = some ⟨b, off, none⟩ ∧ b < B ∧ ∀ j, j < n → ∃ x : Nat, x < 256 ∧ w.cell? ⟨b, off + j, none⟩ = some (.int .u8 x))
theorem RB.below {w w' : World} {B : Nat} {v : Value} {n : Nat} (h : RB w B v n) (hb : Below B w w') : RB w' B v n := by
  obtain ⟨A, c, hv, hlc, hc⟩ := h
  refine ⟨A, c, hv, hlc, fun hn => ?_⟩
  obtain ⟨b, off, hA, hbB, hcell⟩ := hc hn
  refine ⟨b, off, hA, hbB, fun j hj => ?_⟩
  obtain ⟨x, hx, hcx⟩ := hcell j hj
  exact ⟨x, hx, (hb.cell (p := ⟨b, off + j, none⟩) hbB).trans hcx⟩
/-- A cursor stands in block g, its bytes (n of them) below B, at most k numbers taken. -/
def CurAt (w : World) (g B n k : Nat) : Prop :=
  B ≤ g ∧ ∃ (s : Value) (a sd : Int), BK w g 50 #[s, .int .i64 a, .int .u64 sd] ∧ 0 ≤ a ∧ a ≤ (k : Int) ∧ RB w B s n
def RetCur (g B n k : Nat) (hi : Int) (w : World) (e : Ending) (w' : World) : Prop :=
  ∃ v : Int, e = .returned (.int .i64 v) ∧ 0 ≤ v ∧ v ≤ hi ∧ CurAt w' g B n k ∧ Wr g (g + 1) w w'

set_option maxHeartbeats 1000000 in
theorem next_any (g B n k : Nat) (w : World) (h : CurAt w g B n k) (hk : k ≤ 1000000000) (hn : n ≤ 1048576) :
    Calls Try.prog 62 #[.pointer (some ⟨g, 0, none⟩)] w (RetCur g B n (k + 1) 255 w) := by
  obtain ⟨hBg, s, a, sd, bk, ha, hak, hrb⟩ := h
  have hrb0 := hrb
  obtain ⟨A, c, rfl, hlc, hc⟩ := hrb
  have c0 := bk.cell 0
  have c1 := bk.cell 1
  have c2 := bk.cell 2
  have f1 := bk.free 1
  have f2 := bk.free 2
  simp at c0 c1 c2
  have hk' : (k : Int) ≤ 1000000000 := by omega
  have hn' : (n : Int) ≤ 1048576 := by omega
  rcases Int.lt_or_le a n with hlt | hlt
  · obtain ⟨an, rfl⟩ := Int.eq_ofNat_of_zero_le ha
    obtain ⟨b, off, rfl, hbB, hcell⟩ := hc (by omega)
    obtain ⟨x, hx, hcx⟩ := hcell an (by omega)
    clear hc hcell
    go_enter Try.func62, Try.ntmps62
    go_wp2
    go_quiet (fail)
    go_wp2
    go_quiet (fail)
    go_wp2
    go_quiet (fail)
    go_wp2
    go_ret
    exact ⟨x, rfl, by omega, by omega, ⟨hBg, _, _, _, ((((bk.drewN _).put 1 _).put 2 _).drewN _), by omega, by omega, hrb0.below (below_drewN (((below_drewN (Below.refl B w) _).setCell (p := ⟨g, 1, none⟩) hBg _).setCell (p := ⟨g, 2, none⟩) hBg _) _)⟩,
      ((((Wr.refl g (g + 1) w).drewN _).setCell (p := ⟨g, 1, none⟩) (Nat.le_refl _) (Nat.lt_succ_self _) _).setCell (p := ⟨g, 2, none⟩) (Nat.le_refl _) (Nat.lt_succ_self _) _).drewN _⟩
  · clear hc
    go_enter Try.func62, Try.ntmps62
    go_wp2
    go_quiet (fail)
    go_wp2
    go_quiet (fail)
    go_wp2
    go_ret
    exact ⟨_, rfl, (low_byte _).1, (low_byte _).2, ⟨hBg, _, _, _, ((((bk.drewN _).put 1 _).put 2 _).drewN _), by omega, by omega, hrb0.below (below_drewN (((below_drewN (Below.refl B w) _).setCell (p := ⟨g, 1, none⟩) hBg _).setCell (p := ⟨g, 2, none⟩) hBg _) _)⟩,
      ((((Wr.refl g (g + 1) w).drewN _).setCell (p := ⟨g, 1, none⟩) (Nat.le_refl _) (Nat.lt_succ_self _) _).setCell (p := ⟨g, 2, none⟩) (Nat.le_refl _) (Nat.lt_succ_self _) _).drewN _⟩

theorem CurAt.more {w : World} {g B n k k' : Nat} (h : CurAt w g B n k) (hk : k ≤ k') : CurAt w g B n k' := by
  obtain ⟨hBg, s, a, sd, bk, ha, hak, hrb⟩ := h
  exact ⟨hBg, s, a, sd, bk, ha, by omega, hrb⟩
theorem CurAt.far {w w' : World} {g B n k a b : Nat} (h : CurAt w g B n k) (hg : Wr a b w w') (hne : g < a ∨ b ≤ g) (hB : B ≤ a) : CurAt w' g B n k := by
  obtain ⟨hBg, s, x, sd, bk, ha, hak, hrb⟩ := h
  exact ⟨hBg, s, x, sd, bk.far hg hne, ha, hak, hrb.below (hg.below hB (by have := bk.1; omega))⟩

/-- A number of 0 to m - 1 (0 where m is at most 1). -/
theorem pick_any (g B n k : Nat) (m : Int) (w : World) (h : CurAt w g B n k) (hk : k ≤ 900000000) (hn : n ≤ 1048576) (hm : 1 ≤ m) (hm2 : m ≤ 1000000) :
    Calls Try.prog 48 #[.pointer (some ⟨g, 0, none⟩), .int .i64 m] w (RetCur g B n (k + 2) (m - 1) w) := by
  by_cases h1 : m ≤ 1
  · go_enter Try.func48, Try.ntmps48
    go_wp2
    go_ret
    exact ⟨0, rfl, by omega, by omega, h.more (by omega), Wr.refl _ _ _⟩
  · by_cases h2 : 200 < m
    · go_enter Try.func48, Try.ntmps48
      go_wp2_with fail
      refine (next_any g B n k w h (by omega) hn).mono ?_; rintro e w1 ⟨v, rfl, v0, v1, h1', g1⟩
      go_wp2_with fail
      refine (next_any g B n (k + 1) w1 h1' (by omega) hn).mono ?_; rintro e w2 ⟨u, rfl, u0, u1, h2', g2⟩
      go_wp2_with fail
      go_ret
      exact ⟨_, rfl, Int.emod_nonneg _ (by omega), by have := Int.emod_lt_of_pos (v * 256 + u) (b := m) (by omega); omega, h2', g1.trans g2⟩
    · go_enter Try.func48, Try.ntmps48
      go_wp2_with fail
      refine (next_any g B n k w h (by omega) hn).mono ?_; rintro e w1 ⟨v, rfl, v0, v1, h1', g1⟩
      go_wp2_with fail
      go_ret
      exact ⟨_, rfl, Int.emod_nonneg _ (by omega), by have := Int.emod_lt_of_pos v (b := m) (by omega); omega, h1'.more (by omega), g1⟩

def RetCurB (g B n k : Nat) (w : World) (e : Ending) (w' : World) : Prop := ∃ b : Bool, e = .returned (.bool b) ∧ CurAt w' g B n k ∧ Wr g (g + 1) w w'
theorem one_any (g B n k : Nat) (m : Int) (w : World) (h : CurAt w g B n k) (hk : k ≤ 900000000) (hn : n ≤ 1048576) (hm : 1 ≤ m) (hm2 : m ≤ 1000000) :
    Calls Try.prog 47 #[.pointer (some ⟨g, 0, none⟩), .int .i64 m] w (RetCurB g B n (k + 2) w) := by
  go_enter Try.func47, Try.ntmps47
  go_wp2_with fail
  refine (pick_any g B n k m w h hk hn hm hm2).mono ?_; rintro e w1 ⟨v, rfl, v0, v1, h1', g1⟩
  go_wp2_with fail
  go_ret
  exact ⟨_, rfl, h1', g1⟩
/-- An element of a list that is not empty. -/
def RetCurI (g B n k : Nat) (l : List Int) (w : World) (e : Ending) (w' : World) : Prop := ∃ j : Nat, j < l.length ∧ e = .returned (.int .i64 (l.getD j 0)) ∧ CurAt w' g B n k ∧ Wr g (g + 1) w w'
theorem among_any (g B n k : Nat) (v : Value) (l : List Int) (w : World) (h : CurAt w g B n k) (hk : k ≤ 900000000) (hn : n ≤ 1048576) (D lo : Nat) (hr : OI 3 w lo D v l) (hlo : g < lo) (hl : 0 < l.length) (hl2 : l.length ≤ 1000000) :
    Calls Try.prog 57 #[.pointer (some ⟨g, 0, none⟩), v] w (RetCurI g B n (k + 2) l w) := by
  have hr0 := hr
  obtain ⟨A, c, rfl, hlc, hc⟩ := hr.ri
  clear hc
  have hl' : (1 : Int) ≤ (l.length : Int) := by omega
  have hl2' : (l.length : Int) ≤ 1000000 := by omega
  go_enter Try.func57, Try.ntmps57
  go_wp2_with fail
  refine (pick_any g B n k _ w h hk hn hl' hl2').mono ?_; rintro e w1 ⟨u, rfl, u0, u1, h1', g1⟩
  obtain ⟨j, rfl⟩ := Int.eq_ofNat_of_zero_le u0
  have hj : j < l.length := by omega
  obtain ⟨A', c', hv, _, hc⟩ := (hr0.far g1 (.inr (by omega))).ri
  injection hv with e1 e2 e3
  subst e1; subst e3
  obtain ⟨b, off, rfl, hbD, hcell⟩ := hc (by omega)
  have hcx := hcell j hj
  clear hc hcell e2
  have hj' : (j : Int) < (l.length : Int) := by omega
  have HL := Lib.hid (show l.getD j 0 = l.getD j 0 from rfl)
  obtain ⟨x, hx⟩ : ∃ x, x = l.getD j 0 := ⟨_, rfl⟩
  rw [← hx] at hcx
  have HX := Lib.hid hx
  clear hx HL u0 u1
  go_wp2_with fail
  go_ret
  exact ⟨j, hj, by rw [← HX.out]; rfl, h1', g1⟩
end Go.Proofs.Ytdlmacoblmnajaa
