/-
  The cursor from which the laws' inputs are drawn: what it does to memory, and within which bounds its numbers lie. (The laws hold whatever is drawn.) Jobs as the laws' inputs are drawn. The draws of jobs, and the helpers of the drawn laws that compare lists. The draws of jobs with a number. Eight numbers as the laws' inputs are drawn; the draws of turns and deficits.
-/
import Derived.Test.YteoggoopfjkdkaaBk
import Derived.Test.YteoggoopfjkdkaaIn
import Derived.Laws.BitsAllLaws
import Derived.Laws.BitsLemmas
import Derived.Test.YteoggoopfjkdkaaSJob
import Derived.Test.YteoggoopfjkdkaaAcc
import Derived.Test.YteoggoopfjkdkaaJobs
import Derived.Deep.RegionWith
import Derived.Deep.DeepCutAuto
namespace Go.Proofs.Yteoggoopfjkdkaa
section
open Go.RowKit
set_option maxRecDepth 100000

theorem Wr.drewN {lo hi : Nat} {a w : World} (h : Wr lo hi a w) (n : Nat) : Wr lo hi a (w.drewN n) := ⟨h.os, h.tape, h.output, h.size, h.block⟩
theorem BK.drewN {w : World} {g : Nat} {t : TypeId} {cs : Array Value} (h : BK w g t cs) (n : Nat) : BK (w.drewN n) g t cs := h
theorem low_byte (X : Int) : 0 ≤ wrap64 (bits .and .u64 X 255) ∧ wrap64 (bits .and .u64 X 255) ≤ 255 := by
  have e : bits .and .u64 X 255 = IntKind.u64.wrap ((BitVec.ofInt 64 X &&& BitVec.ofInt 64 255).toNat : Int) := rfl
  have h255 : (BitVec.ofInt 64 255).toNat = 255 := by decide
  have hm : (BitVec.ofInt 64 X &&& BitVec.ofInt 64 255).toNat ≤ 255 := by
    rw [BitVec.toNat_and, h255]
    exact Nat.and_le_right
  generalize (BitVec.ofInt 64 X &&& BitVec.ofInt 64 255).toNat = m at e hm
  have e2 : IntKind.u64.wrap (m : Int) = (m : Int) := by rw [IntKind.wrap_u64]; omega
  rw [e, e2, IntWalk.wrap64_in _ ⟨by omega, by omega⟩]
  omega
/-- A slice of n bytes below block B. -/
def RB (w : World) (B : Nat) (v : Value) (n : Nat) : Prop :=
  ∃ A c, v = .slice A n c ∧ (n ≤ c ∧ c ≤ maxLen) ∧ (0 < n → ∃ b off, A = some ⟨b, off, none⟩ ∧ b < B ∧ ∀ j, j < n → ∃ x : Nat, x < 256 ∧ w.cell? ⟨b, off + j, none⟩ = some (.int .u8 x))
theorem RB.below {w w' : World} {B : Nat} {v : Value} {n : Nat} (h : RB w B v n) (hb : Below B w w') : RB w' B v n := by
  obtain ⟨A, c, hv, hlc, hc⟩ := h
  refine ⟨A, c, hv, hlc, fun hn => ?_⟩
  obtain ⟨b, off, hA, hbB, hcell⟩ := hc hn
  refine ⟨b, off, hA, hbB, fun j hj => ?_⟩
  obtain ⟨x, hx, hcx⟩ := hcell j hj
  exact ⟨x, hx, (hb.cell (p := ⟨b, off + j, none⟩) hbB).trans hcx⟩
/-- A cursor stands in block g, its bytes (n of them) below B, at most k numbers taken. -/
def CurAt (w : World) (g B n k : Nat) : Prop :=
  B ≤ g ∧ ∃ (s : Value) (a sd : Int), BK w g 55 #[s, .int .i64 a, .int .u64 sd] ∧ 0 ≤ a ∧ a ≤ (k : Int) ∧ RB w B s n
def RetCur (g B n k : Nat) (hi : Int) (w : World) (e : Ending) (w' : World) : Prop :=
  ∃ v : Int, e = .returned (.int .i64 v) ∧ 0 ≤ v ∧ v ≤ hi ∧ CurAt w' g B n k ∧ Wr g (g + 1) w w'

set_option maxHeartbeats 1000000 in
theorem next_any (g B n k : Nat) (w : World) (h : CurAt w g B n k) (hk : k ≤ 1000000000) (hn : n ≤ 1048576) :
    Calls Try.prog 62 #[.pointer (some ⟨g, 0, none⟩)] w (RetCur g B n (k + 1) 255 w) := by
  obtain ⟨hBg, s, a, sd, bk, ha, hak, hrb⟩ := h
  have hrb0 := hrb
  obtain ⟨A, c, rfl, hlc, hc⟩ := hrb
  have c0 := bk.cell 0
  have c1 := bk.cell 1
  have c2 := bk.cell 2
  have f1 := bk.free 1
  have f2 := bk.free 2
  simp at c0 c1 c2
  have hk' : (k : Int) ≤ 1000000000 := by omega
  have hn' : (n : Int) ≤ 1048576 := by omega
  rcases Int.lt_or_le a n with hlt | hlt
  · obtain ⟨an, rfl⟩ := Int.eq_ofNat_of_zero_le ha
    obtain ⟨b, off, rfl, hbB, hcell⟩ := hc (by omega)
    obtain ⟨x, hx, hcx⟩ := hcell an (by omega)
    clear hc hcell
    go_enter Try.func62, Try.ntmps62
    go_wp2
    go_quiet (fail)
    go_wp2
    go_quiet (fail)
    go_wp2
    go_quiet (fail)
    go_wp2
    go_ret
    exact ⟨x, rfl, by omega, by omega, ⟨hBg, _, _, _, ((((bk.drewN _).put 1 _).put 2 _).drewN _), by omega, by omega, hrb0.below (below_drewN (((below_drewN (Below.refl B w) _).setCell (p := ⟨g, 1, none⟩) hBg _).setCell (p := ⟨g, 2, none⟩) hBg _) _)⟩,
      ((((Wr.refl g (g + 1) w).drewN _).setCell (p := ⟨g, 1, none⟩) (Nat.le_refl _) (Nat.lt_succ_self _) _).setCell (p := ⟨g, 2, none⟩) (Nat.le_refl _) (Nat.lt_succ_self _) _).drewN _⟩
  · clear hc
    go_enter Try.func62, Try.ntmps62
    go_wp2
    go_quiet (fail)
    go_wp2
    go_quiet (fail)
    go_wp2
    go_ret
    exact ⟨_, rfl, (low_byte _).1, (low_byte _).2, ⟨hBg, _, _, _, ((((bk.drewN _).put 1 _).put 2 _).drewN _), by omega, by omega, hrb0.below (below_drewN (((below_drewN (Below.refl B w) _).setCell (p := ⟨g, 1, none⟩) hBg _).setCell (p := ⟨g, 2, none⟩) hBg _) _)⟩,
      ((((Wr.refl g (g + 1) w).drewN _).setCell (p := ⟨g, 1, none⟩) (Nat.le_refl _) (Nat.lt_succ_self _) _).setCell (p := ⟨g, 2, none⟩) (Nat.le_refl _) (Nat.lt_succ_self _) _).drewN _⟩

theorem CurAt.more {w : World} {g B n k k' : Nat} (h : CurAt w g B n k) (hk : k ≤ k') : CurAt w g B n k' := by
  obtain ⟨hBg, s, a, sd, bk, ha, hak, hrb⟩ := h
  exact ⟨hBg, s, a, sd, bk, ha, by omega, hrb⟩
theorem CurAt.far {w w' : World} {g B n k a b : Nat} (h : CurAt w g B n k) (hg : Wr a b w w') (hne : g < a ∨ b ≤ g) (hB : B ≤ a) : CurAt w' g B n k := by
  obtain ⟨hBg, s, x, sd, bk, ha, hak, hrb⟩ := h
  exact ⟨hBg, s, x, sd, bk.far hg hne, ha, hak, hrb.below (hg.below hB (by have := bk.1; omega))⟩

/-- A number of 0 to m - 1 (0 where m is at most 1). -/
theorem pick_any (g B n k : Nat) (m : Int) (w : World) (h : CurAt w g B n k) (hk : k ≤ 900000000) (hn : n ≤ 1048576) (hm : 1 ≤ m) (hm2 : m ≤ 1000000) :
    Calls Try.prog 36 #[.pointer (some ⟨g, 0, none⟩), .int .i64 m] w (RetCur g B n (k + 2) (m - 1) w) := by
  by_cases h1 : m ≤ 1
  · go_enter Try.func36, Try.ntmps36
    go_wp2
    go_ret
    exact ⟨0, rfl, by omega, by omega, h.more (by omega), Wr.refl _ _ _⟩
  · by_cases h2 : 200 < m
    · go_enter Try.func36, Try.ntmps36
      go_wp2_with fail
      refine (next_any g B n k w h (by omega) hn).mono ?_; rintro e w1 ⟨v, rfl, v0, v1, h1', g1⟩
      go_wp2_with fail
      refine (next_any g B n (k + 1) w1 h1' (by omega) hn).mono ?_; rintro e w2 ⟨u, rfl, u0, u1, h2', g2⟩
      go_wp2_with fail
      go_ret
      exact ⟨_, rfl, Int.emod_nonneg _ (by omega), by have := Int.emod_lt_of_pos (v * 256 + u) (b := m) (by omega); omega, h2', g1.trans g2⟩
    · go_enter Try.func36, Try.ntmps36
      go_wp2_with fail
      refine (next_any g B n k w h (by omega) hn).mono ?_; rintro e w1 ⟨v, rfl, v0, v1, h1', g1⟩
      go_wp2_with fail
      go_ret
      exact ⟨_, rfl, Int.emod_nonneg _ (by omega), by have := Int.emod_lt_of_pos v (b := m) (by omega); omega, h1'.more (by omega), g1⟩

def RetCurB (g B n k : Nat) (w : World) (e : Ending) (w' : World) : Prop := ∃ b : Bool, e = .returned (.bool b) ∧ CurAt w' g B n k ∧ Wr g (g + 1) w w'
theorem one_any (g B n k : Nat) (m : Int) (w : World) (h : CurAt w g B n k) (hk : k ≤ 900000000) (hn : n ≤ 1048576) (hm : 1 ≤ m) (hm2 : m ≤ 1000000) :
    Calls Try.prog 33 #[.pointer (some ⟨g, 0, none⟩), .int .i64 m] w (RetCurB g B n (k + 2) w) := by
  go_enter Try.func33, Try.ntmps33
  go_wp2_with fail
  refine (pick_any g B n k m w h hk hn hm hm2).mono ?_; rintro e w1 ⟨v, rfl, v0, v1, h1', g1⟩
  go_wp2_with fail
  go_ret
  exact ⟨_, rfl, h1', g1⟩
/-- An element of a list that is not empty. -/
def RetCurI (g B n k : Nat) (l : List Int) (w : World) (e : Ending) (w' : World) : Prop := ∃ j : Nat, j < l.length ∧ e = .returned (.int .i64 (l.getD j 0)) ∧ CurAt w' g B n k ∧ Wr g (g + 1) w w'
theorem among_any (g B n k : Nat) (v : Value) (l : List Int) (w : World) (h : CurAt w g B n k) (hk : k ≤ 900000000) (hn : n ≤ 1048576) (D lo : Nat) (hr : OI 3 w lo D v l) (hlo : g < lo) (hl : 0 < l.length) (hl2 : l.length ≤ 1000000) :
    Calls Try.prog 35 #[.pointer (some ⟨g, 0, none⟩), v] w (RetCurI g B n (k + 2) l w) := by
  have hr0 := hr
  obtain ⟨A, c, rfl, hlc, hc⟩ := hr.ri
  clear hc
  have hl' : (1 : Int) ≤ (l.length : Int) := by omega
  have hl2' : (l.length : Int) ≤ 1000000 := by omega
  go_enter Try.func35, Try.ntmps35
  go_wp2_with fail
  refine (pick_any g B n k _ w h hk hn hl' hl2').mono ?_; rintro e w1 ⟨u, rfl, u0, u1, h1', g1⟩
  obtain ⟨j, rfl⟩ := Int.eq_ofNat_of_zero_le u0
  have hj : j < l.length := by omega
  obtain ⟨A', c', hv, _, hc⟩ := (hr0.far g1 (.inr (by omega))).ri
  injection hv with e1 e2 e3
  subst e1; subst e3
  obtain ⟨b, off, rfl, hbD, hcell⟩ := hc (by omega)
  have hcx := hcell j hj
  clear hc hcell e2
  have hj' : (j : Int) < (l.length : Int) := by omega
  have HL := Lib.hid (show l.getD j 0 = l.getD j 0 from rfl)
  obtain ⟨x, hx⟩ : ∃ x, x = l.getD j 0 := ⟨_, rfl⟩
  rw [← hx] at hcx
  have HX := Lib.hid hx
  clear hx HL u0 u1
  go_wp2_with fail
  go_ret
  exact ⟨j, hj, by rw [← HX.out]; rfl, h1', g1⟩
end
section
open Go.RowKit
set_option maxRecDepth 100000
set_option linter.unusedVariables false

theorem AccK.apart {k : Nat} {E : TypeId} {w w' : World} {lo a b n : Nat} {v : Value} {l : List Int} (h : AccK k E w lo v n l) (hg : Wr a b w w') (hb : b ≤ lo) : AccK k E w' lo v n l := by
  refine ⟨h.1, h.2.1, ?_⟩
  rcases h.2.2 with ⟨hv, hn⟩ | ⟨g, c, cur, hv, hlo, hh, r⟩
  · exact .inl ⟨hv, hn⟩
  · exact .inr ⟨g, c, cur, hv, hlo, by rw [hg.block g (Array.getElem?_eq_some_iff.1 hh).1 (.inr (by omega))]; exact hh, r⟩
theorem CurAt.below {w w' : World} {g B n k lo : Nat} (h : CurAt w g B n k) (hb : Below lo w w') (hg : g < lo) : CurAt w' g B n k := by
  obtain ⟨hBg, s, x, sd, bk, ha, hak, hrb⟩ := h
  exact ⟨hBg, s, x, sd, ⟨Nat.lt_of_lt_of_le bk.1 hb.size, (hb.block g hg).trans bk.2⟩, ha, hak, hrb.below (hb.mono (by omega))⟩
theorem CurAt.lt {w : World} {g B n k : Nat} (h : CurAt w g B n k) : g < w.heap.size := by
  obtain ⟨_, _, _, _, bk, _⟩ := h
  exact bk.1
theorem Wr.and_below {a b lo : Nat} {w0 w w' : World} (h : Wr a b w0 w) (hb : Below lo w w') (hlo : w0.heap.size ≤ lo) : Wr a b w0 w' :=
  ⟨hb.os.trans h.os, hb.tape.trans h.tape, hb.output.trans h.output, Nat.le_trans h.size hb.size, fun k hk hn => (hb.block k (by omega)).trans (h.block k hk hn)⟩
/-- A literal of ints is owned. -/
theorem litN {E : TypeId} {w : World} (l : List Int) (m : Nat) (cs : Array Value) (hm : m = l.length) (hm0 : 0 < m) (hcs : cs.toList = ics l) (hl : l.length ≤ 100) : OI E (w.alloc (.cells cs E)) w.heap.size (w.alloc (.cells cs E)).heap.size (.slice (some ⟨w.heap.size, 0, none⟩) m m) l := by
  subst hm
  have hs : cs.size = l.length := by
    rw [← Array.length_toList, hcs]
    simp [ics]
  have h : (w.alloc (.cells cs E)).ownsRow w.heap.size E 1 (.slice (some ⟨w.heap.size, 0, none⟩) l.length l.length) l.length (ics l) :=
    ⟨by simp [ics], .inr ⟨_, l.length, cs, rfl, Nat.le_refl _, heap_alloc_new w _, Nat.le_refl _, by unfold maxLen; omega, by omega, by rw [hcs, Nat.mul_one]; exact List.take_of_length_le (by simp [ics])⟩⟩
  exact Acc.oi h
/-- A flat list is that of a list of jobs. -/
theorem unflatJb (n : Nat) (f : List Int) (h : f.length = n * 3) : ∃ l : List Jb, l.length = n ∧ flatJb l = f := by
  induction n generalizing f with
  | zero => exact ⟨[], rfl, by rw [List.eq_nil_of_length_eq_zero (l := f) (by omega)]; rfl⟩
  | succ n ih =>
    match f, h with
    | a :: b :: c :: r, h =>
      obtain ⟨l, hl, hf⟩ := ih r (by simp at h; omega)
      exact ⟨⟨a, b, c⟩ :: l, by simp [hl], by show [a, b, c] ++ flatJb l = _; rw [hf]; rfl⟩
    | [], h => simp at h
    | [_], h => simp at h; omega
    | [_, _], h => simp at h; omega
def RetJobs (g B n k : Nat) (w : World) (e : Ending) (w' : World) : Prop :=
  ∃ (u : Value) (l : List Jb), e = .returned u ∧ l.length ≤ 21 ∧ OJbS w' w.heap.size w'.heap.size u l ∧ CurAt w' g B n k ∧ Wr g (g + 1) w w'
/-- What is gathered, as a slice. -/
theorem AccK.form {k : Nat} {E : TypeId} {w : World} {lo n : Nat} {v : Value} {l : List Int} (h : AccK k E w lo v n l) : (n = 0 ∧ v = .slice none 0 0) ∨ ∃ b c, v = .slice (some ⟨b, 0, none⟩) n c ∧ lo ≤ b ∧ b < w.heap.size ∧ n ≤ c ∧ c ≤ maxLen ∧ (∀ j, j < n * k → w.cell? ⟨b, j, none⟩ = some (.int .i64 (l.getD j 0))) ∧ (∀ j, w.frozen? ⟨b, j, none⟩ = false) := by
  have h0 := h
  rcases h.2.2 with ⟨hv, hn⟩ | ⟨g, c, cur, rfl, hlo, hh, hc, hcm, r1, r2⟩
  · exact .inl ⟨hn, hv⟩
  · refine .inr ⟨g, c, rfl, hlo, (Array.getElem?_eq_some_iff.1 hh).1, hc, hcm, fun j hj => ?_, fun j => World.ownsRow.frozenAt h0.2 j⟩
    rw [World.ownsRow.cellAt h0.2 j hj, ics_get l j (by have := h0.1; omega)]
theorem AccK.cell {k : Nat} {E : TypeId} {w : World} {lo n b c : Nat} {l : List Int} (h : AccK k E w lo (.slice (some ⟨b, 0, none⟩) n c) n l) (j : Nat) (hj : j < n * k) : w.cell? ⟨b, j, none⟩ = some (.int .i64 (l.getD j 0)) := by
  rw [World.ownsRow.cellAt h.2 j hj, ics_get l j (by have := h.1; omega)]
theorem AccK.put {k : Nat} {E : TypeId} {w : World} {lo n b c : Nat} {l : List Int} (h : AccK k E w lo (.slice (some ⟨b, 0, none⟩) n c) n l) (j : Nat) (y : Int) : AccK k E (w.setCell ⟨b, j, none⟩ (.int .i64 y)) lo (.slice (some ⟨b, 0, none⟩) n c) n (l.set j y) := by
  refine ⟨by rw [List.length_set]; exact h.1, ?_⟩
  have := World.ownsRow.stored h.2 j (.int .i64 y)
  have e : ics (l.set j y) = (ics l).set j (.int .i64 y) := by simp [ics, List.map_set]
  rw [e]
  exact this.1
theorem RetJobs.of {g B n k k' m : Nat} {w w' : World} {u : Value} {f : List Int} (h : AccK 3 43 w' w.heap.size u m f) (hm : m ≤ 21) (hc : CurAt w' g B n k') (hk : k' ≤ k) (hw : Wr g (g + 1) w w') : RetJobs g B n k w (.returned u) w' := by
  obtain ⟨l, rfl, rfl⟩ := unflatJb m f h.1
  exact ⟨u, l, rfl, hm, h.ok, hc.more hk, hw⟩

set_option maxHeartbeats 2000000 in
theorem jobs_any (g B n k : Nat) (w : World) (h : CurAt w g B n k) (hk : k ≤ 100000000) (hn : n ≤ 1048576) :
    Calls Try.prog 34 #[.pointer (some ⟨g, 0, none⟩)] w (RetJobs g B n (k + 200) w) := by
  obtain ⟨i0, hi, hz0, hz1, hz2⟩ := info_parts job_info
  have hgw := h.lt
  go_enter Try.func34, Try.ntmps34
  go_wp2_with fail
  refine (pick_any g B n k 3 w h (by omega) hn (by omega) (by omega)).mono ?_; rintro e w1 ⟨t, rfl, t0, t1, h1, g1⟩
  go_wp2_with fail
  refine (pick_any g B n (k + 2) 9 w1 h1 (by omega) hn (by omega) (by omega)).mono ?_; rintro e w2 ⟨q, rfl, q0, q1, h2, g2⟩
  have g02 := g1.trans g2
  obtain ⟨q, rfl⟩ := Int.eq_ofNat_of_zero_le q0
  clear h h1 g1 g2
  go_wp2_with fail
  go_loopw [3, 4, 5] (fun u i j wr => ∃ (m r : Nat) (x : Int) (f : List Int), m + r ≤ 8 ∧ j = .int .i64 r ∧ i = .int .i64 x ∧ 0 ≤ x ∧ x ≤ 2 + 15 * m ∧ AccK 3 43 wr w.heap.size u m f ∧ CurAt wr g B n (k + 4 + 6 * m) ∧ Wr g (g + 1) w wr) (fun _ _ j _ => (intOf j).toNat)
  case atStart => exact ⟨0, q, t, [], by omega, rfl, rfl, t0, by omega, AccK.nil _ _ _ _, h2, g02⟩
  case round =>
    obtain ⟨m, r, x, f, hmr, rfl, rfl, x0, x1, hacc, hcur, hwr⟩ := hrel
    have hgr := hcur.lt
    have hsz := hwr.size
    by_cases hr : 0 < r
    · have hr' : (0 : Int) < (r : Int) := by omega
      have hx' : x ≤ 122 := by omega
      have hm8 : m ≤ 7 := by omega
      go_wp2_with fail
      refine (pick_any g B n _ 8 _ hcur (by omega) hn (by omega) (by omega)).mono ?_; rintro e w3 ⟨c1, rfl, c10, c11, h3, g3⟩
      go_wp2_with fail
      refine (pick_any g B n _ 6 _ h3 (by omega) hn (by omega) (by omega)).mono ?_; rintro e w4 ⟨l1, rfl, l10, l11, h4, g4⟩
      have hacc4 := AccK.apart hacc (g3.trans g4) (by omega)
      have hw4 := hwr.trans (g3.trans g4)
      have hs4 := hw4.size
      clear hacc hcur h3 g3 g4 hwr
      go_wp2_with (at_builtin; refine wpList_pushK rfl _ _ _ rfl 43 i0 Try.underlying24 hi _ 3 24 hz0 hz1 hz2 rfl (by omega) (by omega) _ w4 w.heap.size _ m f [x, c1, 1 + l1] _ rfl rfl rfl rfl hacc4 rfl (by omega) (by omega) (Below.refl _ _) ?_; intro v5 w5 hacc5 hb5)
      have h5 := h4.below hb5 hgw
      have hw5 := hw4.and_below hb5 (Nat.le_refl _)
      have hs5 := hw5.size
      clear h4 hacc4 hw4 hb5
      go_wp2_with fail
      refine (among_any g B n _ _ [0, 0, 1, 2, 4, 15] _ (h5.below ((Below.refl _ _).alloc (Nat.le_refl _) _) (by omega)) (by omega) hn _ _ (litN [0, 0, 1, 2, 4, 15] 6 _ rfl (by omega) rfl (by simp)) (by omega) (by simp) (by simp)).mono ?_; rintro e w6 ⟨jj, hjj, rfl, h6, g6⟩
      have y0 : 0 ≤ List.getD [(0 : Int), 0, 1, 2, 4, 15] jj 0 ∧ List.getD [(0 : Int), 0, 1, 2, 4, 15] jj 0 ≤ 15 := by
        match jj, hjj with
        | 0, _ => decide
        | 1, _ => decide
        | 2, _ => decide
        | 3, _ => decide
        | 4, _ => decide
        | 5, _ => decide
      generalize List.getD [(0 : Int), 0, 1, 2, 4, 15] jj 0 = y at y0
      obtain ⟨y0, y1⟩ := y0
      have gA : Wr g (g + 1) w5 w6 := (Wr.of_below ((Below.refl _ _).alloc (Nat.le_refl _) _) g (g + 1)).trans g6
      have hacc6 := AccK.apart hacc5 gA (by omega)
      have hw6 := hw5.trans gA
      have hs6 := hw6.size
      clear h5 hacc5 hw5 g6 gA hjj
      go_wp2_with fail
      go_roundw
      case rel => first | exact ⟨m + 1, r - 1, x + y, f ++ [x, c1, 1 + l1], by omega, by go_num, by go_num, by omega, by omega, hacc6, h6.more (by omega), hw6⟩ | exact ⟨m + 1, r - 1, x + y, f ++ [x, c1, 1 + l1], by omega, by omega, by omega, by omega, by omega, hacc6, h6.more (by omega), hw6⟩
      case measure => simp [intOf]; omega
    · obtain rfl : r = 0 := by omega
      rcases hacc.form with ⟨rfl, rfl⟩ | ⟨b, c, rfl, hlb, hbw, hmc, hcm, hcell, hfz⟩
      · go_wp2_with fail
        go_ret
        exact RetJobs.of hacc (by omega) hcur (by omega) hwr
      by_cases hm0 : m = 0
      · subst hm0
        clear hcell hfz
        go_wp2_with fail
        go_ret
        exact RetJobs.of hacc (by omega) hcur (by omega) hwr
      have hm1 : (0 : Int) < (m : Int) := by omega
      have hm9 : (m : Int) ≤ 8 := by omega
      have hm8 : m ≤ 8 := by omega
      have HC := Lib.hid hcell
      have HZ := Lib.hid hfz
      clear hcell hfz hmr
      go_wp2_with fail
      refine (pick_any g B n _ 16 _ hcur (by omega) hn (by omega) (by omega)).mono ?_; rintro e w3 ⟨s, rfl, s0, s1, h3, g3⟩
      have hw3 := hwr.trans g3
      have hs3 := hw3.size
      have hacc3 := AccK.apart hacc g3 (by omega)
      clear hacc hcur hwr g3 HC HZ
      obtain ⟨p, rfl⟩ : ∃ p, m = p + 1 := ⟨m - 1, by omega⟩
      by_cases e0 : s = 0
      · subst e0
        go_wp2_with fail
        refine (among_any g B n _ _ [0, 20, 21, 4611686018427387904] _ (h3.below ((Below.refl _ _).alloc (Nat.le_refl _) _) (by omega)) (by omega) hn _ _ (litN [0, 20, 21, 4611686018427387904] 4 _ rfl (by omega) rfl (by simp)) (by omega) (by simp) (by simp)).mono ?_; rintro e w6 ⟨jj, hjj, rfl, h6, g6⟩
        generalize List.getD [(0 : Int), 20, 21, 4611686018427387904] jj 0 = y
        have gA : Wr g (g + 1) w3 w6 := (Wr.of_below ((Below.refl _ _).alloc (Nat.le_refl _) _) g (g + 1)).trans g6
        have hacc6 := AccK.apart hacc3 gA (by omega)
        have hw6 := hw3.trans gA
        have hs6 := hw6.size
        clear h3 hacc3 hw3 g6 gA hjj
        have hz := (World.ownsRow.frozenAt hacc6.2 (2))
        have hd := AccK.cell hacc6 (2) (by omega)
        generalize List.getD f (2) 0 = fy at hd
        go_wp2_with fail
        go_ret
        exact RetJobs.of (AccK.put hacc6 (2) y) (by omega) (h6.below (lo := w.heap.size) ((Below.refl _ _).setCell (p := ⟨b, 2, none⟩) hlb _) hgw) (by omega) (hw6.and_below ((Below.refl w.heap.size w6).setCell (p := ⟨b, 2, none⟩) hlb _) (Nat.le_refl _))
      by_cases e1 : s = 1
      · subst e1
        go_wp2_with fail
        refine (among_any g B n _ _ [-1, 8] _ (h3.below ((Below.refl _ _).alloc (Nat.le_refl _) _) (by omega)) (by omega) hn _ _ (litN [-1, 8] 2 _ rfl (by omega) rfl (by simp)) (by omega) (by simp) (by simp)).mono ?_; rintro e w6 ⟨jj, hjj, rfl, h6, g6⟩
        generalize List.getD [(-1 : Int), 8] jj 0 = y
        have gA : Wr g (g + 1) w3 w6 := (Wr.of_below ((Below.refl _ _).alloc (Nat.le_refl _) _) g (g + 1)).trans g6
        have hacc6 := AccK.apart hacc3 gA (by omega)
        have hw6 := hw3.trans gA
        have hs6 := hw6.size
        clear h3 hacc3 hw3 g6 gA hjj
        have hz := (World.ownsRow.frozenAt hacc6.2 (p * 3 + 1))
        have hd := AccK.cell hacc6 (p * 3 + 1) (by omega)
        generalize List.getD f (p * 3 + 1) 0 = fy at hd
        go_wp2_with fail
        go_ret
        exact RetJobs.of (AccK.put hacc6 (p * 3 + 1) y) (by omega) (h6.below (lo := w.heap.size) ((Below.refl _ _).setCell (p := ⟨b, p * 3 + 1, none⟩) hlb _) hgw) (by omega) (hw6.and_below ((Below.refl w.heap.size w6).setCell (p := ⟨b, p * 3 + 1, none⟩) hlb _) (Nat.le_refl _))
      by_cases e2 : s = 2
      · subst e2
        go_wp2_with fail
        refine (among_any g B n _ _ [-1, 1000, 1001] _ (h3.below ((Below.refl _ _).alloc (Nat.le_refl _) _) (by omega)) (by omega) hn _ _ (litN [-1, 1000, 1001] 3 _ rfl (by omega) rfl (by simp)) (by omega) (by simp) (by simp)).mono ?_; rintro e w6 ⟨jj, hjj, rfl, h6, g6⟩
        generalize List.getD [(-1 : Int), 1000, 1001] jj 0 = y
        have gA : Wr g (g + 1) w3 w6 := (Wr.of_below ((Below.refl _ _).alloc (Nat.le_refl _) _) g (g + 1)).trans g6
        have hacc6 := AccK.apart hacc3 gA (by omega)
        have hw6 := hw3.trans gA
        have hs6 := hw6.size
        clear h3 hacc3 hw3 g6 gA hjj
        have hz := (World.ownsRow.frozenAt hacc6.2 (0))
        have hd := AccK.cell hacc6 (0) (by omega)
        generalize List.getD f (0) 0 = fy at hd
        go_wp2_with fail
        go_ret
        exact RetJobs.of (AccK.put hacc6 (0) y) (by omega) (h6.below (lo := w.heap.size) ((Below.refl _ _).setCell (p := ⟨b, 0, none⟩) hlb _) hgw) (by omega) (hw6.and_below ((Below.refl w.heap.size w6).setCell (p := ⟨b, 0, none⟩) hlb _) (Nat.le_refl _))
      by_cases e3 : s = 3
      · subst e3
        go_wp2_with fail
        go_loopw [3] (fun u wr => ∃ (p : Nat) (f : List Int), p ≤ 20 ∧ AccK 3 43 wr w.heap.size u (p + 1) f ∧ CurAt wr g B n (k + 60 + 2 * p) ∧ Wr g (g + 1) w wr) (fun u _ => 21 - (match u with | .slice _ n _ => n | _ => 0))
        case atStart => exact ⟨p, f, by omega, hacc3, h3.more (by omega), hw3⟩
        case round =>
          obtain ⟨p, f, hp, hacc, hcur, hwr⟩ := hrel
          have hgr := hcur.lt
          have hsz := hwr.size
          have hp' : (p : Int) ≤ 20 := by omega
          rcases hacc.form with ⟨h0, _⟩ | ⟨b, c, rfl, hlb, hbw, hmc, hcm, hcell, hfz⟩
          · omega
          have HC := Lib.hid hcell
          clear hcell hfz
          go_wp2_with fail
          refine (pick_any g B n _ 2 _ hcur (by omega) hn (by omega) (by omega)).mono ?_; rintro e w4 ⟨z, rfl, z0, z1, h4, g4⟩
          have hw4 := hwr.trans g4
          have hs4 := hw4.size
          have hacc4 := AccK.apart hacc g4 (by omega)
          clear hacc hcur hwr g4 HC
          by_cases hlt : (p : Int) + 1 < 20 + z
          · rcases hacc4.form with ⟨h0, _⟩ | ⟨b', c', hbc, _, _, _, _, hcell, hfz⟩
            · omega
            injection hbc with q1 q2 q3
            injection q1 with q1
            injection q1 with q1
            subst q1; subst q3
            have d0 := hcell (p * 3) (by omega)
            have d1 := hcell (p * 3 + 1) (by omega)
            have d2 := hcell (p * 3 + 2) (by omega)
            clear hcell hfz q2
            generalize List.getD f (p * 3) 0 = x0 at d0
            generalize List.getD f (p * 3 + 1) 0 = x1 at d1
            generalize List.getD f (p * 3 + 2) 0 = x2 at d2
            go_wp2_with (at_builtin; refine wpList_pushK rfl _ _ _ rfl 43 i0 Try.underlying24 hi _ 3 24 hz0 hz1 hz2 rfl (by omega) (by omega) _ w4 w.heap.size _ (p + 1) f [x0, x1, x2] _ rfl rfl rfl rfl hacc4 rfl (by omega) (by omega) (Below.refl _ _) ?_; intro v5 w5 hacc5 hb5)
            have h5 := h4.below hb5 hgw
            have hw5 := hw4.and_below hb5 (Nat.le_refl _)
            obtain ⟨A5, c5, hv5⟩ : ∃ A5 c5, v5 = .slice A5 (p + 1 + 1) c5 := by
              rcases hacc5.form with ⟨h0, _⟩ | ⟨b5, c5, h0, _⟩
              · omega
              · exact ⟨_, _, h0⟩
            clear h4 hacc4 hw4 hb5 d0 d1 d2
            have hp19 : p + 1 ≤ 20 := by omega
            go_wp2_with fail
            go_roundw
            case rel => exact ⟨p + 1, _, hp19, hacc5, h5.more (by omega), hw5⟩
            case measure => subst hv5; simp; omega
          · go_wp2_with fail
            go_ret
            exact RetJobs.of hacc4 (by omega) h4 (by omega) hw4
      go_wp2_with fail
      go_ret
      exact RetJobs.of hacc3 (by omega) h3 (by omega) hw3
end
section
open Go.RowKit
set_option maxRecDepth 100000
set_option linter.unusedVariables false

/-- A cursor that has just been made. -/
theorem CurAt.made {w : World} {s : Value} {n : Nat} (h : RB w w.heap.size s n) : CurAt (w.alloc (.cells #[s, .int .i64 0, .int .u64 0] 55)) w.heap.size w.heap.size n 0 :=
  ⟨Nat.le_refl _, s, 0, 0, BK.made w _ _, by omega, by omega, h.below ((Below.refl _ _).alloc (Nat.le_refl _) _)⟩
/-- What a draw of jobs leaves. -/
def RetDrawn (w : World) (e : Ending) (w' : World) : Prop :=
  ∃ (u : Value) (l : List Jb), e = .returned u ∧ l.length ≤ 21 ∧ OJbS w' w.heap.size w'.heap.size u l ∧ Below w.heap.size w w'
theorem drawAreJobs_any (v : Value) (n : Nat) (w : World) (h : RB w w.heap.size v n) (hn : n ≤ 1048576) :
    Calls Try.prog 25 #[v] w (RetDrawn w) := by
  have h0 := CurAt.made h
  obtain ⟨A, c, rfl, hlc, hc⟩ := h
  clear hc
  go_enter Try.func25, Try.ntmps25
  go_wp2_with fail
  refine (jobs_any w.heap.size w.heap.size n 0 _ h0 (by omega) hn).mono ?_; rintro e w1 ⟨u, l, rfl, hl, hj, h1, g1⟩
  have hb : Below w.heap.size w w1 := ((Below.refl _ _).alloc (Nat.le_refl _) _).trans (g1.below (Nat.le_refl _) (by simp))
  have hj2 : OJbS w1 w.heap.size w1.heap.size u l := OK.wide hj (by simp) (Nat.le_refl _)
  clear h0 hj h1 g1
  go_wp2_with fail
  go_ret
  exact ⟨u, l, rfl, hl, hj2, hb⟩
theorem drawFirstStarts_any (v : Value) (n : Nat) (w : World) (h : RB w w.heap.size v n) (hn : n ≤ 1048576) :
    Calls Try.prog 5 #[v] w (RetDrawn w) := by
  have HA := Lib.hid (drawAreJobs_any v n w h hn)
  obtain ⟨A, c, rfl, hlc, hc⟩ := h
  clear hc
  go_enter Try.func5, Try.ntmps5
  go_wp2_with fail
  refine HA.out.mono ?_; rintro e w1 ⟨u, l, rfl, hl, hj, hb⟩
  go_wp2_with fail
  go_ret
  exact ⟨u, l, rfl, hl, hj, hb⟩
/-- Two lists that are the same are told to be the same. -/
theorem kSame_any (a b : Value) (l : List Int) (B : Nat) (w : World) (ha : RI w B a l) (hb : RI w B b l) (hl : l.length ≤ 1048576) :
    Calls Try.prog 10 #[a, b] w (RetV w (.bool true)) := by
  obtain ⟨A1, c1, rfl, hc1, hd1⟩ := ha
  obtain ⟨A2, c2, rfl, hc2, hd2⟩ := hb
  have hl' : (l.length : Int) ≤ 1048576 := by omega
  have H1 := Lib.hid hd1
  have H2 := Lib.hid hd2
  clear hd1 hd2
  go_enter Try.func10, Try.ntmps10
  go_wp2_with fail
  go_loopw [13] (fun i wr => ∃ j : Nat, j ≤ l.length ∧ i = .int .i64 j ∧ Below w.heap.size w wr ∧ (∀ b o, b < B → wr.cell? ⟨b, o, none⟩ = w.cell? ⟨b, o, none⟩)) (fun i _ => l.length - (intOf i).toNat)
  case atStart => exact ⟨0, Nat.zero_le _, rfl, Below.refl _ _, fun _ _ _ => rfl⟩
  case round =>
    obtain ⟨j, hj, rfl, hT, hK⟩ := hrel
    have HT := Lib.hid hT
    have HK := Lib.hid hK
    by_cases hlt : j < l.length
    · obtain ⟨b1, o1, rfl, hb1, q1⟩ := H1.out (by omega)
      obtain ⟨b2, o2, rfl, hb2, q2⟩ := H2.out (by omega)
      have d1 := (hK b1 (o1 + j) hb1).trans (q1 j hlt)
      have d2 := (hK b2 (o2 + j) hb2).trans (q2 j hlt)
      generalize l.getD j 0 = x at d1 d2
      clear q1 q2 hK hT H1 H2
      go_wp2
      go_quiet (fail)
      go_wp2
      go_roundw
      case rel => exact ⟨j + 1, by omega, by go_num, below_drewN HT.out _, fun b o hb => HK.out b o hb⟩
      case measure => simp [intOf]; omega
    · obtain rfl : j = l.length := by omega
      clear hK hT
      go_wp2
      go_ret
      exact ⟨rfl, HT.out⟩
/-- Whether bytes are more than the laws take. -/
theorem big_all (a b : Value) (n m B : Nat) (w : World) (ha : RB w B a n) (hb : RB w B b m) :
    Calls Try.prog 4 #[a, b] w (RetV w (.bool (decide ((1048576 : Int) < n) || decide ((1048576 : Int) - n < m)))) := by
  obtain ⟨A1, c1, rfl, hc1, hd1⟩ := ha
  obtain ⟨A2, c2, rfl, hc2, hd2⟩ := hb
  clear hd1 hd2
  have h1 : (n : Int) ≤ 9223372036854775807 := by unfold maxLen at hc1; omega
  have h2 : (m : Int) ≤ 9223372036854775807 := by unfold maxLen at hc2; omega
  by_cases hn : (1048576 : Int) < n
  · rw [decide_eq_true hn, Bool.true_or]
    go_enter Try.func4, Try.ntmps4
    go_wp2_with fail
    go_ret
    exact ⟨rfl, Below.refl _ _⟩
  · rw [decide_eq_false hn, Bool.false_or]
    have hn2 : (n : Int) ≤ 1048576 := by omega
    go_enter Try.func4, Try.ntmps4
    go_wp2_with fail
    go_ret
    exact ⟨rfl, Below.refl _ _⟩
/-- Bytes within the bounds. -/
theorem big_any (a b : Value) (n m B : Nat) (w : World) (ha : RB w B a n) (hb : RB w B b m) (hn : n + m ≤ 1048576) :
    Calls Try.prog 4 #[a, b] w (RetV w (.bool false)) := by
  have h := big_all a b n m B w ha hb
  rw [decide_eq_false (by omega), decide_eq_false (by omega)] at h
  exact h
/-- The lengths of jobs, added up. -/
def sumJ (l : List Jb) : Int := l.foldl (fun n x => n + x.l) 0
end
section
open Go.RowKit
set_option maxRecDepth 100000
set_option linter.unusedVariables false

/-- What a draw of jobs with a number leaves. -/
def RetDrawnI (lo hi : Int) (w : World) (e : Ending) (w' : World) : Prop :=
  ∃ (u : Value) (l : List Jb) (t : Int), e = .returned (.tuple #[u, .int .i64 t]) ∧ l.length ≤ 21 ∧ lo ≤ t ∧ t ≤ hi ∧ OJbS w' w.heap.size w'.heap.size u l ∧ Below w.heap.size w w'
theorem mem_bounds {l : List Int} {lo hi : Int} (h : l.all (fun x => decide (lo ≤ x ∧ x ≤ hi)) = true) {j : Nat} (hj : j < l.length) : lo ≤ l.getD j 0 ∧ l.getD j 0 ≤ hi := by
  rw [List.all_eq_true] at h
  have := h (l.getD j 0) (by rw [List.getD_eq_getElem?_getD, List.getElem?_eq_getElem hj]; exact List.getElem_mem hj)
  simpa using this
set_option maxHeartbeats 1000000 in
theorem drawAgedStarts_any (v : Value) (n : Nat) (w : World) (h : RB w w.heap.size v n) (hn : n ≤ 1048576) :
    Calls Try.prog 13 #[v] w (RetDrawnI (0) 101 w) := by
  have h0 := CurAt.made h
  obtain ⟨A, c, rfl, hlc, hc⟩ := h
  clear hc
  go_enter Try.func13, Try.ntmps13
  go_wp2_with fail
  refine (one_any w.heap.size w.heap.size n 0 10 _ h0 (by omega) hn (by omega) (by omega)).mono ?_; rintro e w1 ⟨b, rfl, h1, g1⟩
  have hb1 : Below w.heap.size w w1 := ((Below.refl _ _).alloc (Nat.le_refl _) _).trans (g1.below (Nat.le_refl _) (by simp))
  have hs1 := hb1.size
  have hl1 := h1.lt
  clear h0 g1
  cases b
  · go_wp2_with fail
    refine (jobs_any w.heap.size w.heap.size n _ _ h1 (by omega) hn).mono ?_; rintro e w2 ⟨u, l, rfl, hl, hj, h2, g2⟩
    have hl2 := h2.lt
    have hs2 := g2.size
    have hb2 := hb1.trans (g2.below (Nat.le_refl _) (by omega))
    clear h1 g2 hb1
    go_wp2_with fail
    refine (pick_any w.heap.size w.heap.size n _ 8 _ h2 (by omega) hn (by omega) (by omega)).mono ?_; rintro e w3 ⟨t, rfl, t0, t1, h3, g3⟩
    have hb3 := hb2.trans (g3.below (Nat.le_refl _) (by omega))
    have hs3 := g3.size
    have hj3 : OJbS w3 w.heap.size w3.heap.size u l := OK.wide (OK.far hj g3 (.inr (by omega))) (by omega) hs3
    clear h2 g3 hb2 hj h3
    go_wp2_with fail
    go_ret2
    exact ⟨u, l, _, rfl, hl, by omega, by omega, hj3, hb3⟩
  · go_wp2_with fail
    refine (jobs_any w.heap.size w.heap.size n _ _ h1 (by omega) hn).mono ?_; rintro e w2 ⟨u, l, rfl, hl, hj, h2, g2⟩
    have hl2 := h2.lt
    have hs2 := g2.size
    have hb2 := hb1.trans (g2.below (Nat.le_refl _) (by omega))
    clear h1 g2 hb1
    go_wp2_with fail
    refine (among_any w.heap.size w.heap.size n _ _ [0, 1, 100, 101] _ (h2.below ((Below.refl _ _).alloc (Nat.le_refl _) _) (by omega)) (by omega) hn _ _ (litN [0, 1, 100, 101] 4 _ rfl (by omega) rfl (by simp)) (by omega) (by simp) (by simp)).mono ?_; rintro e w3 ⟨jj, hjj, rfl, h3, g3⟩
    have ht := mem_bounds (l := [(0 : Int), 1, 100, 101]) (lo := 0) (hi := 101) (by decide) hjj
    generalize List.getD [(0 : Int), 1, 100, 101] jj 0 = t at ht
    obtain ⟨t0, t1⟩ := ht
    have gA : Wr w.heap.size (w.heap.size + 1) w2 w3 := (Wr.of_below ((Below.refl _ _).alloc (Nat.le_refl _) _) _ _).trans g3
    have hb3 := hb2.trans (gA.below (Nat.le_refl _) (by omega))
    have hs3 := gA.size
    have hj3 : OJbS w3 w.heap.size w3.heap.size u l := OK.wide (OK.far hj gA (.inr (by omega))) (by omega) hs3
    clear h2 g3 gA hb2 hj h3 hjj
    go_wp2_with fail
    go_ret2
    exact ⟨u, l, _, rfl, hl, by omega, by omega, hj3, hb3⟩
end
section
open Go.RowKit
set_option maxRecDepth 100000
set_option linter.unusedVariables false

def RetE8 (g B n k : Nat) (w : World) (e : Ending) (w' : World) : Prop :=
  ∃ (v : Value) (s : List Int), e = .returned v ∧ s.length ≤ 8 ∧ RI w' w'.heap.size v s ∧ CurAt w' g B n k ∧ Wr g (g + 1) w w'
set_option maxHeartbeats 4000000 in
theorem eight_any (g B n k : Nat) (most : Int) (w : World) (h : CurAt w g B n k) (hk : k ≤ 100000000) (hn : n ≤ 1048576) (m1 : 1 ≤ most) (m2 : most ≤ 100) :
    Calls Try.prog 39 #[.pointer (some ⟨g, 0, none⟩), .int .i64 most] w (RetE8 g B n (k + 30) w) := by
  obtain ⟨i0, hi, hz0, hz1, hz2⟩ := info_parts int_info
  have hgw := h.lt
  go_enter Try.func39, Try.ntmps39
  go_wp2_with fail
  go_loopw [5, 6] (fun u i wr => ∃ (j : Nat) (f : List Int), j ≤ 8 ∧ f.length = j ∧ i = .int .i64 j ∧ Acc 3 wr w.heap.size u f ∧ CurAt wr g B n (k + 2 * j) ∧ Wr g (g + 1) w wr) (fun _ i _ => 8 - (intOf i).toNat)
  case atStart => exact ⟨0, [], by omega, rfl, rfl, Acc.nil _ _ _, h, Wr.refl _ _ _⟩
  case round =>
    obtain ⟨j, f, hj, hfl, rfl, ha, hcur, hw⟩ := hrel
    have hgr := hcur.lt
    have hs := hw.size
    have HFL := Lib.hid hfl
    by_cases hlt : j < 8
    · have hjI : (j : Int) < 8 := by omega
      have hdl : f.length < 1000000000 := by omega
      clear hfl
      go_wp2_with fail
      refine (pick_any g B n _ most _ hcur (by omega) hn m1 (by omega)).mono ?_; rintro e w3 ⟨x, rfl, x0, x1, h3, g3⟩
      have a3 : Acc 3 w3 w.heap.size _ f := (AccK.apart (k := 1) (show AccK 1 _ _ _ _ f.length f from ⟨by omega, ha⟩) g3 (by omega)).2
      have hw3 := hw.trans g3
      have hs3 := hw3.size
      clear ha hcur g3 hw
      go_wp2_with (at_builtin; refine wpList_push rfl _ _ _ rfl 3 i0 Try.underlying26 hi hz0 hz1 hz2 _ w3 w.heap.size _ f _ rfl rfl a3 rfl hdl hs3 (Below.refl _ _) ?_; intro v5 w5 a5 hb5)
      have h5 := h3.below hb5 hgw
      have hw5 := hw3.and_below hb5 (Nat.le_refl _)
      clear h3 a3 hw3 hb5
      go_wp2_with fail
      go_roundw
      case rel => exact ⟨j + 1, f ++ [1 + x], by omega, by rw [List.length_append, HFL.out]; rfl, by go_num, a5, h5.more (by omega), hw5⟩
      case measure => simp [intOf]; omega
    · obtain rfl : j = 8 := by omega
      rcases AccK.form (k := 1) (show AccK 1 _ _ _ _ f.length f from ⟨by omega, ha⟩) with ⟨hn0, _⟩ | ⟨b, cc, rfl, hlb, hbw, hmc, hcm, hcell, hfz⟩
      · omega
      have hA : AccK 1 3 wr w.heap.size (.slice (some ⟨b, 0, none⟩) 8 cc) 8 f := ⟨by omega, by have := ha; unfold Acc at this; rwa [hfl] at this⟩
      rw [hfl] at hmc ⊢
      clear ha hcell hfz hfl
      go_wp2_with fail
      refine (pick_any g B n _ 14 _ hcur (by omega) hn (by omega) (by omega)).mono ?_; rintro e w3 ⟨x, rfl, x0, x1, h3, g3⟩
      have a3 := AccK.apart hA g3 (by omega)
      have hw3 := hw.trans g3
      have hs3 := hw3.size
      have hs4 := g3.size
      clear hA hcur g3 hw
      have hri : ∀ (W : World) (f' : List Int), AccK 1 3 W w.heap.size (.slice (some ⟨b, 0, none⟩) 8 cc) 8 f' → RI W W.heap.size (.slice (some ⟨b, 0, none⟩) 8 cc) f' := by
        intro W f' h9
        have h8 : f'.length = 8 := by have := h9.1; omega
        have h7 : Acc 3 W w.heap.size (.slice (some ⟨b, 0, none⟩) 8 cc) f' := by
          unfold Acc
          rw [h8]
          exact h9.2
        exact (Acc.oi h7).ri
      have HRI := Lib.hid hri
      clear hri
      by_cases e0 : x = 0
      · subst e0
        go_wp2_with fail
        refine (pick_any g B n _ 8 _ h3 (by omega) hn (by omega) (by omega)).mono ?_; rintro e w5 ⟨i, rfl, ia, ib, h5, g5⟩
        obtain ⟨i, rfl⟩ := Int.eq_ofNat_of_zero_le ia
        have a5 := AccK.apart a3 g5 (by omega)
        have hw5 := hw3.trans g5
        have hs5 := hw5.size
        have hs6 := g5.size
        clear a3 h3 g5 hw3
        go_wp2_with fail
        refine (among_any g B n _ _ [0, 20, 21, 40, 41] _ (h5.below ((Below.refl _ _).alloc (Nat.le_refl _) _) (by omega)) (by omega) hn _ _ (litN [0, 20, 21, 40, 41] 5 _ rfl (by omega) rfl (by simp)) (by omega) (by simp) (by simp)).mono ?_; rintro e w6 ⟨jj, hjj, rfl, h6, g6⟩
        have gA : Wr g (g + 1) w5 w6 := (Wr.of_below ((Below.refl _ _).alloc (Nat.le_refl _) _) g (g + 1)).trans g6
        have a6 := AccK.apart a5 gA (by omega)
        have hw6 := hw5.trans gA
        have hs7 := gA.size
        generalize List.getD ([0, 20, 21, 40, 41] : List Int) jj 0 = y
        have c6 := AccK.cell a6 i (by omega)
        have f6 := World.ownsRow.frozenAt a6.2 i
        have hi8 : (i : Int) < 8 := by omega
        have HF : Hid (RetE8 g B n (k + 30) w (.returned (.slice (some ⟨b, 0, none⟩) 8 cc)) (w6.setCell ⟨b, i, none⟩ (.int .i64 y))) := by
          refine ⟨_, f.set i y, rfl, by rw [List.length_set, HFL.out]; omega, HRI.out _ _ (AccK.put a6 i y), ?_, ?_⟩
          · exact (h6.below ((Below.refl w.heap.size w6).setCell (p := ⟨b, i, none⟩) hlb _) hgw).more (by omega)
          · exact hw6.and_below ((Below.refl w.heap.size w6).setCell (p := ⟨b, i, none⟩) hlb _) (Nat.le_refl _)
        clear a5 a6 h5 h6 g6 gA hw5 hw6
        go_wp2_with fail
        go_ret
        exact HF.out
      · by_cases e1 : x = 1
        · subst e1
          have r7 := (HRI.out _ _ a3).front 7 (by rw [HFL.out]; omega)
          have HF : Hid (RetE8 g B n (k + 30) w (.returned (.slice (some ⟨b, 0, none⟩) 7 cc)) w3) := ⟨_, f.take 7, rfl, by rw [List.length_take]; omega, r7, h3.more (by omega), hw3⟩
          have hc7 : (7 : Int) ≤ (cc : Int) := by omega
          clear a3 h3 hw3 r7
          go_wp2_with fail
          go_ret
          exact HF.out
        · have HF : Hid (RetE8 g B n (k + 30) w (.returned (.slice (some ⟨b, 0, none⟩) 8 cc)) w3) := ⟨_, f, rfl, by rw [HFL.out]; omega, HRI.out _ _ a3, h3.more (by omega), hw3⟩
          clear a3 h3 hw3
          go_wp2_with fail
          go_ret
          exact HF.out
def RetTg (w : World) (e : Ending) (w' : World) : Prop :=
  ∃ (u v : Value) (l : List Jb) (s : List Int), e = .returned (.tuple #[u, v]) ∧ (l.length ≤ 21 ∧ s.length ≤ 8) ∧ RJbS w' w'.heap.size u l ∧ RI w' w'.heap.size v s ∧ Below w.heap.size w w'
set_option maxHeartbeats 1000000 in
theorem drawTurnStarts_any (v : Value) (n : Nat) (w : World) (h : RB w w.heap.size v n) (hn : n ≤ 1048576) :
    Calls Try.prog 16 #[v] w (RetTg w) := by
  have h0 := CurAt.made h
  obtain ⟨A, c, rfl, hlc, hc⟩ := h
  clear hc
  go_enter Try.func16, Try.ntmps16
  go_wp2_with fail
  refine (jobs_any w.heap.size w.heap.size n 0 _ h0 (by omega) hn).mono ?_; rintro e w1 ⟨u, l, rfl, hl, o1, h1, g1⟩
  have z1 := g1.size
  simp only [World.size_alloc] at z1 o1
  clear h0
  go_wp2_with fail
  refine (eight_any w.heap.size w.heap.size n _ 3 _ h1 (by omega) hn (by omega) (by omega)).mono ?_; rintro e w2 ⟨x, s, rfl, hs, r2, h2, g2⟩
  have o2 := OK.far o1 g2 (.inr (by omega))
  have z2 := g2.size
  have hb : Below w.heap.size w w2 := ((Below.refl _ _).alloc (Nat.le_refl _) _).trans ((g1.trans g2).below (Nat.le_refl _) (by simp))
  have q2 : RJbS w2 w2.heap.size u l := RK.more (OK.rk o2) z2
  clear h1 g1 o1 h2 g2 o2
  go_wp2_with fail
  go_ret2
  exact ⟨u, x, l, s, rfl, ⟨hl, hs⟩, q2, r2, hb⟩
set_option maxHeartbeats 1000000 in
theorem drawDeficitStarts_any (v : Value) (n : Nat) (w : World) (h : RB w w.heap.size v n) (hn : n ≤ 1048576) :
    Calls Try.prog 19 #[v] w (RetTg w) := by
  have h0 := CurAt.made h
  obtain ⟨A, c, rfl, hlc, hc⟩ := h
  clear hc
  go_enter Try.func19, Try.ntmps19
  go_wp2_with fail
  refine (jobs_any w.heap.size w.heap.size n 0 _ h0 (by omega) hn).mono ?_; rintro e w1 ⟨u, l, rfl, hl, o1, h1, g1⟩
  have z1 := g1.size
  simp only [World.size_alloc] at z1 o1
  clear h0
  go_wp2_with fail
  refine (eight_any w.heap.size w.heap.size n _ 8 _ h1 (by omega) hn (by omega) (by omega)).mono ?_; rintro e w2 ⟨x, s, rfl, hs, r2, h2, g2⟩
  have o2 := OK.far o1 g2 (.inr (by omega))
  have z2 := g2.size
  have hb : Below w.heap.size w w2 := ((Below.refl _ _).alloc (Nat.le_refl _) _).trans ((g1.trans g2).below (Nat.le_refl _) (by simp))
  have q2 : RJbS w2 w2.heap.size u l := RK.more (OK.rk o2) z2
  clear h1 g1 o1 h2 g2 o2
  go_wp2_with fail
  go_ret2
  exact ⟨u, x, l, s, rfl, ⟨hl, hs⟩, q2, r2, hb⟩
end
end Go.Proofs.Yteoggoopfjkdkaa
