/-
  Jobs as the laws' inputs are drawn.
-/
import Derived.Test.YtdlmacoblmnajaaCur4
import Derived.Test.YtdlmacoblmnajaaSJob
import Derived.Test.YtdlmacoblmnajaaAcc
namespace Go.Proofs.Ytdlmacoblmnajaa
open Go.RowKit
set_option maxRecDepth 100000
set_option linter.unusedVariables false

theorem AccK.apart {k : Nat} {E : TypeId} {w w' : World} {lo a b n : Nat} {v : Value} {l : List Int} (h : AccK k E w lo v n l) (hg : Wr a b w w') (hb : b ≤ lo) : AccK k E w' lo v n l := by
  refine ⟨h.1, h.2.1, ?_⟩
  rcases h.2.2 with ⟨hv, hn⟩ | ⟨g, c, cur, hv, hlo, hh, r⟩
  · exact .inl ⟨hv, hn⟩
  · exact .inr ⟨g, c, cur, hv, hlo, by rw [hg.block g (Array.getElem?_eq_some_iff.1 hh).1 (.inr (by omega))]; exact hh, r⟩
theorem CurAt.below {w w' : World} {g B n k lo : Nat} (h : CurAt w g B n k) (hb : Below lo w w') (hg : g < lo) : CurAt w' g B n k := by
  obtain ⟨hBg, s, x, sd, bk, ha, hak, hrb⟩ := h
  exact ⟨hBg, s, x, sd, ⟨Nat.lt_of_lt_of_le bk.1 hb.size, (hb.block g hg).trans bk.2⟩, ha, hak, hrb.below (hb.mono (by omega))⟩
theorem CurAt.lt {w : World} {g B n k : Nat} (h : CurAt w g B n k) : g < w.heap.size := by
  obtain ⟨_, _, _, _, bk, _⟩ := h
  exact bk.1
theorem Wr.and_below {a b lo : Nat} {w0 w w' : World} (h : Wr a b w0 w) (hb : Below lo w w') (hlo : w0.heap.size ≤ lo) : Wr a b w0 w' :=
  ⟨hb.os.trans h.os, hb.tape.trans h.tape, hb.output.trans h.output, Nat.le_trans h.size hb.size, fun k hk hn => (hb.block k (by omega)).trans (h.block k hk hn)⟩
/-- A literal of ints is owned. -/
theorem litN {E : TypeId} {w : World} (l : List Int) (m : Nat) (cs : Array Value) (hm : m = l.length) (hm0 : 0 < m) (hcs : cs.toList = ics l) (hl : l.length ≤ 100) : OI E (w.alloc (.cells cs E)) w.heap.size (w.alloc (.cells cs E)).heap.size (.slice (some ⟨w.heap.size, 0, none⟩) m m) l := by
  subst hm
  have hs : cs.size = l.length := by
    rw [← Array.length_toList, hcs]
    simp [ics]
  have h : (w.alloc (.cells cs E)).ownsRow w.heap.size E 1 (.slice (some ⟨w.heap.size, 0, none⟩) l.length l.length) l.length (ics l) :=
    ⟨by simp [ics], .inr ⟨_, l.length, cs, rfl, Nat.le_refl _, heap_alloc_new w _, Nat.le_refl _, by unfold maxLen; omega, by omega, by rw [hcs, Nat.mul_one]; exact List.take_of_length_le (by simp [ics])⟩⟩
  exact Acc.oi h
/-- A flat list is that of a list of jobs. -/
theorem unflatJb (n : Nat) (f : List Int) (h : f.length = n * 3) : ∃ l : List Jb, l.length = n ∧ flatJb l = f := by
  induction n generalizing f with
  | zero => exact ⟨[], rfl, by rw [List.eq_nil_of_length_eq_zero (l := f) (by omega)]; rfl⟩
  | succ n ih =>
    match f, h with
    | a :: b :: c :: r, h =>
      obtain ⟨l, hl, hf⟩ := ih r (by simp at h; omega)
      exact ⟨⟨a, b, c⟩ :: l, by simp [hl], by show [a, b, c] ++ flatJb l = _; rw [hf]; rfl⟩
    | [], h => simp at h
    | [_], h => simp at h; omega
    | [_, _], h => simp at h; omega
def RetJobs (g B n k : Nat) (w : World) (e : Ending) (w' : World) : Prop :=
  ∃ (u : Value) (l : List Jb), e = .returned u ∧ l.length ≤ 21 ∧ OJbS w' w.heap.size w'.heap.size u l ∧ CurAt w' g B n k ∧ Wr g (g + 1) w w'
/-- What is gathered, as a slice. -/
theorem AccK.form {k : Nat} {E : TypeId} {w : World} {lo n : Nat} {v : Value} {l : List Int} (h : AccK k E w lo v n l) : (n = 0 ∧ v = .slice none 0 0) ∨ ∃ b c, v = .slice (some ⟨b, 0, none⟩) n c ∧ lo ≤ b ∧ b < w.heap.size ∧ n ≤ c ∧ c ≤ maxLen ∧ (∀ j, j < n * k → w.cell? ⟨b, j, none⟩ = some (.int .i64 (l.getD j 0))) ∧ (∀ j, w.frozen? ⟨b, j, none⟩ = false) := by
  have h0 := h
  rcases h.2.2 with ⟨hv, hn⟩ | ⟨g, c, cur, rfl, hlo, hh, hc, hcm, r1, r2⟩
  · exact .inl ⟨hn, hv⟩
  · refine .inr ⟨g, c, rfl, hlo, (Array.getElem?_eq_some_iff.1 hh).1, hc, hcm, fun j hj => ?_, fun j => World.ownsRow.frozenAt h0.2 j⟩
    rw [World.ownsRow.cellAt h0.2 j hj, ics_get l j (by have := h0.1; omega)]
theorem AccK.cell {k : Nat} {E : TypeId} {w : World} {lo n b c : Nat} {l : List Int} (h : AccK k E w lo (.slice (some ⟨b, 0, none⟩) n c) n l) (j : Nat) (hj : j < n * k) : w.cell? ⟨b, j, none⟩ = some (.int .i64 (l.getD j 0)) := by
  rw [World.ownsRow.cellAt h.2 j hj, ics_get l j (by have := h.1; omega)]
theorem AccK.put {k : Nat} {E : TypeId} {w : World} {lo n b c : Nat} {l : List Int} (h : AccK k E w lo (.slice (some ⟨b, 0, none⟩) n c) n l) (j : Nat) (y : Int) : AccK k E (w.setCell ⟨b, j, none⟩ (.int .i64 y)) lo (.slice (some ⟨b, 0, none⟩) n c) n (l.set j y) := by
  refine ⟨by rw [List.length_set]; exact h.1, ?_⟩
  have := World.ownsRow.stored h.2 j (.int .i64 y)
  have e : ics (l.set j y) = (ics l).set j (.int .i64 y) := by simp [ics, List.map_set]
  rw [e]
  exact this.1
theorem RetJobs.of {g B n k k' m : Nat} {w w' : World} {u : Value} {f : List Int} (h : AccK 3 36 w' w.heap.size u m f) (hm : m ≤ 21) (hc : CurAt w' g B n k') (hk : k' ≤ k) (hw : Wr g (g + 1) w w') : RetJobs g B n k w (.returned u) w' := by
  obtain ⟨l, rfl, rfl⟩ := unflatJb m f h.1
  exact ⟨u, l, rfl, hm, h.ok, hc.more hk, hw⟩

set_option maxHeartbeats 2000000 in
theorem jobs_any (g B n k : Nat) (w : World) (h : CurAt w g B n k) (hk : k ≤ 100000000) (hn : n ≤ 1048576) :
    Calls Try.prog 45 #[.pointer (some ⟨g, 0, none⟩)] w (RetJobs g B n (k + 200) w) := by
  obtain ⟨i0, hi, hz0, hz1, hz2⟩ := info_parts job_info
  have hgw := h.lt
  go_enter Try.func45, Try.ntmps45
  go_wp2_with fail
  refine (pick_any g B n k 3 w h (by omega) hn (by omega) (by omega)).mono ?_; rintro e w1 ⟨t, rfl, t0, t1, h1, g1⟩
  go_wp2_with fail
  refine (pick_any g B n (k + 2) 9 w1 h1 (by omega) hn (by omega) (by omega)).mono ?_; rintro e w2 ⟨q, rfl, q0, q1, h2, g2⟩
  have g02 := g1.trans g2
  obtain ⟨q, rfl⟩ := Int.eq_ofNat_of_zero_le q0
  clear h h1 g1 g2
  go_wp2_with fail
  go_loopw [3, 4, 5] (fun u i j wr => ∃ (m r : Nat) (x : Int) (f : List Int), m + r ≤ 8 ∧ j = .int .i64 r ∧ i = .int .i64 x ∧ 0 ≤ x ∧ x ≤ 2 + 15 * m ∧ AccK 3 36 wr w.heap.size u m f ∧ CurAt wr g B n (k + 4 + 6 * m) ∧ Wr g (g + 1) w wr) (fun _ _ j _ => (intOf j).toNat)
  case atStart => exact ⟨0, q, t, [], by omega, rfl, rfl, t0, by omega, AccK.nil _ _ _ _, h2, g02⟩
  case round =>
    obtain ⟨m, r, x, f, hmr, rfl, rfl, x0, x1, hacc, hcur, hwr⟩ := hrel
    have hgr := hcur.lt
    have hsz := hwr.size
    by_cases hr : 0 < r
    · have hr' : (0 : Int) < (r : Int) := by omega
      have hx' : x ≤ 122 := by omega
      have hm8 : m ≤ 7 := by omega
      go_wp2_with fail
      refine (pick_any g B n _ 8 _ hcur (by omega) hn (by omega) (by omega)).mono ?_; rintro e w3 ⟨c1, rfl, c10, c11, h3, g3⟩
      go_wp2_with fail
      refine (pick_any g B n _ 6 _ h3 (by omega) hn (by omega) (by omega)).mono ?_; rintro e w4 ⟨l1, rfl, l10, l11, h4, g4⟩
      have hacc4 := AccK.apart hacc (g3.trans g4) (by omega)
      have hw4 := hwr.trans (g3.trans g4)
      have hs4 := hw4.size
      clear hacc hcur h3 g3 g4 hwr
      go_wp2_with (at_builtin; refine wpList_pushK rfl _ _ _ rfl 36 i0 Try.underlying24 hi _ 3 24 hz0 hz1 hz2 rfl (by omega) (by omega) _ w4 w.heap.size _ m f [x, c1, 1 + l1] _ rfl rfl rfl rfl hacc4 rfl (by omega) (by omega) (Below.refl _ _) ?_; intro v5 w5 hacc5 hb5)
      have h5 := h4.below hb5 hgw
      have hw5 := hw4.and_below hb5 (Nat.le_refl _)
      have hs5 := hw5.size
      clear h4 hacc4 hw4 hb5
      go_wp2_with fail
      refine (among_any g B n _ _ [0, 0, 1, 2, 4, 15] _ (h5.below ((Below.refl _ _).alloc (Nat.le_refl _) _) (by omega)) (by omega) hn _ _ (litN [0, 0, 1, 2, 4, 15] 6 _ rfl (by omega) rfl (by simp)) (by omega) (by simp) (by simp)).mono ?_; rintro e w6 ⟨jj, hjj, rfl, h6, g6⟩
      have y0 : 0 ≤ List.getD [(0 : Int), 0, 1, 2, 4, 15] jj 0 ∧ List.getD [(0 : Int), 0, 1, 2, 4, 15] jj 0 ≤ 15 := by
        match jj, hjj with
        | 0, _ => decide
        | 1, _ => decide
        | 2, _ => decide
        | 3, _ => decide
        | 4, _ => decide
        | 5, _ => decide
      generalize List.getD [(0 : Int), 0, 1, 2, 4, 15] jj 0 = y at y0
      obtain ⟨y0, y1⟩ := y0
      have gA : Wr g (g + 1) w5 w6 := (Wr.of_below ((Below.refl _ _).alloc (Nat.le_refl _) _) g (g + 1)).trans g6
      have hacc6 := AccK.apart hacc5 gA (by omega)
      have hw6 := hw5.trans gA
      have hs6 := hw6.size
      clear h5 hacc5 hw5 g6 gA hjj
      go_wp2_with fail
      go_roundw
      case rel => first | exact ⟨m + 1, r - 1, x + y, f ++ [x, c1, 1 + l1], by omega, by go_num, by go_num, by omega, by omega, hacc6, h6.more (by omega), hw6⟩ | exact ⟨m + 1, r - 1, x + y, f ++ [x, c1, 1 + l1], by omega, by omega, by omega, by omega, by omega, hacc6, h6.more (by omega), hw6⟩
      case measure => simp [intOf]; omega
    · obtain rfl : r = 0 := by omega
      rcases hacc.form with ⟨rfl, rfl⟩ | ⟨b, c, rfl, hlb, hbw, hmc, hcm, hcell, hfz⟩
      · go_wp2_with fail
        go_ret
        exact RetJobs.of hacc (by omega) hcur (by omega) hwr
      by_cases hm0 : m = 0
      · subst hm0
        clear hcell hfz
        go_wp2_with fail
        go_ret
        exact RetJobs.of hacc (by omega) hcur (by omega) hwr
      have hm1 : (0 : Int) < (m : Int) := by omega
      have hm9 : (m : Int) ≤ 8 := by omega
      have hm8 : m ≤ 8 := by omega
      have HC := Lib.hid hcell
      have HZ := Lib.hid hfz
      clear hcell hfz hmr
      go_wp2_with fail
      refine (pick_any g B n _ 16 _ hcur (by omega) hn (by omega) (by omega)).mono ?_; rintro e w3 ⟨s, rfl, s0, s1, h3, g3⟩
      have hw3 := hwr.trans g3
      have hs3 := hw3.size
      have hacc3 := AccK.apart hacc g3 (by omega)
      clear hacc hcur hwr g3 HC HZ
      obtain ⟨p, rfl⟩ : ∃ p, m = p + 1 := ⟨m - 1, by omega⟩
      by_cases e0 : s = 0
      · subst e0
        go_wp2_with fail
        refine (among_any g B n _ _ [0, 20, 21, 4611686018427387904] _ (h3.below ((Below.refl _ _).alloc (Nat.le_refl _) _) (by omega)) (by omega) hn _ _ (litN [0, 20, 21, 4611686018427387904] 4 _ rfl (by omega) rfl (by simp)) (by omega) (by simp) (by simp)).mono ?_; rintro e w6 ⟨jj, hjj, rfl, h6, g6⟩
        generalize List.getD [(0 : Int), 20, 21, 4611686018427387904] jj 0 = y
        have gA : Wr g (g + 1) w3 w6 := (Wr.of_below ((Below.refl _ _).alloc (Nat.le_refl _) _) g (g + 1)).trans g6
        have hacc6 := AccK.apart hacc3 gA (by omega)
        have hw6 := hw3.trans gA
        have hs6 := hw6.size
        clear h3 hacc3 hw3 g6 gA hjj
        have hz := (World.ownsRow.frozenAt hacc6.2 (2))
        have hd := AccK.cell hacc6 (2) (by omega)
        generalize List.getD f (2) 0 = fy at hd
        go_wp2_with fail
        go_ret
        exact RetJobs.of (AccK.put hacc6 (2) y) (by omega) (h6.below (lo := w.heap.size) ((Below.refl _ _).setCell (p := ⟨b, 2, none⟩) hlb _) hgw) (by omega) (hw6.and_below ((Below.refl w.heap.size w6).setCell (p := ⟨b, 2, none⟩) hlb _) (Nat.le_refl _))
      by_cases e1 : s = 1
      · subst e1
        go_wp2_with fail
        refine (among_any g B n _ _ [-1, 8] _ (h3.below ((Below.refl _ _).alloc (Nat.le_refl _) _) (by omega)) (by omega) hn _ _ (litN [-1, 8] 2 _ rfl (by omega) rfl (by simp)) (by omega) (by simp) (by simp)).mono ?_; rintro e w6 ⟨jj, hjj, rfl, h6, g6⟩
        generalize List.getD [(-1 : Int), 8] jj 0 = y
        have gA : Wr g (g + 1) w3 w6 := (Wr.of_below ((Below.refl _ _).alloc (Nat.le_refl _) _) g (g + 1)).trans g6
        have hacc6 := AccK.apart hacc3 gA (by omega)
        have hw6 := hw3.trans gA
        have hs6 := hw6.size
        clear h3 hacc3 hw3 g6 gA hjj
        have hz := (World.ownsRow.frozenAt hacc6.2 (p * 3 + 1))
        have hd := AccK.cell hacc6 (p * 3 + 1) (by omega)
        generalize List.getD f (p * 3 + 1) 0 = fy at hd
        go_wp2_with fail
        go_ret
        exact RetJobs.of (AccK.put hacc6 (p * 3 + 1) y) (by omega) (h6.below (lo := w.heap.size) ((Below.refl _ _).setCell (p := ⟨b, p * 3 + 1, none⟩) hlb _) hgw) (by omega) (hw6.and_below ((Below.refl w.heap.size w6).setCell (p := ⟨b, p * 3 + 1, none⟩) hlb _) (Nat.le_refl _))
      by_cases e2 : s = 2
      · subst e2
        go_wp2_with fail
        refine (among_any g B n _ _ [-1, 1000, 1001] _ (h3.below ((Below.refl _ _).alloc (Nat.le_refl _) _) (by omega)) (by omega) hn _ _ (litN [-1, 1000, 1001] 3 _ rfl (by omega) rfl (by simp)) (by omega) (by simp) (by simp)).mono ?_; rintro e w6 ⟨jj, hjj, rfl, h6, g6⟩
        generalize List.getD [(-1 : Int), 1000, 1001] jj 0 = y
        have gA : Wr g (g + 1) w3 w6 := (Wr.of_below ((Below.refl _ _).alloc (Nat.le_refl _) _) g (g + 1)).trans g6
        have hacc6 := AccK.apart hacc3 gA (by omega)
        have hw6 := hw3.trans gA
        have hs6 := hw6.size
        clear h3 hacc3 hw3 g6 gA hjj
        have hz := (World.ownsRow.frozenAt hacc6.2 (0))
        have hd := AccK.cell hacc6 (0) (by omega)
        generalize List.getD f (0) 0 = fy at hd
        go_wp2_with fail
        go_ret
        exact RetJobs.of (AccK.put hacc6 (0) y) (by omega) (h6.below (lo := w.heap.size) ((Below.refl _ _).setCell (p := ⟨b, 0, none⟩) hlb _) hgw) (by omega) (hw6.and_below ((Below.refl w.heap.size w6).setCell (p := ⟨b, 0, none⟩) hlb _) (Nat.le_refl _))
      by_cases e3 : s = 3
      · subst e3
        go_wp2_with fail
        go_loopw [3] (fun u wr => ∃ (p : Nat) (f : List Int), p ≤ 20 ∧ AccK 3 36 wr w.heap.size u (p + 1) f ∧ CurAt wr g B n (k + 60 + 2 * p) ∧ Wr g (g + 1) w wr) (fun u _ => 21 - (match u with | .slice _ n _ => n | _ => 0))
        case atStart => exact ⟨p, f, by omega, hacc3, h3.more (by omega), hw3⟩
        case round =>
          obtain ⟨p, f, hp, hacc, hcur, hwr⟩ := hrel
          have hgr := hcur.lt
          have hsz := hwr.size
          have hp' : (p : Int) ≤ 20 := by omega
          rcases hacc.form with ⟨h0, _⟩ | ⟨b, c, rfl, hlb, hbw, hmc, hcm, hcell, hfz⟩
          · omega
          have HC := Lib.hid hcell
          clear hcell hfz
          go_wp2_with fail
          refine (pick_any g B n _ 2 _ hcur (by omega) hn (by omega) (by omega)).mono ?_; rintro e w4 ⟨z, rfl, z0, z1, h4, g4⟩
          have hw4 := hwr.trans g4
          have hs4 := hw4.size
          have hacc4 := AccK.apart hacc g4 (by omega)
          clear hacc hcur hwr g4 HC
          by_cases hlt : (p : Int) + 1 < 20 + z
          · rcases hacc4.form with ⟨h0, _⟩ | ⟨b', c', hbc, _, _, _, _, hcell, hfz⟩
            · omega
            injection hbc with q1 q2 q3
            injection q1 with q1
            injection q1 with q1
            subst q1; subst q3
            have d0 := hcell (p * 3) (by omega)
            have d1 := hcell (p * 3 + 1) (by omega)
            have d2 := hcell (p * 3 + 2) (by omega)
            clear hcell hfz q2
            generalize List.getD f (p * 3) 0 = x0 at d0
            generalize List.getD f (p * 3 + 1) 0 = x1 at d1
            generalize List.getD f (p * 3 + 2) 0 = x2 at d2
            go_wp2_with (at_builtin; refine wpList_pushK rfl _ _ _ rfl 36 i0 Try.underlying24 hi _ 3 24 hz0 hz1 hz2 rfl (by omega) (by omega) _ w4 w.heap.size _ (p + 1) f [x0, x1, x2] _ rfl rfl rfl rfl hacc4 rfl (by omega) (by omega) (Below.refl _ _) ?_; intro v5 w5 hacc5 hb5)
            have h5 := h4.below hb5 hgw
            have hw5 := hw4.and_below hb5 (Nat.le_refl _)
            obtain ⟨A5, c5, hv5⟩ : ∃ A5 c5, v5 = .slice A5 (p + 1 + 1) c5 := by
              rcases hacc5.form with ⟨h0, _⟩ | ⟨b5, c5, h0, _⟩
              · omega
              · exact ⟨_, _, h0⟩
            clear h4 hacc4 hw4 hb5 d0 d1 d2
            have hp19 : p + 1 ≤ 20 := by omega
            go_wp2_with fail
            go_roundw
            case rel => exact ⟨p + 1, _, hp19, hacc5, h5.more (by omega), hw5⟩
            case measure => subst hv5; simp; omega
          · go_wp2_with fail
            go_ret
            exact RetJobs.of hacc4 (by omega) h4 (by omega) hw4
      go_wp2_with fail
      go_ret
      exact RetJobs.of hacc3 (by omega) h3 (by omega) hw3
end Go.Proofs.Ytdlmacoblmnajaa
