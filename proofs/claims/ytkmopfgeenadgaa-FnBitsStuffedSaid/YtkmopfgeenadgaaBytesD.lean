/-
  Bytes and bits as the laws' inputs are drawn.
-/
import Derived.Test.YtkmopfgeenadgaaSureF
import Derived.Test.YtkmopfgeenadgaaBytesOf
import Derived.Test.YtkmopfgeenadgaaStuff
namespace Go.Proofs.Ytkmopfgeenadgaa
open Go.RowKit
set_option maxRecDepth 100000
set_option linter.unusedVariables false
theorem row_ltC {w : World} {E : TypeId} {lo : Nat} {v : Value} {l : List Int} (h : Acc E w lo v l) (hl : 0 < l.length) : lo < w.heap.size := by
  rcases h.formC with ⟨rfl, _⟩ | ⟨b, c, _, h1, h2, _⟩
  · simp at hl
  · omega
/-- What a draw of a list leaves: at most m numbers that read. -/
def RetLR (m : Nat) (g B n k : Nat) (w : World) (e : Ending) (w' : World) : Prop :=
  ∃ (u : Value) (l : List Int), e = .returned u ∧ l.length ≤ m ∧ RI w' w'.heap.size u l ∧ CurAt w' g B n k ∧ Wr g (g + 1) w w'
set_option maxHeartbeats 8000000 in
theorem bytes_any (g B n k : Nat) (w : World) (h : CurAt w g B n k) (hk : k ≤ 1000000) (hn : n ≤ 1048576) :
    Calls Try.prog 38 #[.pointer (some ⟨g, 0, none⟩)] w (RetLR 50 g B n (k + 2000) w) := by
  obtain ⟨i0, hi, hz0, hz1, hz2⟩ := info_parts int_info
  have hgw := h.lt
  have h9 : Calls Try.prog 43 #[.pointer (some ⟨g, 0, none⟩), .int .i64 12, .int .i64 4] w (RetFrC 4 g B n (k + 100) w) := sureFrame_any g B n k 4 w h (by omega) hn (by omega)
  have H9 := Lib.hid h9
  clear h9
  go_enter Try.func38, Try.ntmps38
  go_wp2_with fail
  refine H9.out.mono ?_; rintro e w1 ⟨u, x, rfl, hF, hd, ho, h1, g1⟩
  clear H9 h
  go_wp2_with fail
  refine (frList_any _ x _ ho.rf hF).mono ?_; rintro e w2 ⟨u2, rfl, ho2, hb2⟩
  have hl2 : (bytesF x).length ≤ 7 := by rw [bytesF_length]; omega
  have hl3 : 3 ≤ (bytesF x).length := by rw [bytesF_length]; omega
  have hz2' := g1.size
  have h2 := h1.below hb2 h1.lt
  have g2 : Wr g (g + 1) w w2 := g1.and_below hb2 (by omega)
  have hacc := (ho2.acc (by omega))
  have hw1 : w.heap.size ≤ w1.heap.size := hz2'
  have hlow : g < w1.heap.size := h1.lt
  generalize bytesF x = f at hacc hl2 hl3
  clear ho ho2 h1 g1 hb2 hd
  go_wp2_with fail
  refine (pick_any g B n _ 10 _ h2 (by omega) hn (by omega) (by omega)).mono ?_; rintro e w3 ⟨s, rfl, s0, s1, h3, g3⟩
  have HW3 := Lib.hid (g2.trans g3)
  have HA3 := Lib.hid (hacc.farC g3 (by omega))
  have hs3 := HW3.out.size
  have HL := Lib.hid hl2
  have HL3 := Lib.hid hl3
  have hz1' : (1 : Int) ≤ (f.length : Int) := by omega
  have hz2' : (f.length : Int) ≤ 1000000 := by omega
  clear hacc h2 g2 g3 hl2 hl3
  rcases HA3.out.formC with ⟨hnil, _⟩ | ⟨b, c, rfl, hlb, hbw, hmc, hcm, hcell, hfz⟩
  · have := HL3.out; rw [hnil] at this; simp at this
  clear hcell hfz
  by_cases e0 : s = 0
  · subst e0
    go_wp2_with fail
    refine (pick_any g B n _ _ _ h3 (by omega) hn hz1' hz2').mono ?_; rintro e w4 ⟨p, rfl, p0, p1, h4, g4⟩
    obtain ⟨p, rfl⟩ := Int.eq_ofNat_of_zero_le p0
    have hp : p < f.length := by omega
    have HW4 := Lib.hid (HW3.out.trans g4)
    have HA4 := Lib.hid (HA3.out.farC g4 (by omega))
    have hs4 := HW4.out.size
    clear h3 g4 HW3 HA3
    go_wp2_with fail
    refine (byteOf_any g B n _ _ h4 (by omega) hn).mono ?_; rintro e w5 ⟨y, rfl, y0, y1, h5, g5⟩
    have HW5 := Lib.hid (HW4.out.trans g5)
    have HA5 := Lib.hid (HA4.out.farC g5 (by omega))
    have hs5 := HW5.out.size
    clear h4 g5 HW4 HA4
    have hd := World.ownsRow.cellAt HA5.out p (by omega)
    rw [ics_get f p hp] at hd
    have hzf := World.ownsRow.frozenAt HA5.out p
    generalize List.getD f p 0 = fy at hd
    go_wp2_with fail
    go_ret
    exact ⟨_, _, rfl, by rw [List.length_set]; have := HL.out; omega, (HA5.out.putC p y).oi.ri, (h5.below (lo := w1.heap.size) ((Below.refl _ _).setCell (p := ⟨b, p, none⟩) hlb _) hlow).more (by omega), HW5.out.and_below (lo := w.heap.size) ((Below.refl w.heap.size w5).setCell (p := ⟨b, p, none⟩) (Nat.le_trans hw1 hlb) _) (Nat.le_refl _)⟩
  by_cases e1 : s = 1
  · subst e1
    go_wp2_with fail
    refine (pick_any g B n _ _ _ h3 (by omega) hn hz1' hz2').mono ?_; rintro e w4 ⟨p, rfl, p0, p1, h4, g4⟩
    obtain ⟨p, rfl⟩ := Int.eq_ofNat_of_zero_le p0
    have hp : p < f.length := by omega
    have HW4 := Lib.hid (HW3.out.trans g4)
    have HA4 := Lib.hid (HA3.out.farC g4 (by omega))
    have hs4 := HW4.out.size
    clear h3 g4 HW3 HA3
    go_wp2_with fail
    refine (among_any g B n _ _ [-1, 256, 4611686018427387904] _ (h4.below ((Below.refl _ _).alloc (Nat.le_refl _) _) (by omega)) (by omega) hn _ _ (litN [-1, 256, 4611686018427387904] 3 _ rfl (by omega) rfl (by simp)) (by omega) (by simp) (by simp)).mono ?_; rintro e w5 ⟨jj, hjj, rfl, h5, g5⟩
    generalize List.getD ([-1, 256, 4611686018427387904] : List Int) jj 0 = y
    have gA : Wr g (g + 1) w4 w5 := (Wr.of_below ((Below.refl _ _).alloc (Nat.le_refl _) _) g (g + 1)).trans g5
    have HW5 := Lib.hid (HW4.out.trans gA)
    have HA5 := Lib.hid (HA4.out.farC gA (by omega))
    have hs5 := HW5.out.size
    clear h4 gA g5 HW4 HA4 hjj
    have hd := World.ownsRow.cellAt HA5.out p (by omega)
    rw [ics_get f p hp] at hd
    have hzf := World.ownsRow.frozenAt HA5.out p
    generalize List.getD f p 0 = fy at hd
    go_wp2_with fail
    go_ret
    exact ⟨_, _, rfl, by rw [List.length_set]; have := HL.out; omega, (HA5.out.putC p y).oi.ri, (h5.below (lo := w1.heap.size) ((Below.refl _ _).setCell (p := ⟨b, p, none⟩) hlb _) hlow).more (by omega), HW5.out.and_below (lo := w.heap.size) ((Below.refl w.heap.size w5).setCell (p := ⟨b, p, none⟩) (Nat.le_trans hw1 hlb) _) (Nat.le_refl _)⟩
  by_cases e2 : s = 2
  · subst e2
    go_wp2_with fail
    go_loopw [3] (fun u wr => ∃ (f : List Int), 3 ≤ f.length ∧ f.length ≤ 41 ∧ Acc 3 wr w1.heap.size u f ∧ CurAt wr g B n (k + 110 + 8 * f.length) ∧ Wr g (g + 1) w wr) (fun u _ => 42 - (match u with | .slice _ n _ => n | _ => 0))
    case atStart => exact ⟨f, HL3.out, by have := HL.out; omega, HA3.out, h3.more (by omega), HW3.out⟩
    case round =>
      obtain ⟨f, hf3, hf, hacc, hcur, hwr⟩ := hrel
      have hgr := hcur.lt
      have hsz := hwr.size
      have hf' : (f.length : Int) ≤ 41 := by omega
      have HF3 := Lib.hid hf3
      have HF4 := Lib.hid hf
      clear hf3 hf
      obtain ⟨A9, c9, rfl, _, _⟩ := hacc.oi.ri
      go_wp2_with fail
      refine (pick_any g B n _ 2 _ hcur (by have := HF4.out; omega) hn (by omega) (by omega)).mono ?_; rintro e w4 ⟨z, rfl, z0, z1, h4, g4⟩
      have HW4 := Lib.hid (hwr.trans g4)
      have HA4 := Lib.hid (hacc.farC g4 (by omega))
      have hs4 := HW4.out.size
      clear hacc hcur hwr g4
      by_cases hlt : (f.length : Int) < 40 + z
      · have HF2 : Hid (f.length ≤ 40) := by show f.length ≤ 40; omega
        go_wp2_with fail
        refine (byteOf_any g B n _ _ h4 (by have := HF4.out; omega) hn).mono ?_; rintro e w5 ⟨y, rfl, y0, y1, h5, g5⟩
        have HW5 := Lib.hid (HW4.out.trans g5)
        have HA5 := Lib.hid (HA4.out.farC g5 (by omega))
        have hs5 := HW5.out.size
        have hz5 : w1.heap.size ≤ w5.heap.size := by have := HA5.out.oi; have := row_ltC HA5.out (by have := HF3.out; omega); omega
        clear h4 g5 HW4 HA4
        have HLN : Hid (f.length < 1000000000) := by show f.length < 1000000000; omega
        go_wp2_with (at_builtin; refine wpList_push rfl _ _ _ rfl 3 i0 Try.underlying24 hi hz0 hz1 hz2 _ w5 w1.heap.size _ f _ rfl rfl HA5.out rfl HLN.out hz5 (Below.refl _ _) ?_; intro v6 w6 hacc6 hb6; have HA6 := Lib.hid hacc6; have HB6 := Lib.hid hb6; clear hacc6 hb6)
        obtain ⟨A6, c6, hv6, _, _⟩ := HA6.out.oi.ri
        have HV6 := Lib.hid hv6
        clear hv6
        go_roundw
        case rel => exact ⟨_, by rw [List.length_append]; have := HF3.out; omega, by rw [List.length_append]; have := HF2.out; simp; omega, HA6.out, (h5.below HB6.out hlow).more (by rw [List.length_append]; simp; omega), HW5.out.and_below (HB6.out.mono hw1) (Nat.le_refl _)⟩
        case measure => rw [HV6.out]; simp; have := HF2.out; omega
      · go_wp2_with fail
        go_ret
        exact ⟨_, _, rfl, by have := HF4.out; omega, HA4.out.oi.ri, h4.more (by have := HF4.out; omega), HW4.out⟩
  by_cases e3 : s = 3
  · subst e3
    go_wp2_with fail
    go_ret
    exact ⟨_, [], rfl, by simp, ⟨none, 0, rfl, ⟨by simp, by simp, fun _ => rfl⟩, fun h => absurd h (by simp)⟩, h3.more (by omega), HW3.out⟩
  by_cases e4 : s = 4
  · subst e4
    obtain ⟨p, hp⟩ : ∃ p, f.length = p + 1 := ⟨f.length - 1, by have := HL3.out; omega⟩
    have hr := HA3.out.oi.ri.front p (by omega)
    have HR := Lib.hid hr
    have hp7 : p ≤ 7 := by have := HL.out; omega
    rw [hp] at hmc ⊢
    have HP := Lib.hid hp
    clear hp hr
    go_wp2_with fail
    go_ret
    exact ⟨_, _, rfl, by rw [List.length_take]; have := HL.out; omega, HR.out, h3.more (by omega), HW3.out⟩
  · go_wp2_with fail
    go_ret
    exact ⟨_, _, rfl, by have := HL.out; omega, HA3.out.oi.ri, h3.more (by omega), HW3.out⟩
end Go.Proofs.Ytkmopfgeenadgaa
