/-
  The contracts of the loops that go a way over a ring, station by station.
-/
import Derived.Test.YtifebadcfopfkaaRStep
import Derived.Test.YtifebadcfopfkaaAcc
namespace Go.Proofs.Ytifebadcfopfkaa
open Go.RowKit
set_option maxRecDepth 100000
set_option linter.unusedVariables false

/-- A way, or none. -/
def optL : Option (List Int) → List Int × Bool
  | some l => (l, true)
  | none => ([], false)
/-- The way from a on in a direction, a with it. -/
def wayP (ld : Int → Option Int) (n : Nat) (a : Int) : Option (List Int) := (wayL ld n a).map (a :: ·)
theorem wayP_len {ld : Int → Option Int} {n : Nat} {a : Int} {l : List Int} (h : wayP ld n a = some l) : l.length = n + 1 := by
  unfold wayP at h
  rw [Option.map_eq_some_iff] at h
  obtain ⟨m, h1, rfl⟩ := h
  simp [wayL_len h1]


set_option maxHeartbeats 1000000 in
theorem wayF_any (v : Value) (x : Rg) (a b : Int) (w : World) (h : RRg w w.heap.size v x) (hk : 2 ≤ x.k ∧ x.k ≤ 12) (ha : 0 ≤ a ∧ a < x.k) (hb : 0 ≤ b ∧ b < x.k) (hn : x.d.length ≤ 1048576) :
    Calls Try.prog 101 #[v, .int .i64 a, .int .i64 b, .func (.func 90) #[] #[]] w (RetLB 3 w (optL (wayP (fw x.d x.k) (gapF x.k b a) a)).1 (optL (wayP (fw x.d x.k) (gapF x.k b a) a)).2) := by
  obtain ⟨sv, rfl, h⟩ := h
  obtain ⟨k, d⟩ := x
  simp only [RgV] at h hk ha hb hn ⊢
  have h3 := h
  obtain ⟨A, c, rfl, hlc, hc⟩ := h
  clear hc
  obtain ⟨i0, hi, hz0, hz1, hz2⟩ := info_parts int_info
  have hB0 := BK.made w 26 #[.int .i64 k, .slice A d.length c]
  have hW : Below w.heap.size w (w.alloc (.cells #[.int .i64 k, .slice A d.length c] 26)) := (Below.refl _ _).alloc (Nat.le_refl _) _
  have h4 := (h3.below hW).more hW.size
  have hs0 : (w.alloc (.cells #[.int .i64 k, .slice A d.length c] 26)).heap.size = w.heap.size + 1 := World.size_alloc _ _
  have hacc0 : Acc 3 ((w.alloc (.cells #[.int .i64 k, .slice A d.length c] 26)).alloc (.cells #[.int .i64 a] 3)) (w.heap.size + 1) (.slice (some ⟨w.heap.size + 1, 0, none⟩) 1 1) [a] := Acc.lit1 hs0.symm
  have hL := leadsF d k b hb
  have hsm := hL.small a ha.1 ha.2
  have hon := Onway.start (fw d k) (gapF k b a) a
  obtain ⟨full, hfull⟩ : ∃ f, f = wayP (fw d k) (gapF k b a) a := ⟨_, rfl⟩
  rw [← hfull]
  rw [show (wayL (fw d k) (gapF k b a) a).map (a :: ·) = full from hfull.symm] at hon
  clear hfull
  have HL := Lib.hid hL
  have HON := Lib.hid hon
  have HK := Lib.hid hk
  generalize hN : gapF k b a = N at HON hsm
  have HN := Lib.hid hN
  clear hL hon hN
  obtain ⟨w0, hw0⟩ : ∃ w0, w0 = w.alloc (.cells #[.int .i64 k, .slice A d.length c] 26) := ⟨_, rfl⟩
  have T0 : Below w.heap.size w w0 := hw0 ▸ hW
  have B0 : BK w0 w.heap.size 26 #[.int .i64 k, .slice A d.length c] := hw0 ▸ hB0
  have R0 : RI w0 w0.heap.size (.slice A d.length c) d := hw0 ▸ h4
  have S0 : w0.heap.size = w.heap.size + 1 := hw0 ▸ hs0
  have hacc1 : Acc 3 (w0.alloc (.cells #[.int .i64 a] 3)) (w.heap.size + 1) (.slice (some ⟨w.heap.size + 1, 0, none⟩) 1 1) [a] := hw0 ▸ hacc0
  have hbw0 : Below (w.heap.size + 1) w0 (w0.alloc (.cells #[.int .i64 a] 3)) := (Below.refl _ _).alloc (by omega) _
  go_enter Try.func101, Try.ntmps101
  go_wp2_with fail
  rw [← hw0]
  clear hw0 hB0 hW h4 hs0 hacc0 h3
  go_loopw [10, 11] (fun u s wr => ∃ (n : Nat) (t : Int) (acc : List Int), s = .int .i64 t ∧ 0 ≤ t ∧ t < k ∧ gapF k b t = n ∧ acc.length + n = N + 1 ∧ Onway (fw d k) full n t acc ∧ Acc 3 wr (w.heap.size + 1) u acc ∧ Below (w.heap.size + 1) w0 wr) (fun _ s _ => gapF k b (intOf s))
  case atStart => exact ⟨N, a, [a], rfl, ha.1, ha.2, HN.out, by simp; omega, HON.out, hacc1, hbw0⟩
  case round =>
    obtain ⟨n, t, acc, rfl, ht0, ht1, hgap, hlen, hon, hacc, hbw⟩ := hrel
    clear hacc1 hbw0
    have hr := (R0.below (hbw.mono (by omega))).more hbw.size
    have q := B0.step (hbw.mono (by omega))
    have q0 := q.cell 0
    have q1 := q.cell 1
    simp at q0 q1
    have hsz := hbw.size
    have HO := Lib.hid hon
    have HG := Lib.hid hgap
    clear hon hgap
    by_cases hst : t = b
    · have hn0 : n = 0 := by rw [← HG.out]; exact (HL.out.zero t ht0 ht1).2 hst
      subst hn0
      have HF : Hid (full = some acc) := HO.out.done
      have hbeq : (t != b) = false := by rw [hst]; simp
      go_wp2
      go_ret2
      refine ⟨_, by rw [HF.out]; rfl, ?_, T0.trans (hbw.mono (by omega))⟩
      rw [HF.out]
      exact hacc.oi.wide (by omega) (Nat.le_refl _)
    · have hn1 : n ≠ 0 := fun h0 => hst ((HL.out.zero t ht0 ht1).1 (by rw [HG.out, h0]))
      obtain ⟨m, rfl⟩ := Nat.exists_eq_succ_of_ne_zero hn1
      have hbeq : (t != b) = true := by simp [hst]
      have HST := Lib.hid hst
      clear hst hn1
      go_wp2_with fail
      refine (forwards_any _ ⟨k, d⟩ t _ ⟨_, rfl, hr⟩ HK.out ⟨ht0, ht1⟩ hn).mono ?_; rintro e w1 ⟨rfl, hb1⟩
      have hacc2 := hacc.step hb1
      have hbw2 := hbw.trans (hb1.mono (by omega))
      have hsz2 := hb1.size
      simp only
      obtain ⟨o, ho⟩ : ∃ o, o = fw d k t := ⟨_, rfl⟩
      rw [← ho]
      cases o with
      | none =>
        have HF : Hid (full = none) := HO.out.stop ho.symm
        simp only [optV]
        go_wp2
        go_ret2
        exact ⟨_, by rw [HF.out]; rfl, by rw [HF.out]; exact .inl ⟨rfl, none, 0, rfl, by simp, fun _ => rfl⟩, T0.trans (hbw2.mono (by omega))⟩
      | some t2 =>
        have hs := HL.out.step t t2 ht0 ht1 ho.symm
        have HO2 := Lib.hid (HO.out.next ho.symm)
        have HG2 : Hid (gapF k b t2 = m) := by show _ = _; have := hs.2 HST.out; have := HG.out; omega
        have HR := Lib.hid hs.1
        clear hs ho
        simp only [optV]
        go_wp2_with (at_builtin; refine wpList_push rfl (.tmp 29) (.tmp 31) 24 rfl 3 i0 Try.underlying24 hi hz0 hz1 hz2 w1 w0 (w.heap.size + 1) _ acc t2 rfl rfl hacc2 rfl (by omega) (by omega) hbw2 ?_; intro v3 w3 hacc3 hbw3)
        go_roundw
        case rel => first | exact ⟨m, t2, acc ++ [t2], rfl, HR.out.1, HR.out.2, HG2.out, by simp; omega, HO2.out, hacc3, hbw3⟩ | exact ⟨m, t2, acc ++ [t2], rfl, HR.out.1, HR.out.2, HG2.out, by simp; omega, HO2.out, hacc3⟩
        case measure => simp only [intOf]; rw [HG2.out, HG.out]; omega


set_option maxHeartbeats 1000000 in
theorem wayB_any (v : Value) (x : Rg) (a b : Int) (w : World) (h : RRg w w.heap.size v x) (hk : 2 ≤ x.k ∧ x.k ≤ 12) (ha : 0 ≤ a ∧ a < x.k) (hb : 0 ≤ b ∧ b < x.k) (hn : x.d.length ≤ 1048576) :
    Calls Try.prog 101 #[v, .int .i64 a, .int .i64 b, .func (.func 120) #[] #[]] w (RetLB 3 w (optL (wayP (bw x.d x.k) (gapB x.k b a) a)).1 (optL (wayP (bw x.d x.k) (gapB x.k b a) a)).2) := by
  obtain ⟨sv, rfl, h⟩ := h
  obtain ⟨k, d⟩ := x
  simp only [RgV] at h hk ha hb hn ⊢
  have h3 := h
  obtain ⟨A, c, rfl, hlc, hc⟩ := h
  clear hc
  obtain ⟨i0, hi, hz0, hz1, hz2⟩ := info_parts int_info
  have hB0 := BK.made w 26 #[.int .i64 k, .slice A d.length c]
  have hW : Below w.heap.size w (w.alloc (.cells #[.int .i64 k, .slice A d.length c] 26)) := (Below.refl _ _).alloc (Nat.le_refl _) _
  have h4 := (h3.below hW).more hW.size
  have hs0 : (w.alloc (.cells #[.int .i64 k, .slice A d.length c] 26)).heap.size = w.heap.size + 1 := World.size_alloc _ _
  have hacc0 : Acc 3 ((w.alloc (.cells #[.int .i64 k, .slice A d.length c] 26)).alloc (.cells #[.int .i64 a] 3)) (w.heap.size + 1) (.slice (some ⟨w.heap.size + 1, 0, none⟩) 1 1) [a] := Acc.lit1 hs0.symm
  have hL := leadsB d k b hb
  have hsm := hL.small a ha.1 ha.2
  have hon := Onway.start (bw d k) (gapB k b a) a
  obtain ⟨full, hfull⟩ : ∃ f, f = wayP (bw d k) (gapB k b a) a := ⟨_, rfl⟩
  rw [← hfull]
  rw [show (wayL (bw d k) (gapB k b a) a).map (a :: ·) = full from hfull.symm] at hon
  clear hfull
  have HL := Lib.hid hL
  have HON := Lib.hid hon
  have HK := Lib.hid hk
  generalize hN : gapB k b a = N at HON hsm
  have HN := Lib.hid hN
  clear hL hon hN
  obtain ⟨w0, hw0⟩ : ∃ w0, w0 = w.alloc (.cells #[.int .i64 k, .slice A d.length c] 26) := ⟨_, rfl⟩
  have T0 : Below w.heap.size w w0 := hw0 ▸ hW
  have B0 : BK w0 w.heap.size 26 #[.int .i64 k, .slice A d.length c] := hw0 ▸ hB0
  have R0 : RI w0 w0.heap.size (.slice A d.length c) d := hw0 ▸ h4
  have S0 : w0.heap.size = w.heap.size + 1 := hw0 ▸ hs0
  have hacc1 : Acc 3 (w0.alloc (.cells #[.int .i64 a] 3)) (w.heap.size + 1) (.slice (some ⟨w.heap.size + 1, 0, none⟩) 1 1) [a] := hw0 ▸ hacc0
  have hbw0 : Below (w.heap.size + 1) w0 (w0.alloc (.cells #[.int .i64 a] 3)) := (Below.refl _ _).alloc (by omega) _
  go_enter Try.func101, Try.ntmps101
  go_wp2_with fail
  rw [← hw0]
  clear hw0 hB0 hW h4 hs0 hacc0 h3
  go_loopw [10, 11] (fun u s wr => ∃ (n : Nat) (t : Int) (acc : List Int), s = .int .i64 t ∧ 0 ≤ t ∧ t < k ∧ gapB k b t = n ∧ acc.length + n = N + 1 ∧ Onway (bw d k) full n t acc ∧ Acc 3 wr (w.heap.size + 1) u acc ∧ Below (w.heap.size + 1) w0 wr) (fun _ s _ => gapB k b (intOf s))
  case atStart => exact ⟨N, a, [a], rfl, ha.1, ha.2, HN.out, by simp; omega, HON.out, hacc1, hbw0⟩
  case round =>
    obtain ⟨n, t, acc, rfl, ht0, ht1, hgap, hlen, hon, hacc, hbw⟩ := hrel
    clear hacc1 hbw0
    have hr := (R0.below (hbw.mono (by omega))).more hbw.size
    have q := B0.step (hbw.mono (by omega))
    have q0 := q.cell 0
    have q1 := q.cell 1
    simp at q0 q1
    have hsz := hbw.size
    have HO := Lib.hid hon
    have HG := Lib.hid hgap
    clear hon hgap
    by_cases hst : t = b
    · have hn0 : n = 0 := by rw [← HG.out]; exact (HL.out.zero t ht0 ht1).2 hst
      subst hn0
      have HF : Hid (full = some acc) := HO.out.done
      have hbeq : (t != b) = false := by rw [hst]; simp
      go_wp2
      go_ret2
      refine ⟨_, by rw [HF.out]; rfl, ?_, T0.trans (hbw.mono (by omega))⟩
      rw [HF.out]
      exact hacc.oi.wide (by omega) (Nat.le_refl _)
    · have hn1 : n ≠ 0 := fun h0 => hst ((HL.out.zero t ht0 ht1).1 (by rw [HG.out, h0]))
      obtain ⟨m, rfl⟩ := Nat.exists_eq_succ_of_ne_zero hn1
      have hbeq : (t != b) = true := by simp [hst]
      have HST := Lib.hid hst
      clear hst hn1
      go_wp2_with fail
      refine (backwards_any _ ⟨k, d⟩ t _ ⟨_, rfl, hr⟩ HK.out ⟨ht0, ht1⟩ hn).mono ?_; rintro e w1 ⟨rfl, hb1⟩
      have hacc2 := hacc.step hb1
      have hbw2 := hbw.trans (hb1.mono (by omega))
      have hsz2 := hb1.size
      simp only
      obtain ⟨o, ho⟩ : ∃ o, o = bw d k t := ⟨_, rfl⟩
      rw [← ho]
      cases o with
      | none =>
        have HF : Hid (full = none) := HO.out.stop ho.symm
        simp only [optV]
        go_wp2
        go_ret2
        exact ⟨_, by rw [HF.out]; rfl, by rw [HF.out]; exact .inl ⟨rfl, none, 0, rfl, by simp, fun _ => rfl⟩, T0.trans (hbw2.mono (by omega))⟩
      | some t2 =>
        have hs := HL.out.step t t2 ht0 ht1 ho.symm
        have HO2 := Lib.hid (HO.out.next ho.symm)
        have HG2 : Hid (gapB k b t2 = m) := by show _ = _; have := hs.2 HST.out; have := HG.out; omega
        have HR := Lib.hid hs.1
        clear hs ho
        simp only [optV]
        go_wp2_with (at_builtin; refine wpList_push rfl (.tmp 29) (.tmp 31) 24 rfl 3 i0 Try.underlying24 hi hz0 hz1 hz2 w1 w0 (w.heap.size + 1) _ acc t2 rfl rfl hacc2 rfl (by omega) (by omega) hbw2 ?_; intro v3 w3 hacc3 hbw3)
        go_roundw
        case rel => first | exact ⟨m, t2, acc ++ [t2], rfl, HR.out.1, HR.out.2, HG2.out, by simp; omega, HO2.out, hacc3, hbw3⟩ | exact ⟨m, t2, acc ++ [t2], rfl, HR.out.1, HR.out.2, HG2.out, by simp; omega, HO2.out, hacc3⟩
        case measure => simp only [intOf]; rw [HG2.out, HG.out]; omega


set_option maxHeartbeats 1000000 in
theorem riWay_any (v : Value) (x : Rg) (a b : Int) (w : World) (h : RRg w w.heap.size v x) (hk : 2 ≤ x.k ∧ x.k ≤ 12) (ha : 0 ≤ a ∧ a < x.k) (hb : 0 ≤ b ∧ b < x.k) (hn : x.d.length ≤ 1048576) :
    Calls Try.prog 102 #[v, .int .i64 a, .int .i64 b] w (RetLB 3 w (optL (wayP (fw x.d x.k) (gapF x.k b a) a)).1 (optL (wayP (fw x.d x.k) (gapF x.k b a) a)).2) := by
  obtain ⟨sv, rfl, h⟩ := h
  obtain ⟨k, d⟩ := x
  simp only [RgV] at h hk ha hb hn ⊢
  have h3 := h
  obtain ⟨A, c, rfl, hlc, hc⟩ := h
  clear hc
  obtain ⟨i0, hi, hz0, hz1, hz2⟩ := info_parts int_info
  have hB0 := BK.made w 26 #[.int .i64 k, .slice A d.length c]
  have hW : Below w.heap.size w (w.alloc (.cells #[.int .i64 k, .slice A d.length c] 26)) := (Below.refl _ _).alloc (Nat.le_refl _) _
  have h4 := (h3.below hW).more hW.size
  have hs0 : (w.alloc (.cells #[.int .i64 k, .slice A d.length c] 26)).heap.size = w.heap.size + 1 := World.size_alloc _ _
  have hacc0 : Acc 3 ((w.alloc (.cells #[.int .i64 k, .slice A d.length c] 26)).alloc (.cells #[.int .i64 a] 3)) (w.heap.size + 1) (.slice (some ⟨w.heap.size + 1, 0, none⟩) 1 1) [a] := Acc.lit1 hs0.symm
  have hL := leadsF d k b hb
  have hsm := hL.small a ha.1 ha.2
  have hon := Onway.start (fw d k) (gapF k b a) a
  obtain ⟨full, hfull⟩ : ∃ f, f = wayP (fw d k) (gapF k b a) a := ⟨_, rfl⟩
  rw [← hfull]
  rw [show (wayL (fw d k) (gapF k b a) a).map (a :: ·) = full from hfull.symm] at hon
  clear hfull
  have HL := Lib.hid hL
  have HON := Lib.hid hon
  have HK := Lib.hid hk
  generalize hN : gapF k b a = N at HON hsm
  have HN := Lib.hid hN
  clear hL hon hN
  obtain ⟨w0, hw0⟩ : ∃ w0, w0 = w.alloc (.cells #[.int .i64 k, .slice A d.length c] 26) := ⟨_, rfl⟩
  have T0 : Below w.heap.size w w0 := hw0 ▸ hW
  have B0 : BK w0 w.heap.size 26 #[.int .i64 k, .slice A d.length c] := hw0 ▸ hB0
  have R0 : RI w0 w0.heap.size (.slice A d.length c) d := hw0 ▸ h4
  have S0 : w0.heap.size = w.heap.size + 1 := hw0 ▸ hs0
  have hacc1 : Acc 3 (w0.alloc (.cells #[.int .i64 a] 3)) (w.heap.size + 1) (.slice (some ⟨w.heap.size + 1, 0, none⟩) 1 1) [a] := hw0 ▸ hacc0
  have hbw0 : Below (w.heap.size + 1) w0 (w0.alloc (.cells #[.int .i64 a] 3)) := (Below.refl _ _).alloc (by omega) _
  go_enter Try.func102, Try.ntmps102
  go_wp2_with fail
  rw [← hw0]
  clear hw0 hB0 hW h4 hs0 hacc0 h3
  go_loopw [1, 8] (fun s u wr => ∃ (n : Nat) (t : Int) (acc : List Int), s = .int .i64 t ∧ 0 ≤ t ∧ t < k ∧ gapF k b t = n ∧ acc.length + n = N + 1 ∧ Onway (fw d k) full n t acc ∧ Acc 3 wr (w.heap.size + 1) u acc ∧ Below (w.heap.size + 1) w0 wr) (fun s _ _ => gapF k b (intOf s))
  case atStart => exact ⟨N, a, [a], rfl, ha.1, ha.2, HN.out, by simp; omega, HON.out, hacc1, hbw0⟩
  case round =>
    obtain ⟨n, t, acc, rfl, ht0, ht1, hgap, hlen, hon, hacc, hbw⟩ := hrel
    clear hacc1 hbw0
    have hr := (R0.below (hbw.mono (by omega))).more hbw.size
    have q := B0.step (hbw.mono (by omega))
    have q0 := q.cell 0
    have q1 := q.cell 1
    simp at q0 q1
    have hsz := hbw.size
    have HO := Lib.hid hon
    have HG := Lib.hid hgap
    clear hon hgap
    by_cases hst : t = b
    · have hn0 : n = 0 := by rw [← HG.out]; exact (HL.out.zero t ht0 ht1).2 hst
      subst hn0
      have HF : Hid (full = some acc) := HO.out.done
      have hbeq : (t != b) = false := by rw [hst]; simp
      go_wp2
      go_ret2
      refine ⟨_, by rw [HF.out]; rfl, ?_, T0.trans (hbw.mono (by omega))⟩
      rw [HF.out]
      exact hacc.oi.wide (by omega) (Nat.le_refl _)
    · have hn1 : n ≠ 0 := fun h0 => hst ((HL.out.zero t ht0 ht1).1 (by rw [HG.out, h0]))
      obtain ⟨m, rfl⟩ := Nat.exists_eq_succ_of_ne_zero hn1
      have hbeq : (t != b) = true := by simp [hst]
      have HST := Lib.hid hst
      clear hst hn1
      cases hd : hasI d t
      · have ho : fw d k t = some (nx k t) := by simp [fw, hd]
        have hs := HL.out.step t (nx k t) ht0 ht1 ho
        have HO2 := Lib.hid (HO.out.next ho)
        have HG2 : Hid (gapF k b (nx k t) = m) := by show _ = _; have := hs.2 HST.out; have := HG.out; omega
        have HR := Lib.hid hs.1
        clear hs ho
        go_wp2_with fail
        refine (l1Has_any _ d t _ hr hn).mono ?_; rintro e w' ⟨rfl, rfl⟩
        rw [hd]
        go_wp2_with fail
        refine (riNext_any _ ⟨k, d⟩ t _ ⟨_, rfl, hr⟩ HK.out ⟨ht0, ht1⟩).mono ?_; rintro e w1 ⟨rfl, hb1⟩
        have hacc2 := hacc.step hb1
        have hbw2 := hbw.trans (hb1.mono (by omega))
        have hsz2 := hb1.size
        simp only
        generalize nx k t = t2 at HO2 HG2 HR
        go_wp2_with (at_builtin; refine wpList_push rfl (.tmp 21) (.tmp 23) 24 rfl 3 i0 Try.underlying24 hi hz0 hz1 hz2 w1 w0 (w.heap.size + 1) _ acc t2 rfl rfl hacc2 rfl (by omega) (by omega) hbw2 ?_; intro v3 w3 hacc3 hbw3)
        go_roundw
        case rel => first | exact ⟨m, t2, acc ++ [t2], rfl, HR.out.1, HR.out.2, HG2.out, by simp; omega, HO2.out, hacc3, hbw3⟩ | exact ⟨m, t2, acc ++ [t2], rfl, HR.out.1, HR.out.2, HG2.out, by simp; omega, HO2.out, hacc3⟩
        case measure => simp only [intOf]; rw [HG2.out, HG.out]; omega
      · have HF : Hid (full = none) := HO.out.stop (by simp [fw, hd])
        go_wp2_with fail
        refine (l1Has_any _ d t _ hr hn).mono ?_; rintro e w' ⟨rfl, rfl⟩
        rw [hd]
        go_wp2_with fail
        go_ret2
        exact ⟨_, by rw [HF.out]; rfl, by rw [HF.out]; exact .inl ⟨rfl, none, 0, rfl, by simp, fun _ => rfl⟩, T0.trans (hbw.mono (by omega))⟩

end Go.Proofs.Ytifebadcfopfkaa
