/-
  Chapter 8: windows: the model's WindowsOf.
-/
import Derived.Test.YtfncajdhdcpooaaDoorShJ
namespace Go.Proofs.YtfncajdhdcpooaaDoor
open Go.RowKit
set_option maxRecDepth 100000
set_option linter.unusedVariables false

set_option maxHeartbeats 4000000 in
theorem shWindows_any (v : Value) (l : List Int) (w : World) (h : RI w w.heap.size v l) (hq : trOk l = true) :
    Calls Tryd.prog 36 #[v] w (RetL 3 w (wnT l l.length)) := by
  have h0 := h
  obtain ⟨A, c, rfl, hlc, hc⟩ := h
  clear hc
  have H0 := Lib.hid h0
  have hlen := trOk_len hq
  have hn' : (l.length : Int) ≤ 40 := by omega
  have hlc' : (l.length : Int) ≤ (c : Int) := by omega
  obtain ⟨i0, hi, hz0, hz1, hz2⟩ := info_parts int_info
  have HWS := Lib.hid fun s k => win_sum hq s k
  have HWI := Lib.hid fun s k => win_in hq s k
  clear h0 hq
  go_enter Tryd.func36, Tryd.ntmps36
  go_wp2_with fail
  go_loopg [4, 3] l.length (fun g s4 s3 wx => ∃ j : Nat, j + g = l.length ∧ s4 = .int .i64 ((j : Int) + 1) ∧ Acc 3 wx w.heap.size s3 (wnT l j) ∧ Below w.heap.size w wx)
  case atStart => exact ⟨0, by omega, rfl, Acc.nil _ _ _, Below.refl _ _⟩
  case round =>
    obtain ⟨j, hjg, rfl, hacc, hb⟩ := hrel
    have HA := Lib.hid hacc
    have HB := Lib.hid hb
    clear hacc hb
    cases gk with
    | zero =>
      have hje : j = l.length := by omega
      have hz : ¬ ((j : Int) + 1 ≤ (l.length : Int)) := by omega
      rw [hje] at HA
      go_wp2_with fail
      go_ret
      exact ⟨_, rfl, HA.out.oi, HB.out⟩
    | succ g =>
      have hj : j < l.length := by omega
      have hj' : (j : Int) + 1 ≤ (l.length : Int) := by omega
      obtain ⟨_, _, hv9, _, hc9⟩ := H0.out
      injection hv9 with h1 h2 h3
      obtain ⟨b, off, hA9, hbB, _⟩ := hc9 (by omega)
      have hA : A = some ⟨b, off, none⟩ := h1.trans hA9
      subst hA
      clear hc9 h1 h2 h3 hA9
      have HSUC := Lib.hid (wnT_succ l j)
      have HWX : Hid (wnX l (j + 1) = mxF sumL 0 (wnL l (j + 1) (l.length - j))) := by show _ = _; unfold wnX; rw [show l.length + 1 - (j + 1) = l.length - j by omega]
      rename World => W1
      go_wp2_with fail
      go_loopg [6, 5] (l.length - j) (fun g2 s6 s5 wx => ∃ m : Nat, m + g2 = l.length - j ∧ s6 = .int .i64 (m : Int) ∧ s5 = .int .i64 (mxF sumL 0 (wnL l (j + 1) m)) ∧ W1 = wx)
      case atStart => exact ⟨0, by omega, rfl, rfl, rfl⟩
      case round =>
        obtain ⟨m, hmg, rfl, rfl, rfl⟩ := hrel
        cases gk with
        | zero =>
          have hme : m = l.length - j := by omega
          have hz : ¬ ((m : Int) + ((j : Int) + 1) ≤ (l.length : Int)) := by omega
          have HLN : Hid ((wnT l j).length < 1000000000) := by show _ < _; rw [wnT_length]; omega
          have HX : Hid (mxF sumL 0 (wnL l (j + 1) m) = wnX l (j + 1)) := by show _ = _; rw [hme]; exact HWX.out.symm
          generalize mxF sumL 0 (wnL l (j + 1) m) = X at HX ⊢
          clear hme
          go_wp2_with (at_builtin; refine wpList_push rfl (.tmp 42) (.tmp 44) 24 rfl 3 i0 Tryd.underlying24 hi hz0 hz1 hz2 W1 w w.heap.size _ (wnT l j) X rfl rfl HA.out rfl HLN.out HB.out.size HB.out ?_; intro v2 w2 ha2 hb2; have HA2 := Lib.hid ha2; have HB2 := Lib.hid hb2; clear ha2 hb2)
          go_roundg g
          case measure => omega
          case rel => exact ⟨j + 1, by omega, by go_num, by rw [HSUC.out, ← HX.out]; exact HA2.out, HB2.out⟩
        | succ g2 =>
          have hm : m + (j + 1) ≤ l.length := by omega
          have hz : (m : Int) + ((j : Int) + 1) ≤ (l.length : Int) := by omega
          have hm40 : (m : Int) ≤ 40 := by omega
          have hkc : (m : Int) + ((j : Int) + 1) ≤ (c : Int) := by omega
          have hne : ¬ (c = m) := by omega
          have htn : ((m : Int) + ((j : Int) + 1)).toNat = m + (j + 1) := by omega
          have hsub : m + (j + 1) - m = j + 1 := by omega
          have hwin := ((H0.out.below HB.out).more HB.out.size).win m (j + 1) (by omega) hm
          obtain ⟨row, hrow⟩ : ∃ row, row = (l.drop m).take (j + 1) := ⟨_, rfl⟩
          have hrl : row.length = j + 1 := by rw [hrow]; simp; omega
          have hri := HWI.out m (j + 1)
          have hws := HWS.out m (j + 1)
          have HMX : Hid (mxF sumL 0 (wnL l (j + 1) (m + 1)) = max (mxF sumL 0 (wnL l (j + 1) m)) (sumL row)) := by show _ = _; rw [wnL_succ, mxF_snoc, hrow]
          have hmb := mxF_in (f := sumL) (m := 0) (b := 40000) (L := wnL l (j + 1) m) (by omega) (fun x hx => by obtain ⟨s, _, rfl⟩ := List.mem_map.1 hx; exact (HWS.out s (j + 1)).2)
          rw [← hrow] at hwin hri hws
          have HSB := Lib.hid (fun i hi => sumL_bound row 1000 (fun x hx => hri x hx) i hi)
          have HRA : Hid (∀ i, i < j + 1 → 0 ≤ row.getD i 0 ∧ row.getD i 0 ≤ 1000) := fun i hi => hri _ (by rw [show row.getD i 0 = row[i]'(by omega) from by simp [List.getD, show i < row.length by omega]]; exact List.getElem_mem _)
          have HST := Lib.hid (fun i hi => sumL_take row i hi)
          have HRL := Lib.hid hrl
          have HCELL : Hid (∀ i, i < j + 1 → W1.cell? ⟨b, off + m + i, none⟩ = some (.int .i64 (row.getD i 0))) := by
            show ∀ i, _
            intro i hi
            obtain ⟨A3, c3, hv3, _, hc3⟩ := hwin
            obtain ⟨b3, off3, hA3, _, hcell3⟩ := hc3 (by omega)
            injection hv3 with e1 _ _
            rw [hA3] at e1
            injection e1 with e1
            injection e1 with e1 e2
            subst e1
            subst e2
            exact hcell3 i (by omega)
          obtain ⟨mm, hmm⟩ : ∃ mm, mm = mxF sumL 0 (wnL l (j + 1) m) := ⟨_, rfl⟩
          rw [← hmm] at hmb HMX ⊢
          have hjb : (j : Int) + 1 ≤ 40 := by omega
          clear hrow hwin hri hmm hrl
          go_wp2_with fail
          clear htn hsub
          go_loopg [31, 7] (j + 1) (fun g3 s31 s7 wx => ∃ i : Nat, i + g3 = j + 1 ∧ s31 = .int .i64 (i : Int) ∧ s7 = .int .i64 (sumL (row.take i)) ∧ W1 = wx)
          case atStart => exact ⟨0, by omega, rfl, rfl, rfl⟩
          case round =>
            obtain ⟨i, hig, rfl, rfl, rfl⟩ := hrel
            cases gk with
            | zero =>
              have hie : i = j + 1 := by omega
              have hz3 : ¬ ((i : Int) < (j : Int) + 1) := by omega
              have HSE : Hid (sumL (row.take i) = sumL row) := by show _ = _; rw [List.take_of_length_le (by rw [HRL.out]; omega)]
              have hsb : 0 ≤ sumL (row.take i) ∧ sumL (row.take i) ≤ 40000 := by rw [HSE.out]; exact hws
              obtain ⟨S, hS⟩ : ∃ S, S = sumL (row.take i) := ⟨_, rfl⟩
              rw [← hS] at hsb HSE ⊢
              rw [← HSE.out] at HMX
              have HMO := Lib.hid fun W => shMost_any mm S W
              clear hS hie
              go_wp2_with fail
              refine (HMO.out _).mono ?_; rintro e w' ⟨rfl, rfl⟩
              go_wp2_with fail
              go_roundg g2
              case measure => omega
              case rel => exact ⟨m + 1, by omega, by go_num, by rw [HMX.out], rfl⟩
            | succ g3 =>
              have hi3 : i < j + 1 := by omega
              have hz3 : (i : Int) < (j : Int) + 1 := by omega
              have hcx := HCELL.out i hi3
              have hra := HRA.out i hi3
              have hsb := HSB.out i (by rw [HRL.out]; omega)
              have HS1 := Lib.hid (HST.out i (by rw [HRL.out]; omega))
              have hib : (1000 : Int) * (i : Int) ≤ 40000 := by omega
              obtain ⟨x, hx⟩ : ∃ x, x = row.getD i 0 := ⟨_, rfl⟩
              rw [← hx] at hcx hra HS1
              obtain ⟨S, hS⟩ : ∃ S, S = sumL (row.take i) := ⟨_, rfl⟩
              rw [← hS] at hsb HS1 ⊢
              have hsb2 : 0 ≤ S ∧ S ≤ 40000 := by omega
              clear hx hS hsb hib
              go_wp2_with fail
              go_roundg g3
              case measure => omega
              case rel => exact ⟨i + 1, by omega, by go_num, by rw [HS1.out], rfl⟩
theorem specWindowsOf_any (v : Value) (l : List Int) (w : World) (h : RI w w.heap.size v l) (hn : l.length ≤ 1048576) :
    Calls Tryd.prog 16 #[v] w (RetLB 3 w (wnSays l).1 (wnSays l).2) := by
  have H1 := Lib.hid (shTraffic_any v l w h hn)
  cases hq : trOk l
  · rw [show wnSays l = ([], false) from by simp [wnSays, hq]]
    rw [hq] at H1
    clear hq h
    go_enter Tryd.func16, Tryd.ntmps16
    go_wp2_with fail
    refine H1.out.mono ?_; rintro e w' ⟨rfl, rfl⟩
    go_wp2_with fail
    go_ret2
    exact ⟨_, rfl, .inl ⟨rfl, none, 0, rfl, by simp, fun _ => rfl⟩, Below.refl _ _⟩
  · rw [show wnSays l = (wnT l l.length, true) from by simp [wnSays, hq]]
    have H2 := Lib.hid (shWindows_any v l w h hq)
    rw [hq] at H1
    clear hq h
    go_enter Tryd.func16, Tryd.ntmps16
    go_wp2_with fail
    refine H1.out.mono ?_; rintro e w' ⟨rfl, rfl⟩
    go_wp2_with fail
    refine H2.out.mono ?_; rintro e w2 ⟨u, rfl, ho, hb⟩
    go_wp2_with fail
    go_ret2
    exact ⟨_, rfl, ho, hb⟩
end Go.Proofs.YtfncajdhdcpooaaDoor
