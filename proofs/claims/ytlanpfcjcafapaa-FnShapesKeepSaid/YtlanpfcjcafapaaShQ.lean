/-
  Chapter 8: the model's DelayOfShape.
-/
import Derived.Test.YtlanpfcjcafapaaShO
namespace Go.Proofs.Ytlanpfcjcafapaa
open Go.RowKit
set_option maxRecDepth 100000
set_option linter.unusedVariables false

set_option maxHeartbeats 2000000 in
theorem shDelay_any (v u : Value) (l o : List Int) (w : World) (h : RI w w.heap.size v l) (h' : RI w w.heap.size u o) (hl : trOk l = true) (ho : ∀ y ∈ o, 0 ≤ y ∧ y ≤ 1000) (hn : o.length ≤ 100) :
    Calls Try.prog 69 #[v, u] w (RetV w (.int .i64 (dlN l o l.length))) := by
  have hlen := trOk_len hl
  have HS := Lib.hid (fun k hk => sumL_bound l 1000 (trOk_mem hl) k hk)
  have HO := Lib.hid (fun k hk => sumL_bound o 1000 ho k hk)
  have HAT := Lib.hid fun t => trOk_at hl t
  have HOA : Hid (∀ k, k < o.length → 0 ≤ o.getD k 0 ∧ o.getD k 0 ≤ 1000) := fun k hk => ho _ (by simp [List.getD, hk])
  have HDI := Lib.hid fun s => dlN_in l o hn s
  have hn' : (l.length : Int) ≤ 40 := by omega
  have hn2 : (o.length : Int) ≤ 100 := by omega
  obtain ⟨A, c, rfl, hlc, hc⟩ := h
  obtain ⟨A', c', rfl, hlc', hc'⟩ := h'
  have HC := Lib.hid hc
  have HC' := Lib.hid hc'
  clear hc hc' hl ho
  go_enter Try.func69, Try.ntmps69
  go_wp2_with fail
  go_loopg [13, 6, 5, 7, 8] l.length (fun g s13 s6 s5 s7 s8 wx => ∃ s T : Nat, s + g = l.length ∧ s13 = .int .i64 (s : Int) ∧ s6 = .int .i64 (sumL (l.take s)) ∧ s5 = .int .i64 (dlN l o s) ∧ s7 = .int .i64 (sumL (o.take T)) ∧ s8 = .int .i64 (T : Int) ∧ T ≤ o.length ∧ Hid (∀ m, m < T → goneP o m < sumL (l.take s)) ∧ w = wx)
  case atStart => exact ⟨0, 0, by omega, rfl, rfl, rfl, rfl, rfl, Nat.zero_le _, fun m hm => absurd hm (by omega), rfl⟩
  case round =>
    obtain ⟨s, T, hsg, rfl, rfl, rfl, rfl, rfl, hTo, HLO, rfl⟩ := hrel
    cases gk with
    | zero =>
      have hse : s = l.length := by omega
      have hz : ¬ ((l.length : Int) < (l.length : Int)) := by omega
      rw [hse]
      clear hse hsg
      go_wp2_with fail
      go_ret
      exact ⟨rfl, Below.refl _ _⟩
    | succ g =>
      have hs : s < l.length := by omega
      have hs' : (s : Int) < (l.length : Int) := by omega
      obtain ⟨b, off, rfl, hbB, hcell⟩ := HC.out (by omega)
      have hcx := hcell s hs
      have hat := HAT.out s
      have hsb := HS.out s (by omega)
      have hkb : (1000 : Int) * (s : Int) ≤ 40000 := by omega
      have HT := Lib.hid (sumL_take l s hs)
      have hdi := HDI.out s
      have HDL : Hid (dlN l o (s + 1) = if 0 < l.getD s 0 then max (dlN l o s) ((cutO o (sumL (l.take (s + 1))) : Nat) - (s : Int)) else dlN l o s) := rfl
      obtain ⟨a, ha⟩ : ∃ a, a = l.getD s 0 := ⟨_, rfl⟩
      rw [← ha] at hcx hat HT HDL
      obtain ⟨S, hS⟩ : ∃ S, S = sumL (l.take s) := ⟨_, rfl⟩
      rw [← hS] at hsb HT HLO ⊢
      obtain ⟨M, hM⟩ : ∃ M, M = dlN l o s := ⟨_, rfl⟩
      rw [← hM] at hdi HDL ⊢
      have hs2 : 0 ≤ S ∧ S ≤ 40000 := by omega
      have hob := HO.out T hTo
      have hTb : (1000 : Int) * (T : Int) ≤ 100000 := by omega
      obtain ⟨Q, hQ⟩ : ∃ Q, Q = sumL (o.take T) := ⟨_, rfl⟩
      rw [← hQ] at hob ⊢
      have HQ := Lib.hid hQ
      have hq2 : 0 ≤ Q ∧ Q ≤ 100000 := by omega
      clear ha hS hM hcell hsb hkb hob hTb
      have hTi : (T : Int) ≤ 100 := by omega
      by_cases ha0 : 0 < a
      · rw [if_pos ha0] at HDL
        have hane : ¬ (a = 0) := by omega
        have haneb : (a == 0) = false := by simpa using hane
        obtain ⟨CM, hCM⟩ : ∃ CM, CM = S + a := ⟨_, rfl⟩
        have hCMb : 0 ≤ CM ∧ CM ≤ 50000 := by omega
        have HTC : Hid (sumL (l.take (s + 1)) = CM) := by show _ = _; rw [HT.out, hCM]
        have HLO2 : Hid (∀ m, m < T → goneP o m < CM) := fun m hm => by have := HLO.out m hm; omega
        rw [HTC.out] at HDL
        clear hQ
        go_wp2_with fail
        rw [← hCM]
        clear hCM
        go_loopg [8, 7] (o.length - T) (fun g2 s8 s7 wx => ∃ T2 : Nat, T2 + g2 = o.length ∧ s8 = .int .i64 (T2 : Int) ∧ s7 = .int .i64 (sumL (o.take T2)) ∧ Hid (∀ m, m < T2 → goneP o m < CM) ∧ w = wx)
        case atStart => exact ⟨T, by omega, rfl, by first | rfl | rw [HQ.out], HLO2.out, rfl⟩
        case round =>
          clear HLO HLO2 HQ hTo hTi hq2
          obtain ⟨T2, hTg, rfl, rfl, HLO3, rfl⟩ := hrel
          have hT2o : T2 ≤ o.length := by omega
          have hob := HO.out T2 hT2o
          have hTb : (1000 : Int) * (T2 : Int) ≤ 100000 := by omega
          have hTi : (T2 : Int) ≤ 100 := by omega
          cases gk with
          | zero =>
            have hte : T2 = o.length := by omega
            have hz : ¬ ((T2 : Int) < (o.length : Int)) := by omega
            have HCUT : Hid (cutO o CM = T2) := cutO_is hT2o HLO3.out (fun h => absurd h (by omega))
            rw [HCUT.out] at HDL
            obtain ⟨Q, hQ⟩ : ∃ Q, Q = sumL (o.take T2) := ⟨_, rfl⟩
            rw [← hQ] at hob ⊢
            have HMO := Lib.hid fun W => shMost_any M ((T2 : Int) - (s : Int)) W
            clear hte hTb
            go_wp2_with fail
            refine (HMO.out _).mono ?_; rintro e w' ⟨rfl, rfl⟩
            go_wp2_with fail
            go_roundg g
            case measure => omega
            case rel => exact ⟨s + 1, T2, by omega, by go_num, by rw [HTC.out], by rw [HDL.out], by first | rfl | rw [hQ], rfl, hT2o, (by rw [HTC.out]; exact HLO3.out), rfl⟩
          | succ g2 =>
            have hT2 : T2 < o.length := by omega
            have hT2' : (T2 : Int) < (o.length : Int) := by omega
            obtain ⟨b2, off2, rfl, hbB2, hcell2⟩ := HC'.out (by omega)
            have hcy := hcell2 T2 hT2
            have hoa := HOA.out T2 hT2
            have HTO := Lib.hid (sumL_take o T2 hT2)
            have HGP : Hid (goneP o T2 = sumL (o.take (T2 + 1))) := rfl
            obtain ⟨y, hy⟩ : ∃ y, y = o.getD T2 0 := ⟨_, rfl⟩
            rw [← hy] at hcy hoa HTO
            obtain ⟨Q, hQ⟩ : ∃ Q, Q = sumL (o.take T2) := ⟨_, rfl⟩
            rw [← hQ] at hob HTO ⊢
            have hQ2 : 0 ≤ Q ∧ Q ≤ 100000 := by omega
            have HQQ := Lib.hid hQ
            clear hy hQ hcell2 hob hTb
            by_cases hlt : Q + y < CM
            · have HLO4 : Hid (∀ m, m < T2 + 1 → goneP o m < CM) := fun m hm => by
                by_cases e : m = T2
                · rw [e, HGP.out, HTO.out]; exact hlt
                · exact HLO3.out m (by omega)
              go_wp2_with fail
              go_roundg g2
              case measure => omega
              case rel => exact ⟨T2 + 1, by omega, by go_num, by rw [HTO.out], HLO4.out, rfl⟩
            · have hge : CM ≤ Q + y := by omega
              have HCUT : Hid (cutO o CM = T2) := cutO_is hT2o HLO3.out (fun _ => by rw [HGP.out, HTO.out]; exact hge)
              rw [HCUT.out] at HDL
              have HMO := Lib.hid fun W => shMost_any M ((T2 : Int) - (s : Int)) W
              go_wp2_with fail
              refine (HMO.out _).mono ?_; rintro e w' ⟨rfl, rfl⟩
              go_wp2_with fail
              go_roundg g
              case measure => omega
              case rel => exact ⟨s + 1, T2, by omega, by go_num, by rw [HTC.out], by rw [HDL.out], by first | rfl | rw [HQQ.out], rfl, hT2o, (by rw [HTC.out]; exact HLO3.out), rfl⟩
      · rw [if_neg ha0] at HDL
        have ha1 : a = 0 := by omega
        subst ha1
        have HTE : Hid (sumL (l.take (s + 1)) = S) := by show _ = _; rw [HT.out]; omega
        go_wp2_with fail
        go_roundg g
        case measure => omega
        case rel => exact ⟨s + 1, T, by omega, by go_num, by rw [HTE.out], by rw [HDL.out], by first | rfl | rw [HQ.out], rfl, hTo, (by rw [HTE.out]; exact HLO.out), rfl⟩
theorem optD_is {x : Bu} {l : List Int} {n : Nat} (h : snRg x l = some n) : optD x l (snRg x l) = (dlN l (snT x l n) l.length, true) := by rw [h]; rfl
set_option maxHeartbeats 1000000 in
theorem specDelayOfShape_any (v : Value) (x : Bu) (l : List Int) (w : World) (h : RI w w.heap.size v l) (hn : l.length ≤ 1048576) :
    Calls Try.prog 55 #[BuV x, v] w (RetV w (.tuple #[.int .i64 (delSays x l).1, .bool (delSays x l).2])) := by
  have H1 : Hid (∀ w', Below w.heap.size w w' → Calls Try.prog 88 #[BuV x, v] w' (RetV w' (.bool (askOk x l)))) := fun w' hb => shAsk_any x v l w' ((h.below hb).more hb.size) hn
  cases hg : askOk x l
  · rw [show delSays x l = (0, false) from by simp [delSays, hg]]
    rw [hg] at H1
    clear h hg
    obtain ⟨r, d⟩ := x
    simp only [BuV] at H1 ⊢
    have hW : Below w.heap.size w (w.alloc (.cells #[.int .i64 r, .int .i64 d] 36)) := (Below.refl _ _).alloc (Nat.le_refl _) _
    go_enter Try.func55, Try.ntmps55
    go_wp2_with fail
    refine (H1.out _ hW).mono ?_; rintro e w1 ⟨rfl, hb⟩
    have hT := hW.trans (hb.mono hW.size)
    go_wp2_with fail
    go_ret2
    exact ⟨rfl, hT⟩
  have hq := askOk_in hg
  rw [show delSays x l = optD x l (snRg x l) from by simp [delSays, hg]]
  rw [hg] at H1
  have H2 : Hid (∀ W, Below w.heap.size w W → Calls Try.prog 99 #[.int .i64 x.r, .int .i64 x.d, v] W fun e w' => ∃ u1 u2, e = .returned (.tuple #[u1, u2, .bool (outO x l (snRg x l)).2]) ∧ OI 3 w' W.heap.size w'.heap.size u1 (outO x l (snRg x l)).1 ∧ OI 3 w' W.heap.size w'.heap.size u2 (outB x l (snRg x l)) ∧ Below W.heap.size W w') :=
    fun W hb => shSend_any v x l W ((h.below hb).more hb.size) hq.1 hq.2
  generalize outB x l (snRg x l) = LB at H2
  cases hr : snRg x l with
  | none =>
    rw [show optD x l none = (0, false) from rfl]
    rw [hr] at H2
    simp only [outO] at H2
    clear h hg hq hr
    obtain ⟨r, d⟩ := x
    simp only [BuV] at H1 H2 ⊢
    have hW : Below w.heap.size w (w.alloc (.cells #[.int .i64 r, .int .i64 d] 36)) := (Below.refl _ _).alloc (Nat.le_refl _) _
    have hbk := BK.made w 36 #[.int .i64 r, .int .i64 d]
    go_enter Try.func55, Try.ntmps55
    go_wp2_with fail
    refine (H1.out _ hW).mono ?_; rintro e w1 ⟨rfl, hb⟩
    have hT := hW.trans (hb.mono hW.size)
    have hbk1 := hbk.step hb
    have c0 := hbk1.cell 0
    have c1 := hbk1.cell 1
    simp at c0 c1
    have HT := Lib.hid hT
    clear hbk hbk1 hb hT
    go_wp2_with fail
    refine (H2.out _ HT.out).mono ?_; rintro e w2 ⟨u1, u2, rfl, ho1, ho2, hb2⟩
    have HT2 := Lib.hid (HT.out.trans (hb2.mono HT.out.size))
    have HO1 := Lib.hid ho1.ri
    clear ho1 ho2 hb2
    go_wp2_with fail
    go_ret2
    exact ⟨rfl, HT2.out⟩
  | some n =>
    rw [show optD x l (some n) = (dlN l (snT x l n) l.length, true) from rfl]
    rw [hr] at H2
    simp only [outO] at H2
    have hn100 := snRg_le hr
    have H3 : Hid (∀ W u, Below w.heap.size w W → RI W W.heap.size u (snT x l n) → Calls Try.prog 69 #[v, u] W (RetV W (.int .i64 (dlN l (snT x l n) l.length)))) := fun W u hb hu => shDelay_any v u l (snT x l n) W ((h.below hb).more hb.size) hu hq.2 (snT_mem hq.1 hq.2 n) (by rw [snT_length]; exact hn100)
    generalize dlN l (snT x l n) l.length = M at H3 ⊢
    generalize snT x l n = LO at H2 H3
    clear h hg hq hr
    obtain ⟨r, d⟩ := x
    simp only [BuV] at H1 H2 ⊢
    have hW : Below w.heap.size w (w.alloc (.cells #[.int .i64 r, .int .i64 d] 36)) := (Below.refl _ _).alloc (Nat.le_refl _) _
    have hbk := BK.made w 36 #[.int .i64 r, .int .i64 d]
    go_enter Try.func55, Try.ntmps55
    go_wp2_with fail
    refine (H1.out _ hW).mono ?_; rintro e w1 ⟨rfl, hb⟩
    have hT := hW.trans (hb.mono hW.size)
    have hbk1 := hbk.step hb
    have c0 := hbk1.cell 0
    have c1 := hbk1.cell 1
    simp at c0 c1
    have HT := Lib.hid hT
    clear hbk hbk1 hb hT
    go_wp2_with fail
    refine (H2.out _ HT.out).mono ?_; rintro e w2 ⟨u1, u2, rfl, ho1, ho2, hb2⟩
    have HT2 := Lib.hid (HT.out.trans (hb2.mono HT.out.size))
    have HO1 := Lib.hid ho1.ri
    clear ho1 ho2 hb2
    have HC := Lib.hid (H3.out w2 u1 HT2.out HO1.out)
    go_wp2_with fail
    refine HC.out.mono ?_; rintro e w3 ⟨rfl, hb3⟩
    have HT3 := Lib.hid (HT2.out.trans (hb3.mono HT2.out.size))
    clear hb3
    go_wp2_with fail
    go_ret2
    exact ⟨rfl, HT3.out⟩

end Go.Proofs.Ytlanpfcjcafapaa
