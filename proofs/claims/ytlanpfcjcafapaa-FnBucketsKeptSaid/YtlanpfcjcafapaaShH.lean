/-
  Chapter 8: the model's FirstBreach, and the contracts of LeastDepth, both sides.
-/
import Derived.Test.YtlanpfcjcafapaaShG
namespace Go.Proofs.Ytlanpfcjcafapaa
open Go.RowKit
set_option maxRecDepth 100000
set_option linter.unusedVariables false

set_option maxHeartbeats 2000000 in
theorem specFirstBreach_any (v : Value) (x : Bu) (l : List Int) (w : World) (h : RI w w.heap.size v l) (hn : l.length ≤ 1048576) :
    Calls Try.prog 38 #[BuV x, v] w (RetLB 3 w (brSays x l).1 (brSays x l).2) := by
  have H1 : Hid (∀ w', Below w.heap.size w w' → Calls Try.prog 88 #[BuV x, v] w' (RetV w' (.bool (askOk x l)))) := fun w' hb => shAsk_any x v l w' ((h.below hb).more hb.size) hn
  cases hg : askOk x l
  · rw [show brSays x l = ([], false) from by simp [brSays, hg]]
    rw [hg] at H1
    clear h hg
    obtain ⟨r, d⟩ := x
    simp only [BuV] at H1 ⊢
    have hW : Below w.heap.size w (w.alloc (.cells #[.int .i64 r, .int .i64 d] 36)) := (Below.refl _ _).alloc (Nat.le_refl _) _
    go_enter Try.func38, Try.ntmps38
    go_wp2_with fail
    refine (H1.out _ hW).mono ?_; rintro e w1 ⟨rfl, hb⟩
    have hT := hW.trans (hb.mono hW.size)
    go_wp2_with fail
    go_ret2
    exact ⟨_, rfl, .inl ⟨rfl, none, 0, rfl, by simp, fun _ => rfl⟩, hT⟩
  have hq := (askOk_in hg).2
  have hbu := buOk_in (askOk_in hg).1
  have hlen := trOk_len hq
  have hn' : (l.length : Int) ≤ 40 := by omega
  have HAT := Lib.hid fun k => trOk_at hq k
  have HSB := Lib.hid fun t k => sumB_in hq t k
  have HIN : Hid (∀ t k, t < l.length → k ≤ t → StIn (stB l t k)) := fun t k h1 h2 => stB_in hq h1 h2
  rw [show brSays x l = optS ((stA l l.length).find? (brP x)) from by simp [brSays, hg]]
  rw [hg] at H1
  obtain ⟨R, hR⟩ : ∃ R, R = optS ((stA l l.length).find? (brP x)) := ⟨_, rfl⟩
  rw [← hR]
  have HR := Lib.hid hR
  obtain ⟨A, c, rfl, hlc, hc⟩ := h
  have HC := Lib.hid hc
  clear hg hq hR hc
  obtain ⟨r, d⟩ := x
  simp only [BuV] at H1 hbu ⊢
  have HRR := Lib.hid hbu.1
  have hd9 := hbu.2
  clear hbu
  have hW : Below w.heap.size w (w.alloc (.cells #[.int .i64 r, .int .i64 d] 36)) := (Below.refl _ _).alloc (Nat.le_refl _) _
  have hbk := BK.made w 36 #[.int .i64 r, .int .i64 d]
  go_enter Try.func38, Try.ntmps38
  go_wp2_with fail
  refine (H1.out _ hW).mono ?_; rintro e w1 ⟨rfl, hb⟩
  have hT := hW.trans (hb.mono hW.size)
  have HBK := Lib.hid (hbk.step hb)
  have HT := Lib.hid hT
  have HCW : Hid (∀ b off, b < w.heap.size → ∀ j, w.cell? ⟨b, off + j, none⟩ = some (.int .i64 (l.getD j 0)) → w1.cell? ⟨b, off + j, none⟩ = some (.int .i64 (l.getD j 0))) := fun b off hb j hj => (HT.out.cell (p := ⟨b, off + j, none⟩) hb).trans hj
  have hsz1 := hT.size
  clear hbk hb hT
  go_wp2_with fail
  go_loopg [15] l.length (fun g s15 wx => ∃ t : Nat, t + g = l.length ∧ s15 = .int .i64 t ∧ (stA l t).find? (brP ⟨r, d⟩) = none ∧ Below w1.heap.size w1 wx)
  case atStart => exact ⟨0, by omega, rfl, rfl, Below.refl _ _⟩
  case round =>
    obtain ⟨t, htg, rfl, hnone, hb⟩ := hrel
    have HN := Lib.hid hnone
    have HB := Lib.hid hb
    clear hnone hb
    cases gk with
    | zero =>
      have hte : t = l.length := by omega
      have hz : ¬ ((t : Int) < (l.length : Int)) := by omega
      have HRE : Hid (R = ([], false)) := by
        show _ = _
        rw [HR.out, ← hte, HN.out]
        rfl
      clear hte
      go_wp2_with fail
      go_ret2
      rw [HRE.out]
      exact ⟨_, rfl, .inl ⟨rfl, none, 0, rfl, by simp, fun _ => rfl⟩, HT.out.trans (HB.out.mono HT.out.size)⟩
    | succ g =>
      have ht : t < l.length := by omega
      have ht' : (t : Int) < (l.length : Int) := by omega
      go_wp2_with fail
      go_loopg [8, 7] (t + 1) (fun g2 s8 s7 wx => ∃ k : Nat, k + g2 = t + 1 ∧ s8 = .int .i64 ((t : Int) - k) ∧ s7 = .int .i64 (sumB l t k) ∧ (stTo l t k).find? (brP ⟨r, d⟩) = none ∧ Below w1.heap.size w1 wx)
      case atStart => exact ⟨0, by omega, by simp, rfl, by rw [stTo_zero]; exact HN.out, HB.out⟩
      case round =>
        clear HN HB
        obtain ⟨k, hkg, rfl, rfl, hnone, hb⟩ := hrel
        have HN := Lib.hid hnone
        have HB := Lib.hid hb
        clear hnone hb
        cases gk with
        | zero =>
          have hke : k = t + 1 := by omega
          rw [hke, stTo_all] at HN
          have hz : ¬ (0 ≤ (t : Int) - (k : Int)) := by omega
          go_wp2_with fail
          go_roundg g
          case measure => omega
          case rel => exact ⟨t + 1, by omega, by go_num, HN.out, HB.out⟩
        | succ g3 =>
          have hk : k ≤ t := by omega
          have hk0 : 0 ≤ (t : Int) - (k : Int) := by omega
          have hk1 : (t : Int) - (k : Int) < (l.length : Int) := by omega
          obtain ⟨b, off, rfl, hbB, hcell⟩ := HC.out (by omega)
          have hcx := (HB.out.cell (p := ⟨b, off + (t - k), none⟩) (show b < w1.heap.size by omega)).trans (HCW.out b off hbB (t - k) (hcell (t - k) (by omega)))
          have htn : ((t : Int) - (k : Int)).toNat = t - k := by omega
          have hin := HAT.out (t - k)
          have hs := HSB.out t k
          have hsb : (1000 : Int) * (k : Int) ≤ 40000 := by omega
          have HSUM : Hid (sumB l t (k + 1) = sumB l t k + l.getD (t - k) 0) := rfl
          have HSTB : Hid (stB l t k = ⟨(t : Int) - k, t, sumB l t (k + 1)⟩) := rfl
          have HSUC := Lib.hid (stTo_succ l t k)
          have HNB := Lib.hid (HIN.out t k ht hk)
          have hnb := need_bd HRR.out HNB.out
          have hns := needS_in (x := stB l t k) HRR.out HNB.out
          simp only [stB] at hnb
          clear hcell
          obtain ⟨y, hy⟩ : ∃ y, y = l.getD (t - k) 0 := ⟨_, rfl⟩
          rw [← hy] at hcx hin HSUM
          obtain ⟨s, hs9⟩ : ∃ s, s = sumB l t k := ⟨_, rfl⟩
          rw [← hs9] at hs HSUM ⊢
          have hs2 : 0 ≤ s ∧ s ≤ 40000 := by omega
          clear hy hs9 hs hsb
          have HND : Hid (needS r (stB l t k) = (s + y) - r * ((t : Int) - ((t : Int) - (k : Int)))) := by
            show _ = _
            rw [HSTB.out, HSUM.out]
            rfl
          have hbk := HBK.out.step HB.out
          have c0 := hbk.cell 0
          have c1 := hbk.cell 1
          simp at c0 c1
          have hbrp : brP ⟨r, d⟩ (stB l t k) = decide (d < (s + y) - r * ((t : Int) - ((t : Int) - (k : Int)))) := by rw [← HND.out]; rfl
          have HBR := Lib.hid hbrp
          obtain ⟨m, hm⟩ : ∃ m, m = r * ((t : Int) - ((t : Int) - (k : Int))) := ⟨_, rfl⟩
          rw [← hm] at hnb HBR
          have HM := Lib.hid hm
          have HRR2 := HRR.out
          clear hbk hbrp hns
          by_cases hdn : d + m < s + y
          · have HRE : Hid (R = ([(t : Int) - (k : Int), (t : Int)], true)) := by
              show _ = _
              obtain ⟨M, hM⟩ := stTo_pre l ht (show k + 1 ≤ t + 1 by omega)
              rw [HR.out, hM, HSUC.out, find_pre HN.out (by rw [HBR.out]; simp; omega), HSTB.out]
              rfl
            have HGT : Hid (d + r * ((t : Int) - ((t : Int) - (k : Int))) < s + y) := by show _ < _; rw [← HM.out]; exact hdn
            have hg1 := HGT.out
            rw [hm] at hnb
            clear hm hdn
            go_wp2_with fail
            go_ret2
            rw [HRE.out]
            have hT6 := HT.out.trans (HB.out.mono HT.out.size)
            exact ⟨_, rfl, .inr ⟨_, 2, rfl, hT6.size, by simp, ⟨rfl, .inr ⟨_, 2, _, rfl, hT6.size, heap_alloc_new _ _, Nat.le_refl _, by unfold maxLen; omega, rfl, rfl⟩⟩⟩, hT6.alloc hT6.size _⟩
          · have HN2 : Hid ((stTo l t (k + 1)).find? (brP ⟨r, d⟩) = none) := by
              show _ = _
              rw [HSUC.out]
              exact find_snoc HN.out (by rw [HBR.out]; simp; omega)
            have HGT : Hid (¬ (d + r * ((t : Int) - ((t : Int) - (k : Int))) < s + y)) := by show ¬ _; rw [← HM.out]; exact hdn
            have hg1 := HGT.out
            rw [hm] at hnb
            clear hm hdn
            go_wp2_with fail
            go_roundg g3
            case measure => omega
            case rel => exact ⟨k + 1, by omega, by go_num, by rw [HSUM.out], HN2.out, HB.out⟩
theorem depN_in {r : Int} {l : List Int} (hr : 1 ≤ r ∧ r ≤ 100) (hl : trOk l = true) {t k : Nat} (ht : t < l.length) (hk : k ≤ t + 1) : 1 ≤ mxF (needS r) 1 (stTo l t k) ∧ mxF (needS r) 1 (stTo l t k) ≤ 40000 :=
  mxF_in (by omega) fun x hx => by
    rcases List.mem_append.1 hx with h | h
    · exact (needS_in hr (stA_in hl (Nat.le_of_lt ht) x h)).2
    · exact (needS_in hr (stI_in hl ht hk x h)).2
theorem depA_in {r : Int} {l : List Int} (hr : 1 ≤ r ∧ r ≤ 100) (hl : trOk l = true) : 1 ≤ depN r l ∧ depN r l ≤ 40000 :=
  mxF_in (by omega) fun x hx => (needS_in hr (stA_in hl (Nat.le_refl _) x hx)).2
set_option maxHeartbeats 2000000 in
theorem specLeastDepth_any (v : Value) (r : Int) (l : List Int) (w : World) (h : RI w w.heap.size v l) (hn : l.length ≤ 1048576) (hx : (Lit.int .i64 r).wf = true) :
    Calls Try.prog 42 #[.int .i64 r, v] w (RetV w (.tuple #[.int .i64 (depSays r l).1, .bool (depSays r l).2])) := by
  have H1 := Lib.hid (specRate_any r w)
  have H2 := Lib.hid (shTraffic_any v l w h hn)
  cases g1 : wi r 1 100
  · rw [show depSays r l = (0, false) from by simp [depSays, g1]]
    rw [g1] at H1
    clear g1 h
    go_enter Try.func42, Try.ntmps42
    go_wp2_with fail
    refine H1.out.mono ?_; rintro e w' ⟨rfl, rfl⟩
    go_wp2_with fail
    go_ret2
    exact ⟨rfl, Below.refl _ _⟩
  cases hq : trOk l
  · rw [show depSays r l = (0, false) from by simp [depSays, hq]]
    rw [g1] at H1
    rw [hq] at H2
    clear g1 hq h
    go_enter Try.func42, Try.ntmps42
    go_wp2_with fail
    refine H1.out.mono ?_; rintro e w' ⟨rfl, rfl⟩
    go_wp2_with fail
    refine H2.out.mono ?_; rintro e w' ⟨rfl, rfl⟩
    go_wp2_with fail
    go_ret2
    exact ⟨rfl, Below.refl _ _⟩
  have hrr : 1 ≤ r ∧ r ≤ 100 := by simpa [wi] using g1
  have hlen := trOk_len hq
  have hn' : (l.length : Int) ≤ 40 := by omega
  have HAT := Lib.hid fun k => trOk_at hq k
  have HSB := Lib.hid fun t k => sumB_in hq t k
  have HIN : Hid (∀ t k, t < l.length → k ≤ t → StIn (stB l t k)) := fun t k h1 h2 => stB_in hq h1 h2
  rw [show depSays r l = (if depN r l ≤ 1000 then (depN r l, true) else (0, false)) from by simp [depSays, g1, hq]]
  rw [g1] at H1
  rw [hq] at H2
  have HDI : Hid (∀ t k, t < l.length → k ≤ t + 1 → 1 ≤ mxF (needS r) 1 (stTo l t k) ∧ mxF (needS r) 1 (stTo l t k) ≤ 40000) := fun t k h1 h2 => depN_in hrr hq h1 h2
  have HDA := Lib.hid (depA_in hrr hq)
  obtain ⟨R, hR⟩ : ∃ R, R = (if depN r l ≤ 1000 then (depN r l, true) else (0, false)) := ⟨_, rfl⟩
  rw [← hR]
  have HR := Lib.hid hR
  have HRR := Lib.hid hrr
  obtain ⟨A, c, rfl, hlc, hc⟩ := h
  have HC := Lib.hid hc
  have HCW : Hid (∀ b off, b < w.heap.size → ∀ j, w.cell? ⟨b, off + j, none⟩ = some (.int .i64 (l.getD j 0)) → w.cell? ⟨b, off + j, none⟩ = some (.int .i64 (l.getD j 0))) := fun b off hb j hj => hj
  clear g1 hq hR hc hx
  go_enter Try.func42, Try.ntmps42
  go_wp2_with fail
  refine H1.out.mono ?_; rintro e w' ⟨rfl, rfl⟩
  go_wp2_with fail
  refine H2.out.mono ?_; rintro e w' ⟨rfl, rfl⟩
  go_wp2_with fail
  go_loopg [20, 6] l.length (fun g s20 s6 wx => ∃ t : Nat, t + g = l.length ∧ s20 = .int .i64 t ∧ s6 = .int .i64 (mxF (needS r) 1 (stA l t)) ∧ Below w.heap.size w wx)
  case atStart => exact ⟨0, by omega, rfl, rfl, Below.refl _ _⟩
  case round =>
    obtain ⟨t, htg, rfl, rfl, hb⟩ := hrel
    have HB := Lib.hid hb
    clear hb
    cases gk with
    | zero =>
      have hte : t = l.length := by omega
      have hz : ¬ ((l.length : Int) < (l.length : Int)) := by omega
      have hda := HDA.out
      rw [hte]
      have hde : mxF (needS r) 1 (stA l l.length) = depN r l := rfl
      rw [hde]
      have HRS := HR
      clear hte hde htg
      generalize depN r l = D at hda HRS ⊢
      by_cases hD : D ≤ 1000
      · have HRE : Hid (R = (D, true)) := by show _ = _; rw [HRS.out, if_pos hD]
        have hD2 : ¬ (1000 < D) := by omega
        go_wp2_with fail
        go_ret2
        rw [HRE.out]
        exact ⟨rfl, HB.out⟩
      · have HRE : Hid (R = (0, false)) := by show _ = _; rw [HRS.out, if_neg hD]
        have hD2 : 1000 < D := by omega
        go_wp2_with fail
        go_ret2
        rw [HRE.out]
        exact ⟨rfl, HB.out⟩
    | succ g =>
      have ht : t < l.length := by omega
      have ht' : (t : Int) < (l.length : Int) := by omega
      go_wp2_with fail
      go_loopg [9, 8, 6] (t + 1) (fun g2 s9 s8 s6 wx => ∃ k : Nat, k + g2 = t + 1 ∧ s9 = .int .i64 ((t : Int) - k) ∧ s8 = .int .i64 (sumB l t k) ∧ s6 = .int .i64 (mxF (needS r) 1 (stTo l t k)) ∧ Below w.heap.size w wx)
      case atStart => exact ⟨0, by omega, by simp, rfl, by rw [stTo_zero], HB.out⟩
      case round =>
        clear HB
        obtain ⟨k, hkg, rfl, rfl, rfl, hb⟩ := hrel
        have HB := Lib.hid hb
        clear hb
        cases gk with
        | zero =>
          have hke : k = t + 1 := by omega
          have hz : ¬ (0 ≤ (t : Int) - (k : Int)) := by omega
          have HME : Hid (mxF (needS r) 1 (stTo l t k) = mxF (needS r) 1 (stA l (t + 1))) := by show _ = _; rw [hke, stTo_all]
          clear hke
          generalize mxF (needS r) 1 (stTo l t k) = mm at HME ⊢
          go_wp2_with fail
          go_roundg g
          case measure => omega
          case rel => exact ⟨t + 1, by omega, by go_num, by rw [HME.out], HB.out⟩
        | succ g3 =>
          have hk : k ≤ t := by omega
          have hk0 : 0 ≤ (t : Int) - (k : Int) := by omega
          have hk1 : (t : Int) - (k : Int) < (l.length : Int) := by omega
          obtain ⟨b, off, rfl, hbB, hcell⟩ := HC.out (by omega)
          have hcx := (HB.out.cell (p := ⟨b, off + (t - k), none⟩) (show b < w.heap.size by omega)).trans (HCW.out b off hbB (t - k) (hcell (t - k) (by omega)))
          have htn : ((t : Int) - (k : Int)).toNat = t - k := by omega
          have hin := HAT.out (t - k)
          have hs := HSB.out t k
          have hsb : (1000 : Int) * (k : Int) ≤ 40000 := by omega
          have HSUM : Hid (sumB l t (k + 1) = sumB l t k + l.getD (t - k) 0) := rfl
          have HSTB : Hid (stB l t k = ⟨(t : Int) - k, t, sumB l t (k + 1)⟩) := rfl
          have HSUC := Lib.hid (stTo_succ l t k)
          have HNB := Lib.hid (HIN.out t k ht hk)
          have hnb := need_bd HRR.out HNB.out
          have hns := needS_in (x := stB l t k) HRR.out HNB.out
          simp only [stB] at hnb
          clear hcell
          obtain ⟨y, hy⟩ : ∃ y, y = l.getD (t - k) 0 := ⟨_, rfl⟩
          rw [← hy] at hcx hin HSUM
          obtain ⟨s, hs9⟩ : ∃ s, s = sumB l t k := ⟨_, rfl⟩
          rw [← hs9] at hs HSUM ⊢
          have hs2 : 0 ≤ s ∧ s ≤ 40000 := by omega
          clear hy hs9 hs hsb
          have HND : Hid (needS r (stB l t k) = (s + y) - r * ((t : Int) - ((t : Int) - (k : Int)))) := by
            show _ = _
            rw [HSTB.out, HSUM.out]
            rfl
          have hdi := HDI.out t k ht (by omega)
          have HMX : Hid (mxF (needS r) 1 (stTo l t (k + 1)) = max (mxF (needS r) 1 (stTo l t k)) ((s + y) - r * ((t : Int) - ((t : Int) - (k : Int))))) := by
            show _ = _
            rw [HSUC.out, mxF_snoc, HND.out]
          obtain ⟨mm, hmm⟩ : ∃ mm, mm = mxF (needS r) 1 (stTo l t k) := ⟨_, rfl⟩
          rw [← hmm] at hdi HMX ⊢
          have HMO := Lib.hid fun W => shMost_any mm ((s + y) - r * ((t : Int) - ((t : Int) - (k : Int)))) W
          clear hmm hns
          go_wp2_with fail
          refine (HMO.out _).mono ?_; rintro e w' ⟨rfl, rfl⟩
          go_wp2_with fail
          go_roundg g3
          case measure => omega
          case rel => exact ⟨k + 1, by omega, by go_num, by rw [HSUM.out], by rw [HMX.out], HB.out⟩
end Go.Proofs.Ytlanpfcjcafapaa
