/-
  The walk that wraps: the contracts of the model's riTurn and WrapFrom.
-/
import Derived.Test.YtffmpkdkifecpaaRStep
import Derived.Test.YtffmpkdkifecpaaMathWrap
import Derived.Test.YtffmpkdkifecpaaAcc
import Derived.Test.YtffmpkdkifecpaaCat
import Derived.Deep.RegionWith
import Derived.Deep.LoopGhost
import Derived.Deep.DeepCutAuto
import Derived.RegionTactic
import Derived.BigRegion
import Derived.Deep.QuietTactic
import Derived.BigQuiet
import Derived.Deep.RegionHeld3
namespace Go.Proofs.Ytffmpkdkifecpaa
open Go.RowKit
set_option maxRecDepth 100000
set_option linter.unusedVariables false

/-- What both sides give. -/
def wrapRg (x : Rg) (s : Int) : List Int × Bool :=
  if isRg x && wi s 0 (x.k - 1) then (if aloneW x.d x.k s then [s] else passW x.d x.k s (lenW x.d x.k.toNat s), true) else ([], false)
theorem wrapRg_no {x : Rg} {s : Int} (h : (isRg x && wi s 0 (x.k - 1)) = false) : wrapRg x s = ([], false) := by simp only [wrapRg, h]; rfl
theorem wrapRg_alone {x : Rg} {s : Int} (h : (isRg x && wi s 0 (x.k - 1)) = true) (ha : aloneW x.d x.k s = true) : wrapRg x s = ([s], true) := by simp only [wrapRg, h, ha, if_true]
theorem wrapRg_yes {x : Rg} {s : Int} (h : (isRg x && wi s 0 (x.k - 1)) = true) (ha : aloneW x.d x.k s = false) : wrapRg x s = (passW x.d x.k s (lenW x.d x.k.toNat s), true) := by simp only [wrapRg, h, ha, if_true]; rfl
theorem wrapRg_len (x : Rg) (s : Int) : (wrapRg x s).1.length ≤ 1048576 := by
  cases h : (isRg x && wi s 0 (x.k - 1))
  · rw [wrapRg_no h]; simp
  · cases ha : aloneW x.d x.k s
    · rw [wrapRg_yes h ha]
      rw [Bool.and_eq_true] at h
      have hk := isRg_k h.1
      have hs : 0 ≤ s ∧ s ≤ x.k - 1 := by simpa [wi] using h.2
      have e : x.k = ((x.k.toNat : Nat) : Int) := by omega
      have := (lenW_end (d := x.d) (K := x.k.toNat) (s := s) (by omega) (by omega) (by rw [← e]; exact ha)).1
      rw [passW_len]
      omega
    · rw [wrapRg_alone h ha]; simp

theorem riTurn_any (v : Value) (x : Rg) (a : Int) (f : Bool) (w : World) (h : RRg w w.heap.size v x) (hk : 2 ≤ x.k ∧ x.k ≤ 12) (ha : 0 ≤ a ∧ a < x.k) (hn : x.d.length ≤ 1048576) :
    Calls Try.prog 40 #[v, .int .i64 a, .bool f] w (RetV w (.bool (turnW x.d x.k a f))) := by
  obtain ⟨sv, rfl, h⟩ := h
  obtain ⟨k, d⟩ := x
  simp only [RgV] at h hk ha hn ⊢
  have h3 := h
  obtain ⟨A, c, rfl, hlc, hc⟩ := h
  clear hc
  have hB0 := BK.made w 26 #[.int .i64 k, .slice A d.length c]
  have hW : Below w.heap.size w (w.alloc (.cells #[.int .i64 k, .slice A d.length c] 26)) := (Below.refl _ _).alloc (Nat.le_refl _) _
  have h4 := (h3.below hW).more hW.size
  cases f
  · have e1 : turnW d k a false = hasI d (bf k a) := by unfold turnW; simp only [Bool.false_eq_true, if_false]; cases hasI d (bf k a) <;> rfl
    rw [e1]
    obtain ⟨z, hz⟩ : ∃ z, z = bf k a := ⟨_, rfl⟩
    rw [← hz]
    have HZ := Lib.hid hz
    clear hz
    go_enter Try.func40, Try.ntmps40
    go_wp2_with fail
    refine (riBefore_any _ ⟨k, d⟩ a _ ⟨_, rfl, h4⟩ hk ha).mono ?_; rintro e w1 ⟨rfl, hb⟩
    have hB1 := hB0.step hb
    have c0 := hB1.cell 0
    have c1 := hB1.cell 1
    simp at c0 c1
    have R1 := (h4.step hb (Nat.le_refl _)).more hb.size
    have T1 := hW.trans (hb.mono hW.size)
    simp only
    rw [← HZ.out]
    cases hh : hasI d z
    all_goals
      go_wp2_with (go_at_call 29; (with_reducible refine (l1Has_any _ d z _ R1 hn).mono ?_); rintro e w' ⟨rfl, rfl⟩; rw [hh])
      go_ret
      exact ⟨congrArg (fun b => Ending.returned (.bool b)) hh.symm, T1⟩
  · have e1 : turnW d k a true = !hasI d a := by unfold turnW; simp only [if_true]; cases hasI d a <;> rfl
    rw [e1]
    cases hh : hasI d a
    all_goals
      go_enter Try.func40, Try.ntmps40
      go_wp2_with (go_at_call 29; (with_reducible refine (l1Has_any _ d a _ h4 hn).mono ?_); rintro e w' ⟨rfl, rfl⟩; rw [hh])
      go_ret
      exact ⟨rfl, hW⟩
set_option maxHeartbeats 2000000 in
theorem specWrapFrom_any (v : Value) (x : Rg) (s : Int) (w : World) (h : RRg w w.heap.size v x) (hn : x.d.length ≤ 1048576) (hx : (Lit.int .i64 s).wf = true) :
    Calls Try.prog 19 #[v, .int .i64 s] w (RetLB 3 w (wrapRg x s).1 (wrapRg x s).2) := by
  obtain ⟨sv, rfl, h⟩ := h
  obtain ⟨k, d⟩ := x
  have h3 := h
  obtain ⟨A, c, rfl, hlc, hc⟩ := h
  clear hc
  simp only [RgV] at hn h3 hlc ⊢
  obtain ⟨i0, hi, hz0, hz1, hz2⟩ := info_parts int_info
  have hB0 := BK.made w 26 #[.int .i64 k, .slice A d.length c]
  have hW : Below w.heap.size w (w.alloc (.cells #[.int .i64 k, .slice A d.length c] 26)) := (Below.refl _ _).alloc (Nat.le_refl _) _
  have h4 := (h3.below hW).more hW.size
  cases hg : (isRg ⟨k, d⟩ && wi s 0 (k - 1))
  · rw [wrapRg_no hg]
    go_enter Try.func19, Try.ntmps19
    go_wp2_with fail
    refine (riHas_any _ ⟨k, d⟩ s _ ⟨_, rfl, h4⟩ hn).mono ?_; rintro e w1 ⟨rfl, hb⟩
    rw [hg]
    go_wp2_with fail
    go_ret2
    exact ⟨_, rfl, .inl ⟨rfl, none, 0, rfl, by simp, fun _ => rfl⟩, hW.trans (hb.mono hW.size)⟩
  have hg2 : isRg ⟨k, d⟩ = true := (Bool.and_eq_true _ _ ▸ hg).1
  have hk := isRg_k hg2
  simp only at hk
  have hs : 0 ≤ s ∧ s < k := by
    have := (Bool.and_eq_true _ _ ▸ hg).2
    simp only [wi, decide_eq_true_eq] at this
    omega
  cases hal : aloneW d k s
  case false =>
    rw [wrapRg_yes hg hal]
    simp only
    obtain ⟨N, hN⟩ : ∃ N, N = lenW d k.toNat s := ⟨_, rfl⟩
    rw [← hN]
    have HNN := Lib.hid hN
    clear hN
    have HBF := Lib.hid (fun w h => riBefore_any (RgV ⟨k, d⟩ (.slice A d.length c)) ⟨k, d⟩ s w h hk hs)
    simp only [RgV] at HBF
    have hbf := bf_in hs.1 hs.2
    go_enter Try.func19, Try.ntmps19
    go_wp2_with fail
    refine (riHas_any _ ⟨k, d⟩ s _ ⟨_, rfl, h4⟩ hn).mono ?_; rintro e w1 ⟨rfl, hb⟩
    rw [hg]
    have hB1 := hB0.step hb
    have c0 := hB1.cell 0
    have c1 := hB1.cell 1
    simp at c0 c1
    have R1 := (h4.step hb (Nat.le_refl _)).more hb.size
    have T1 := hW.trans (hb.mono hW.size)
    clear hB0 hW h4 hb
    have HR1 := Lib.hid R1
    have HB1 := Lib.hid hB1
    have HT1 := Lib.hid T1
    have hs1 := T1.size
    have hs2 := hB1.1
    clear R1 hB1 T1
    have HL : Hid (∀ wz, Below w1.heap.size w1 wz → ∀ y, Calls Try.prog 29 #[.slice A d.length c, .int .i64 y] wz fun e w' => e = .returned (.bool (hasI d y)) ∧ wz = w') := by
      show ∀ wz, _
      intro wz hz y
      exact l1Has_any _ d y wz ((HR1.out.below hz).more hz.size) hn
    have HP : Hid (∀ wz, Below w1.heap.size w1 wz → Calls Try.prog 28 #[.agg #[.int .i64 k, .slice A d.length c], .int .i64 s] wz (RetV wz (.int .i64 (bf k s)))) := by
      show ∀ wz, _
      intro wz hz
      exact HBF.out wz ⟨_, rfl, (HR1.out.below hz).more hz.size⟩
    have hacc0 := Acc.lit1 (E := 3) (w := w1) (lo := w1.heap.size) (x := s) (g := w1.heap.size) rfl
    have hp0 : Below w1.heap.size w1 (w1.alloc (.cells #[.int .i64 s] 3)) := (Below.refl _ _).alloc (Nat.le_refl _) _
    have hB2 := HB1.out.step hp0
    obtain ⟨w2, hw2⟩ : ∃ w2, w2 = w1.alloc (.cells #[.int .i64 s] 3) := ⟨_, rfl⟩
    rw [← hw2] at hacc0 hp0 hB2
    have b0 := hB2.cell 0
    have b1 := hB2.cell 1
    simp at b0 b1
    have HA0 := Lib.hid hacc0
    have HP0 := Lib.hid hp0
    have HB2 := Lib.hid hB2
    clear hacc0 hp0 hB2 c0 c1
    cases hh : hasI d s
    case false =>
      have HL2 : Hid (∀ m, Calls Try.prog 29 #[.slice A d.length c, .int .i64 s] (w2.drewN m) fun e w' => e = .returned (.bool false) ∧ w' = w2.drewN m) := by
        show ∀ m, _
        intro m
        refine (HL.out _ (below_drewN HP0.out m) s).mono ?_
        rintro e w' ⟨rfl, rfl⟩
        exact ⟨by rw [hh], rfl⟩
      go_upto_region 4 with fail
      rw [← hw2]
      clear hw2
      go_quiet ((go_at_call 29; exact Calls.quiet_of_same (HL2.out _)))
      have hz : Below w2.heap.size w2 (w2.drewN nq) := below_drewN (Below.refl _ _) nq
      obtain ⟨wz, hwz⟩ : ∃ wz, wz = w2.drewN nq := ⟨_, rfl⟩
      rw [← hwz] at hz ⊢
      clear hwz HL2
      have HZ := Lib.hid (HP0.out.trans (hz.mono HP0.out.size))
      have hqz := HB2.out.step hz
      have HQ := Lib.hid hqz
      have z0 := hqz.cell 0
      have z1 := hqz.cell 1
      simp at z0 z1
      have HAZ := Lib.hid (HA0.out.step hz)
      have HRZ := Lib.hid ((HR1.out.below HZ.out).more HZ.out.size)
      have hon := seqW_on hk.1 hs hal
      obtain ⟨K, rfl⟩ : ∃ K : Nat, k = (K : Int) := ⟨k.toNat, by omega⟩
      have hN := HNN.out
      rw [Int.toNat_natCast] at hN
      have hend := lenW_end hk.1 hs hal
      rw [← hN] at hend
      have hN2 := hend.1
      have hN0 := hend.2.1
      have HEND := Lib.hid hend.2
      have HON := Lib.hid hon
      have HT := Lib.hid (fun wq (h : Below w1.heap.size w1 wq) a f (ha : 0 ≤ a ∧ a < (K : Int)) => riTurn_any (RgV ⟨K, d⟩ (.slice A d.length c)) ⟨K, d⟩ a f wq ⟨_, rfl, (HR1.out.below h).more h.size⟩ hk ha hn)
      simp only [RgV] at HT
      have HNX := Lib.hid (fun wq (h : Below w1.heap.size w1 wq) a (ha : 0 ≤ a ∧ a < (K : Int)) => riNext_any (RgV ⟨K, d⟩ (.slice A d.length c)) ⟨K, d⟩ a wq ⟨_, rfl, (HR1.out.below h).more h.size⟩ hk ha)
      simp only [RgV] at HNX
      have HBX := Lib.hid (fun wq (h : Below w1.heap.size w1 wq) a (ha : 0 ≤ a ∧ a < (K : Int)) => riBefore_any (RgV ⟨K, d⟩ (.slice A d.length c)) ⟨K, d⟩ a wq ⟨_, rfl, (HR1.out.below h).more h.size⟩ hk ha)
      simp only [RgV] at HBX
      have HS0 : Hid (seqW d K s 0 = (s, turnW d K s true)) := rfl
      obtain ⟨st, hst⟩ : ∃ st, st = turnW d K s true := ⟨_, rfl⟩
      have HT0 := Lib.hid (HT.out wz HZ.out s true hs)
      rw [← hst] at HT0 HS0
      clear hend hon hN hst hz hqz hal HP
      go_wp2_with fail
      refine HT0.out.mono ?_; rintro e w3 ⟨rfl, hb3⟩
      have HZ3 := Lib.hid (HZ.out.trans (hb3.mono HZ.out.size))
      have HA3 := Lib.hid (HAZ.out.step hb3)
      have hq3 := HQ.out.step hb3
      have y0 := hq3.cell 0
      have y1 := hq3.cell 1
      simp at y0 y1
      have HQ3 := Lib.hid hq3
      have hw13 := HZ3.out.size
      have hkk : IntKind.i64.wrap (2 * (K : Int)) = 2 * (K : Int) := IntWalk.i64_in _ (by omega)
      clear hb3 hq3 z0 z1 HZ HQ HAZ HRZ HT0
      go_wp2_with fail
      clear y0 y1
      go_loopg [6, 8, 9, 10] (2 * K + 1) (fun g s6 s8 s9 s10 wy => ∃ m : Nat, m + g = 2 * K + 1 ∧ m < N ∧ s10 = .int .i64 m ∧ s8 = .int .i64 (seqW d K s m).1 ∧ s9 = .bool (seqW d K s m).2 ∧ Acc 3 wy w1.heap.size s6 (passW d K s (m + 1)) ∧ Below w1.heap.size w1 wy)
      case atStart => exact ⟨0, by omega, by omega, rfl, by rw [HS0.out], by rw [HS0.out], by have := HA3.out; simpa [passW, HS0.out] using this, HZ3.out⟩
      case round =>
        obtain ⟨m, hmg, hmN, rfl, rfl, rfl, hacc, hby⟩ := hrel
        cases gk with
        | zero => omega
        | succ g =>
          have HZY := Lib.hid hby
          have hqy := HB1.out.step HZY.out
          have y0 := hqy.cell 0
          have y1 := hqy.cell 1
          simp at y0 y1
          have HQY := Lib.hid hqy
          have HBY := Lib.hid hby
          have HAY := Lib.hid hacc
          have hsy := HZY.out.size
          have hm2 : (m : Int) ≤ 2 * (K : Int) := by omega
          have hx := (HON.out m).1
          have hx2 := (HON.out (m + 1)).1
          have HSQ : Hid (seqW d K s (m + 1) = stepW d K (seqW d K s m)) := rfl
          have HPS : Hid (passW d K s (m + 1 + 1) = passW d K s (m + 1) ++ [(seqW d K s (m + 1)).1]) := passW_succ _ _ _ _
          have hpl : (passW d K s (m + 1)).length < 1000000000 := by rw [passW_len]; omega
          have HMN := Lib.hid hmN
          have HMG := Lib.hid hmg
          have HD : Hid (seqW d K s (m + 1) = (s, st) → N = m + 1) := fun h => by
            rcases Nat.lt_trichotomy (m + 1) N with h1 | h1 | h1
            · exact absurd (h.trans HS0.out.symm) (HEND.out.2.2 (m + 1) (by omega) h1)
            · exact h1.symm
            · have := HMN.out; omega
          have HD2 : Hid (seqW d K s (m + 1) ≠ (s, st) → m + 1 < N) := fun h => by
            rcases Nat.lt_trichotomy (m + 1) N with h1 | h1 | h1
            · exact h1
            · exact absurd (h1 ▸ HEND.out.2.1.trans HS0.out) h
            · have := HMN.out; omega
          obtain ⟨A5, c5, rfl⟩ := acc_shape hacc
          rw [passW_len] at hacc ⊢
          have HAM := Lib.hid hacc
          clear hacc hby hqy hmN hmg
          generalize seqW d K s m = x at hx HSQ
          obtain ⟨a, f⟩ := x
          obtain ⟨y, hy⟩ : ∃ y, y = seqW d K s (m + 1) := ⟨_, rfl⟩
          rw [← hy] at hx2 HSQ HPS HD HD2
          have HY := Lib.hid hy
          clear hy
          obtain ⟨b, t⟩ := y
          simp only at hx hx2 HPS
          cases f
          case false =>
            simp only [stepW, Bool.false_eq_true, if_false, Prod.mk.injEq] at HSQ
            have hsq1 := HSQ.out.1
            have hsq2 := HSQ.out.2
            rw [← hsq1] at hsq2
            have hmv := HBX.out _ HZY.out a hx
            rw [← hsq1] at hmv
            have HMV := Lib.hid hmv
            have htv := fun wq h => HT.out wq h b false hx2
            rw [← hsq2] at htv
            have HTV := Lib.hid htv
            clear hsq1 hsq2 hmv htv
            cases heq : (b == s && t == st)
            case false =>
              have HNE := Lib.hid (HD2.out (fun e => by rw [Prod.mk.injEq] at e; rw [e.1, e.2] at heq; simp at heq))
              cases hb1 : (b == s)
              case false =>
                clear heq
                go_wp2_with fail
                refine HMV.out.mono ?_; rintro e w5 ⟨rfl, hb5⟩
                have HZ5 := Lib.hid (HZY.out.trans (hb5.mono hsy))
                have hq5 := HQY.out.step hb5
                have x0 := hq5.cell 0
                have x1 := hq5.cell 1
                simp at x0 x1
                have HB5 := Lib.hid hb5
                clear hb5 hq5
                go_wp2_with fail
                refine (HTV.out _ HZ5.out).mono ?_; rintro e w6 ⟨rfl, hb6⟩
                have hacc6 := (HAM.out.step HB5.out).step hb6
                have hb16 := HZ5.out.trans (hb6.mono HZ5.out.size)
                have hs16 := hb16.size
                clear hb6
                go_wp2_with (at_builtin; refine wpList_push rfl _ _ 22 rfl 3 i0 Try.underlying22 hi hz0 hz1 hz2 w6 w1 w1.heap.size _ (passW d K s (m + 1)) b rfl rfl hacc6 rfl hpl hs16 hb16 ?_; intro v7 w7 hacc7 hb7)
                rw [← HPS.out] at hacc7
                go_roundg g
                case measure => omega
                case rel => exact ⟨m + 1, by have := HMG.out; omega, HNE.out, by go_num, by rw [← HY.out], by rw [← HY.out], hacc7, hb7⟩
              case true =>
                rw [hb1, Bool.true_and] at heq
                go_wp2_with fail
                refine HMV.out.mono ?_; rintro e w5 ⟨rfl, hb5⟩
                have HZ5 := Lib.hid (HZY.out.trans (hb5.mono hsy))
                have hq5 := HQY.out.step hb5
                have x0 := hq5.cell 0
                have x1 := hq5.cell 1
                simp at x0 x1
                have HB5 := Lib.hid hb5
                clear hb5 hq5
                go_wp2_with fail
                refine (HTV.out _ HZ5.out).mono ?_; rintro e w6 ⟨rfl, hb6⟩
                have hacc6 := (HAM.out.step HB5.out).step hb6
                have hb16 := HZ5.out.trans (hb6.mono HZ5.out.size)
                have hs16 := hb16.size
                clear hb6
                go_wp2_with (at_builtin; refine wpList_push rfl _ _ 22 rfl 3 i0 Try.underlying22 hi hz0 hz1 hz2 w6 w1 w1.heap.size _ (passW d K s (m + 1)) b rfl rfl hacc6 rfl hpl hs16 hb16 ?_; intro v7 w7 hacc7 hb7)
                rw [← HPS.out] at hacc7
                go_roundg g
                case measure => omega
                case rel => exact ⟨m + 1, by have := HMG.out; omega, HNE.out, by go_num, by rw [← HY.out], by rw [← HY.out], hacc7, hb7⟩
            case true =>
              rw [Bool.and_eq_true] at heq
              have hb1 := heq.1
              have hb2 := heq.2
              have HNE := Lib.hid (HD.out (by rw [Prod.mk.injEq]; exact ⟨by simpa using hb1, by simpa using hb2⟩))
              clear heq
              go_wp2_with fail
              refine HMV.out.mono ?_; rintro e w5 ⟨rfl, hb5⟩
              have HZ5 := Lib.hid (HZY.out.trans (hb5.mono hsy))
              have hq5 := HQY.out.step hb5
              have x0 := hq5.cell 0
              have x1 := hq5.cell 1
              simp at x0 x1
              have HB5 := Lib.hid hb5
              clear hb5 hq5
              go_wp2_with fail
              refine (HTV.out _ HZ5.out).mono ?_; rintro e w6 ⟨rfl, hb6⟩
              have HA6 := Lib.hid ((HAM.out.step HB5.out).step hb6)
              have HT6 := Lib.hid (HT1.out.trans ((HZ5.out.trans (hb6.mono HZ5.out.size)).mono hs1))
              clear hb6
              go_wp2_with fail
              go_ret2
              refine ⟨_, rfl, ?_, HT6.out⟩
              rw [HNE.out]
              exact HA6.out.oi.wide hs1 (Nat.le_refl _)
          case true =>
            simp only [stepW, if_true, Prod.mk.injEq] at HSQ
            have hsq1 := HSQ.out.1
            have hsq2 := HSQ.out.2
            rw [← hsq1] at hsq2
            have hmv := HNX.out _ HZY.out a hx
            rw [← hsq1] at hmv
            have HMV := Lib.hid hmv
            have htv := fun wq h => HT.out wq h b true hx2
            rw [← hsq2] at htv
            have HTV := Lib.hid htv
            clear hsq1 hsq2 hmv htv
            cases heq : (b == s && t == st)
            case false =>
              have HNE := Lib.hid (HD2.out (fun e => by rw [Prod.mk.injEq] at e; rw [e.1, e.2] at heq; simp at heq))
              cases hb1 : (b == s)
              case false =>
                clear heq
                go_wp2_with fail
                refine HMV.out.mono ?_; rintro e w5 ⟨rfl, hb5⟩
                have HZ5 := Lib.hid (HZY.out.trans (hb5.mono hsy))
                have hq5 := HQY.out.step hb5
                have x0 := hq5.cell 0
                have x1 := hq5.cell 1
                simp at x0 x1
                have HB5 := Lib.hid hb5
                clear hb5 hq5
                go_wp2_with fail
                refine (HTV.out _ HZ5.out).mono ?_; rintro e w6 ⟨rfl, hb6⟩
                have hacc6 := (HAM.out.step HB5.out).step hb6
                have hb16 := HZ5.out.trans (hb6.mono HZ5.out.size)
                have hs16 := hb16.size
                clear hb6
                go_wp2_with (at_builtin; refine wpList_push rfl _ _ 22 rfl 3 i0 Try.underlying22 hi hz0 hz1 hz2 w6 w1 w1.heap.size _ (passW d K s (m + 1)) b rfl rfl hacc6 rfl hpl hs16 hb16 ?_; intro v7 w7 hacc7 hb7)
                rw [← HPS.out] at hacc7
                go_roundg g
                case measure => omega
                case rel => exact ⟨m + 1, by have := HMG.out; omega, HNE.out, by go_num, by rw [← HY.out], by rw [← HY.out], hacc7, hb7⟩
              case true =>
                rw [hb1, Bool.true_and] at heq
                go_wp2_with fail
                refine HMV.out.mono ?_; rintro e w5 ⟨rfl, hb5⟩
                have HZ5 := Lib.hid (HZY.out.trans (hb5.mono hsy))
                have hq5 := HQY.out.step hb5
                have x0 := hq5.cell 0
                have x1 := hq5.cell 1
                simp at x0 x1
                have HB5 := Lib.hid hb5
                clear hb5 hq5
                go_wp2_with fail
                refine (HTV.out _ HZ5.out).mono ?_; rintro e w6 ⟨rfl, hb6⟩
                have hacc6 := (HAM.out.step HB5.out).step hb6
                have hb16 := HZ5.out.trans (hb6.mono HZ5.out.size)
                have hs16 := hb16.size
                clear hb6
                go_wp2_with (at_builtin; refine wpList_push rfl _ _ 22 rfl 3 i0 Try.underlying22 hi hz0 hz1 hz2 w6 w1 w1.heap.size _ (passW d K s (m + 1)) b rfl rfl hacc6 rfl hpl hs16 hb16 ?_; intro v7 w7 hacc7 hb7)
                rw [← HPS.out] at hacc7
                go_roundg g
                case measure => omega
                case rel => exact ⟨m + 1, by have := HMG.out; omega, HNE.out, by go_num, by rw [← HY.out], by rw [← HY.out], hacc7, hb7⟩
            case true =>
              rw [Bool.and_eq_true] at heq
              have hb1 := heq.1
              have hb2 := heq.2
              have HNE := Lib.hid (HD.out (by rw [Prod.mk.injEq]; exact ⟨by simpa using hb1, by simpa using hb2⟩))
              clear heq
              go_wp2_with fail
              refine HMV.out.mono ?_; rintro e w5 ⟨rfl, hb5⟩
              have HZ5 := Lib.hid (HZY.out.trans (hb5.mono hsy))
              have hq5 := HQY.out.step hb5
              have x0 := hq5.cell 0
              have x1 := hq5.cell 1
              simp at x0 x1
              have HB5 := Lib.hid hb5
              clear hb5 hq5
              go_wp2_with fail
              refine (HTV.out _ HZ5.out).mono ?_; rintro e w6 ⟨rfl, hb6⟩
              have HA6 := Lib.hid ((HAM.out.step HB5.out).step hb6)
              have HT6 := Lib.hid (HT1.out.trans ((HZ5.out.trans (hb6.mono HZ5.out.size)).mono hs1))
              clear hb6
              go_wp2_with fail
              go_ret2
              refine ⟨_, rfl, ?_, HT6.out⟩
              rw [HNE.out]
              exact HA6.out.oi.wide hs1 (Nat.le_refl _)
    case true =>
      have hbs : hasI d (bf k s) = false := by unfold aloneW at hal; rw [hh, Bool.true_and] at hal; exact hal
      have HL3 : Hid (∀ wq, Below w1.heap.size w1 wq → Calls Try.prog 29 #[.slice A d.length c, .int .i64 s] wq fun e w' => e = .returned (.bool true) ∧ wq = w') := by
        show ∀ wq, _
        intro wq h9
        have h8 := HL.out wq h9 s
        rw [hh] at h8
        exact h8
      have HL4 : Hid (∀ wq, Below w1.heap.size w1 wq → Calls Try.prog 29 #[.slice A d.length c, .int .i64 (bf k s)] wq fun e w' => e = .returned (.bool false) ∧ wq = w') := by
        show ∀ wq, _
        intro wq h9
        have h8 := HL.out wq h9 (bf k s)
        rw [hbs] at h8
        exact h8
      have HPZ := Lib.hid (HP0.out.trans ((Below.refl w2.heap.size w2).drew.mono HP0.out.size))
      go_upto_region 4 with fail
      rw [← hw2]
      clear hw2 hh hbs
      go_region_held3 (fun w' => w'.cell? ⟨w.heap.size, 0, none⟩ = some (.int .i64 k) ∧ w'.cell? ⟨w.heap.size, 1, none⟩ = some (.slice A d.length c)) (with_reducible first | exact ⟨b0, b1⟩ | exact ⟨d0, d1⟩ | go_keep)
        (first
          | (go_at_call 29; (with_reducible refine (HL3.out _ HPZ.out).mono ?_); rintro e w' ⟨rfl, rfl⟩)
          | (go_at_call 28; (with_reducible refine (HP.out _ HPZ.out).mono ?_); rintro e w3 ⟨rfl, hb3⟩; have t3 := (Below.refl w2.heap.size w2).drew.trans hb3; have y3 := HB2.out.step t3; have d0 := y3.cell 0; have d1 := y3.cell 1; simp at d0 d1; have HP3 := Lib.hid (HP0.out.trans (t3.mono HP0.out.size)))
          | (go_at_call 29; (with_reducible refine (HL4.out _ HP3.out).mono ?_); rintro e w' ⟨rfl, rfl⟩))
      · obtain ⟨wz, hwz⟩ : ∃ wz : World, wz = w3 := ⟨_, rfl⟩
        rw [← hwz]
        have hz : Below w2.heap.size w2 wz := by rw [hwz]; exact t3
        clear hwz hb3 t3 y3 d0 d1 HP3 HPZ HL3 HL4
        have HZ := Lib.hid (HP0.out.trans (hz.mono HP0.out.size))
        have hqz := HB2.out.step hz
        have HQ := Lib.hid hqz
        have z0 := hqz.cell 0
        have z1 := hqz.cell 1
        simp at z0 z1
        have HAZ := Lib.hid (HA0.out.step hz)
        have HRZ := Lib.hid ((HR1.out.below HZ.out).more HZ.out.size)
        have hon := seqW_on hk.1 hs hal
        obtain ⟨K, rfl⟩ : ∃ K : Nat, k = (K : Int) := ⟨k.toNat, by omega⟩
        have hN := HNN.out
        rw [Int.toNat_natCast] at hN
        have hend := lenW_end hk.1 hs hal
        rw [← hN] at hend
        have hN2 := hend.1
        have hN0 := hend.2.1
        have HEND := Lib.hid hend.2
        have HON := Lib.hid hon
        have HT := Lib.hid (fun wq (h : Below w1.heap.size w1 wq) a f (ha : 0 ≤ a ∧ a < (K : Int)) => riTurn_any (RgV ⟨K, d⟩ (.slice A d.length c)) ⟨K, d⟩ a f wq ⟨_, rfl, (HR1.out.below h).more h.size⟩ hk ha hn)
        simp only [RgV] at HT
        have HNX := Lib.hid (fun wq (h : Below w1.heap.size w1 wq) a (ha : 0 ≤ a ∧ a < (K : Int)) => riNext_any (RgV ⟨K, d⟩ (.slice A d.length c)) ⟨K, d⟩ a wq ⟨_, rfl, (HR1.out.below h).more h.size⟩ hk ha)
        simp only [RgV] at HNX
        have HBX := Lib.hid (fun wq (h : Below w1.heap.size w1 wq) a (ha : 0 ≤ a ∧ a < (K : Int)) => riBefore_any (RgV ⟨K, d⟩ (.slice A d.length c)) ⟨K, d⟩ a wq ⟨_, rfl, (HR1.out.below h).more h.size⟩ hk ha)
        simp only [RgV] at HBX
        have HS0 : Hid (seqW d K s 0 = (s, turnW d K s true)) := rfl
        obtain ⟨st, hst⟩ : ∃ st, st = turnW d K s true := ⟨_, rfl⟩
        have HT0 := Lib.hid (HT.out wz HZ.out s true hs)
        rw [← hst] at HT0 HS0
        clear hend hon hN hst hz hqz hal HP
        go_wp2_with fail
        refine HT0.out.mono ?_; rintro e w3 ⟨rfl, hb3⟩
        have HZ3 := Lib.hid (HZ.out.trans (hb3.mono HZ.out.size))
        have HA3 := Lib.hid (HAZ.out.step hb3)
        have hq3 := HQ.out.step hb3
        have y0 := hq3.cell 0
        have y1 := hq3.cell 1
        simp at y0 y1
        have HQ3 := Lib.hid hq3
        have hw13 := HZ3.out.size
        have hkk : IntKind.i64.wrap (2 * (K : Int)) = 2 * (K : Int) := IntWalk.i64_in _ (by omega)
        clear hb3 hq3 z0 z1 HZ HQ HAZ HRZ HT0
        go_wp2_with fail
        clear y0 y1
        go_loopg [6, 8, 9, 10] (2 * K + 1) (fun g s6 s8 s9 s10 wy => ∃ m : Nat, m + g = 2 * K + 1 ∧ m < N ∧ s10 = .int .i64 m ∧ s8 = .int .i64 (seqW d K s m).1 ∧ s9 = .bool (seqW d K s m).2 ∧ Acc 3 wy w1.heap.size s6 (passW d K s (m + 1)) ∧ Below w1.heap.size w1 wy)
        case atStart => exact ⟨0, by omega, by omega, rfl, by rw [HS0.out], by rw [HS0.out], by have := HA3.out; simpa [passW, HS0.out] using this, HZ3.out⟩
        case round =>
          obtain ⟨m, hmg, hmN, rfl, rfl, rfl, hacc, hby⟩ := hrel
          cases gk with
          | zero => omega
          | succ g =>
            have HZY := Lib.hid hby
            have hqy := HB1.out.step HZY.out
            have y0 := hqy.cell 0
            have y1 := hqy.cell 1
            simp at y0 y1
            have HQY := Lib.hid hqy
            have HBY := Lib.hid hby
            have HAY := Lib.hid hacc
            have hsy := HZY.out.size
            have hm2 : (m : Int) ≤ 2 * (K : Int) := by omega
            have hx := (HON.out m).1
            have hx2 := (HON.out (m + 1)).1
            have HSQ : Hid (seqW d K s (m + 1) = stepW d K (seqW d K s m)) := rfl
            have HPS : Hid (passW d K s (m + 1 + 1) = passW d K s (m + 1) ++ [(seqW d K s (m + 1)).1]) := passW_succ _ _ _ _
            have hpl : (passW d K s (m + 1)).length < 1000000000 := by rw [passW_len]; omega
            have HMN := Lib.hid hmN
            have HMG := Lib.hid hmg
            have HD : Hid (seqW d K s (m + 1) = (s, st) → N = m + 1) := fun h => by
              rcases Nat.lt_trichotomy (m + 1) N with h1 | h1 | h1
              · exact absurd (h.trans HS0.out.symm) (HEND.out.2.2 (m + 1) (by omega) h1)
              · exact h1.symm
              · have := HMN.out; omega
            have HD2 : Hid (seqW d K s (m + 1) ≠ (s, st) → m + 1 < N) := fun h => by
              rcases Nat.lt_trichotomy (m + 1) N with h1 | h1 | h1
              · exact h1
              · exact absurd (h1 ▸ HEND.out.2.1.trans HS0.out) h
              · have := HMN.out; omega
            obtain ⟨A5, c5, rfl⟩ := acc_shape hacc
            rw [passW_len] at hacc ⊢
            have HAM := Lib.hid hacc
            clear hacc hby hqy hmN hmg
            generalize seqW d K s m = x at hx HSQ
            obtain ⟨a, f⟩ := x
            obtain ⟨y, hy⟩ : ∃ y, y = seqW d K s (m + 1) := ⟨_, rfl⟩
            rw [← hy] at hx2 HSQ HPS HD HD2
            have HY := Lib.hid hy
            clear hy
            obtain ⟨b, t⟩ := y
            simp only at hx hx2 HPS
            cases f
            case false =>
              simp only [stepW, Bool.false_eq_true, if_false, Prod.mk.injEq] at HSQ
              have hsq1 := HSQ.out.1
              have hsq2 := HSQ.out.2
              rw [← hsq1] at hsq2
              have hmv := HBX.out _ HZY.out a hx
              rw [← hsq1] at hmv
              have HMV := Lib.hid hmv
              have htv := fun wq h => HT.out wq h b false hx2
              rw [← hsq2] at htv
              have HTV := Lib.hid htv
              clear hsq1 hsq2 hmv htv
              cases heq : (b == s && t == st)
              case false =>
                have HNE := Lib.hid (HD2.out (fun e => by rw [Prod.mk.injEq] at e; rw [e.1, e.2] at heq; simp at heq))
                cases hb1 : (b == s)
                case false =>
                  clear heq
                  go_wp2_with fail
                  refine HMV.out.mono ?_; rintro e w5 ⟨rfl, hb5⟩
                  have HZ5 := Lib.hid (HZY.out.trans (hb5.mono hsy))
                  have hq5 := HQY.out.step hb5
                  have x0 := hq5.cell 0
                  have x1 := hq5.cell 1
                  simp at x0 x1
                  have HB5 := Lib.hid hb5
                  clear hb5 hq5
                  go_wp2_with fail
                  refine (HTV.out _ HZ5.out).mono ?_; rintro e w6 ⟨rfl, hb6⟩
                  have hacc6 := (HAM.out.step HB5.out).step hb6
                  have hb16 := HZ5.out.trans (hb6.mono HZ5.out.size)
                  have hs16 := hb16.size
                  clear hb6
                  go_wp2_with (at_builtin; refine wpList_push rfl _ _ 22 rfl 3 i0 Try.underlying22 hi hz0 hz1 hz2 w6 w1 w1.heap.size _ (passW d K s (m + 1)) b rfl rfl hacc6 rfl hpl hs16 hb16 ?_; intro v7 w7 hacc7 hb7)
                  rw [← HPS.out] at hacc7
                  go_roundg g
                  case measure => omega
                  case rel => exact ⟨m + 1, by have := HMG.out; omega, HNE.out, by go_num, by rw [← HY.out], by rw [← HY.out], hacc7, hb7⟩
                case true =>
                  rw [hb1, Bool.true_and] at heq
                  go_wp2_with fail
                  refine HMV.out.mono ?_; rintro e w5 ⟨rfl, hb5⟩
                  have HZ5 := Lib.hid (HZY.out.trans (hb5.mono hsy))
                  have hq5 := HQY.out.step hb5
                  have x0 := hq5.cell 0
                  have x1 := hq5.cell 1
                  simp at x0 x1
                  have HB5 := Lib.hid hb5
                  clear hb5 hq5
                  go_wp2_with fail
                  refine (HTV.out _ HZ5.out).mono ?_; rintro e w6 ⟨rfl, hb6⟩
                  have hacc6 := (HAM.out.step HB5.out).step hb6
                  have hb16 := HZ5.out.trans (hb6.mono HZ5.out.size)
                  have hs16 := hb16.size
                  clear hb6
                  go_wp2_with (at_builtin; refine wpList_push rfl _ _ 22 rfl 3 i0 Try.underlying22 hi hz0 hz1 hz2 w6 w1 w1.heap.size _ (passW d K s (m + 1)) b rfl rfl hacc6 rfl hpl hs16 hb16 ?_; intro v7 w7 hacc7 hb7)
                  rw [← HPS.out] at hacc7
                  go_roundg g
                  case measure => omega
                  case rel => exact ⟨m + 1, by have := HMG.out; omega, HNE.out, by go_num, by rw [← HY.out], by rw [← HY.out], hacc7, hb7⟩
              case true =>
                rw [Bool.and_eq_true] at heq
                have hb1 := heq.1
                have hb2 := heq.2
                have HNE := Lib.hid (HD.out (by rw [Prod.mk.injEq]; exact ⟨by simpa using hb1, by simpa using hb2⟩))
                clear heq
                go_wp2_with fail
                refine HMV.out.mono ?_; rintro e w5 ⟨rfl, hb5⟩
                have HZ5 := Lib.hid (HZY.out.trans (hb5.mono hsy))
                have hq5 := HQY.out.step hb5
                have x0 := hq5.cell 0
                have x1 := hq5.cell 1
                simp at x0 x1
                have HB5 := Lib.hid hb5
                clear hb5 hq5
                go_wp2_with fail
                refine (HTV.out _ HZ5.out).mono ?_; rintro e w6 ⟨rfl, hb6⟩
                have HA6 := Lib.hid ((HAM.out.step HB5.out).step hb6)
                have HT6 := Lib.hid (HT1.out.trans ((HZ5.out.trans (hb6.mono HZ5.out.size)).mono hs1))
                clear hb6
                go_wp2_with fail
                go_ret2
                refine ⟨_, rfl, ?_, HT6.out⟩
                rw [HNE.out]
                exact HA6.out.oi.wide hs1 (Nat.le_refl _)
            case true =>
              simp only [stepW, if_true, Prod.mk.injEq] at HSQ
              have hsq1 := HSQ.out.1
              have hsq2 := HSQ.out.2
              rw [← hsq1] at hsq2
              have hmv := HNX.out _ HZY.out a hx
              rw [← hsq1] at hmv
              have HMV := Lib.hid hmv
              have htv := fun wq h => HT.out wq h b true hx2
              rw [← hsq2] at htv
              have HTV := Lib.hid htv
              clear hsq1 hsq2 hmv htv
              cases heq : (b == s && t == st)
              case false =>
                have HNE := Lib.hid (HD2.out (fun e => by rw [Prod.mk.injEq] at e; rw [e.1, e.2] at heq; simp at heq))
                cases hb1 : (b == s)
                case false =>
                  clear heq
                  go_wp2_with fail
                  refine HMV.out.mono ?_; rintro e w5 ⟨rfl, hb5⟩
                  have HZ5 := Lib.hid (HZY.out.trans (hb5.mono hsy))
                  have hq5 := HQY.out.step hb5
                  have x0 := hq5.cell 0
                  have x1 := hq5.cell 1
                  simp at x0 x1
                  have HB5 := Lib.hid hb5
                  clear hb5 hq5
                  go_wp2_with fail
                  refine (HTV.out _ HZ5.out).mono ?_; rintro e w6 ⟨rfl, hb6⟩
                  have hacc6 := (HAM.out.step HB5.out).step hb6
                  have hb16 := HZ5.out.trans (hb6.mono HZ5.out.size)
                  have hs16 := hb16.size
                  clear hb6
                  go_wp2_with (at_builtin; refine wpList_push rfl _ _ 22 rfl 3 i0 Try.underlying22 hi hz0 hz1 hz2 w6 w1 w1.heap.size _ (passW d K s (m + 1)) b rfl rfl hacc6 rfl hpl hs16 hb16 ?_; intro v7 w7 hacc7 hb7)
                  rw [← HPS.out] at hacc7
                  go_roundg g
                  case measure => omega
                  case rel => exact ⟨m + 1, by have := HMG.out; omega, HNE.out, by go_num, by rw [← HY.out], by rw [← HY.out], hacc7, hb7⟩
                case true =>
                  rw [hb1, Bool.true_and] at heq
                  go_wp2_with fail
                  refine HMV.out.mono ?_; rintro e w5 ⟨rfl, hb5⟩
                  have HZ5 := Lib.hid (HZY.out.trans (hb5.mono hsy))
                  have hq5 := HQY.out.step hb5
                  have x0 := hq5.cell 0
                  have x1 := hq5.cell 1
                  simp at x0 x1
                  have HB5 := Lib.hid hb5
                  clear hb5 hq5
                  go_wp2_with fail
                  refine (HTV.out _ HZ5.out).mono ?_; rintro e w6 ⟨rfl, hb6⟩
                  have hacc6 := (HAM.out.step HB5.out).step hb6
                  have hb16 := HZ5.out.trans (hb6.mono HZ5.out.size)
                  have hs16 := hb16.size
                  clear hb6
                  go_wp2_with (at_builtin; refine wpList_push rfl _ _ 22 rfl 3 i0 Try.underlying22 hi hz0 hz1 hz2 w6 w1 w1.heap.size _ (passW d K s (m + 1)) b rfl rfl hacc6 rfl hpl hs16 hb16 ?_; intro v7 w7 hacc7 hb7)
                  rw [← HPS.out] at hacc7
                  go_roundg g
                  case measure => omega
                  case rel => exact ⟨m + 1, by have := HMG.out; omega, HNE.out, by go_num, by rw [← HY.out], by rw [← HY.out], hacc7, hb7⟩
              case true =>
                rw [Bool.and_eq_true] at heq
                have hb1 := heq.1
                have hb2 := heq.2
                have HNE := Lib.hid (HD.out (by rw [Prod.mk.injEq]; exact ⟨by simpa using hb1, by simpa using hb2⟩))
                clear heq
                go_wp2_with fail
                refine HMV.out.mono ?_; rintro e w5 ⟨rfl, hb5⟩
                have HZ5 := Lib.hid (HZY.out.trans (hb5.mono hsy))
                have hq5 := HQY.out.step hb5
                have x0 := hq5.cell 0
                have x1 := hq5.cell 1
                simp at x0 x1
                have HB5 := Lib.hid hb5
                clear hb5 hq5
                go_wp2_with fail
                refine (HTV.out _ HZ5.out).mono ?_; rintro e w6 ⟨rfl, hb6⟩
                have HA6 := Lib.hid ((HAM.out.step HB5.out).step hb6)
                have HT6 := Lib.hid (HT1.out.trans ((HZ5.out.trans (hb6.mono HZ5.out.size)).mono hs1))
                clear hb6
                go_wp2_with fail
                go_ret2
                refine ⟨_, rfl, ?_, HT6.out⟩
                rw [HNE.out]
                exact HA6.out.oi.wide hs1 (Nat.le_refl _)
  case true =>
    rw [wrapRg_alone hg hal]
    have HBF := Lib.hid (fun w h => riBefore_any (RgV ⟨k, d⟩ (.slice A d.length c)) ⟨k, d⟩ s w h hk hs)
    simp only [RgV] at HBF
    have hbf := bf_in hs.1 hs.2
    go_enter Try.func19, Try.ntmps19
    go_wp2_with fail
    refine (riHas_any _ ⟨k, d⟩ s _ ⟨_, rfl, h4⟩ hn).mono ?_; rintro e w1 ⟨rfl, hb⟩
    rw [hg]
    have hB1 := hB0.step hb
    have c0 := hB1.cell 0
    have c1 := hB1.cell 1
    simp at c0 c1
    have R1 := (h4.step hb (Nat.le_refl _)).more hb.size
    have T1 := hW.trans (hb.mono hW.size)
    clear hB0 hW h4 hb
    have HR1 := Lib.hid R1
    have HB1 := Lib.hid hB1
    have HT1 := Lib.hid T1
    have hs1 := T1.size
    have hs2 := hB1.1
    clear R1 hB1 T1
    have HL : Hid (∀ wz, Below w1.heap.size w1 wz → ∀ y, Calls Try.prog 29 #[.slice A d.length c, .int .i64 y] wz fun e w' => e = .returned (.bool (hasI d y)) ∧ wz = w') := by
      show ∀ wz, _
      intro wz hz y
      exact l1Has_any _ d y wz ((HR1.out.below hz).more hz.size) hn
    have HP : Hid (∀ wz, Below w1.heap.size w1 wz → Calls Try.prog 28 #[.agg #[.int .i64 k, .slice A d.length c], .int .i64 s] wz (RetV wz (.int .i64 (bf k s)))) := by
      show ∀ wz, _
      intro wz hz
      exact HBF.out wz ⟨_, rfl, (HR1.out.below hz).more hz.size⟩
    have hacc0 := Acc.lit1 (E := 3) (w := w1) (lo := w1.heap.size) (x := s) (g := w1.heap.size) rfl
    have hp0 : Below w1.heap.size w1 (w1.alloc (.cells #[.int .i64 s] 3)) := (Below.refl _ _).alloc (Nat.le_refl _) _
    have hB2 := HB1.out.step hp0
    obtain ⟨w2, hw2⟩ : ∃ w2, w2 = w1.alloc (.cells #[.int .i64 s] 3) := ⟨_, rfl⟩
    rw [← hw2] at hacc0 hp0 hB2
    have b0 := hB2.cell 0
    have b1 := hB2.cell 1
    simp at b0 b1
    have HA0 := Lib.hid hacc0
    have HP0 := Lib.hid hp0
    have HB2 := Lib.hid hB2
    clear hacc0 hp0 hB2 c0 c1
    have hh : hasI d s = true := by unfold aloneW at hal; rw [Bool.and_eq_true] at hal; exact hal.1
    have hbs : hasI d (bf k s) = true := by unfold aloneW at hal; rw [hh, Bool.true_and] at hal; exact hal
    have HL3 : Hid (∀ wq, Below w1.heap.size w1 wq → Calls Try.prog 29 #[.slice A d.length c, .int .i64 s] wq fun e w' => e = .returned (.bool true) ∧ wq = w') := by
      show ∀ wq, _
      intro wq h9
      have h8 := HL.out wq h9 s
      rw [hh] at h8
      exact h8
    have HL4 : Hid (∀ wq, Below w1.heap.size w1 wq → Calls Try.prog 29 #[.slice A d.length c, .int .i64 (bf k s)] wq fun e w' => e = .returned (.bool true) ∧ wq = w') := by
      show ∀ wq, _
      intro wq h9
      have h8 := HL.out wq h9 (bf k s)
      rw [hbs] at h8
      exact h8
    have HPZ := Lib.hid (HP0.out.trans ((Below.refl w2.heap.size w2).drew.mono HP0.out.size))
    go_upto_region 4 with fail
    rw [← hw2]
    clear hw2 hh hbs
    go_region_held3 (fun w' => w'.cell? ⟨w.heap.size, 0, none⟩ = some (.int .i64 k) ∧ w'.cell? ⟨w.heap.size, 1, none⟩ = some (.slice A d.length c)) (with_reducible first | exact ⟨b0, b1⟩ | exact ⟨d0, d1⟩ | go_keep)
      (first
        | (go_at_call 29; (with_reducible refine (HL3.out _ HPZ.out).mono ?_); rintro e w' ⟨rfl, rfl⟩)
        | (go_at_call 28; (with_reducible refine (HP.out _ HPZ.out).mono ?_); rintro e w3 ⟨rfl, hb3⟩; have t3 := (Below.refl w2.heap.size w2).drew.trans hb3; have y3 := HB2.out.step t3; have d0 := y3.cell 0; have d1 := y3.cell 1; simp at d0 d1; have HP3 := Lib.hid (HP0.out.trans (t3.mono HP0.out.size)))
        | (go_at_call 29; (with_reducible refine (HL4.out _ HP3.out).mono ?_); rintro e w' ⟨rfl, rfl⟩))
    · have HA3 := Lib.hid ((HA0.out.step t3).oi.wide (lo' := w.heap.size) hs1 (Nat.le_refl _))
      have HT3 := Lib.hid (HT1.out.trans (HP3.out.mono hs1))
      clear hb3 t3 y3
      go_wp2_with fail
      go_ret2
      exact ⟨_, rfl, HA3.out, HT3.out⟩
end Go.Proofs.Ytffmpkdkifecpaa
