/-
  IsBusySchedule: the model's side.
-/
import Derived.Test.YtdlmacoblmnajaaSchedS
import Derived.Test.YtdlmacoblmnajaaMathHeld
import Derived.Test.YtdlmacoblmnajaaAwait
import Derived.Deep.LoopGhost
namespace Go.Proofs.Ytdlmacoblmnajaa
open Go.RowKit
set_option maxRecDepth 100000
set_option linter.unusedVariables false

theorem heldB_succ_no {js : List Jb} {ss : List Int} {t : Int} {m : Nat} (h : ¬ (ss.getD m 0 ≤ t ∧ t < ss.getD m 0 + js[m]!.l)) : heldB js ss t (m + 1) = heldB js ss t m := by
  rw [heldB]
  have : (decide (ss.getD m 0 ≤ t) && decide (t < ss.getD m 0 + js[m]!.l)) = false := by
    rw [Bool.and_eq_false_iff]
    by_cases h8 : ss.getD m 0 ≤ t
    · right; exact decide_eq_false (fun h7 => h ⟨h8, h7⟩)
    · left; exact decide_eq_false h8
  rw [this, Bool.or_false]
set_option maxHeartbeats 2000000 in
theorem prHeld_any (v u : Value) (js : List Jb) (ss : List Int) (t : Int) (w : World) (h : RJbS w w.heap.size v js) (h' : RI w w.heap.size u ss) (hl : js.length = ss.length) (hn : ss.length ≤ 20) (hsb : ∀ i, i < ss.length → 0 ≤ ss.getD i 0 ∧ ss.getD i 0 ≤ 5000)
    (hjb : ∀ i, i < ss.length → 1 ≤ js[i]!.l ∧ js[i]!.l ≤ 20) : Calls Try.prog 29 #[v, u, .int .i64 t] w (RetV w (.bool (heldB js ss t ss.length))) := by
  have HJ := Lib.hid (fun k (hk : k < js.length) => left_cells h k hk)
  have hv : ∃ A c, v = .slice A js.length c := by obtain ⟨A, c, hv, _⟩ := id h; exact ⟨A, c, hv⟩
  obtain ⟨A, c, rfl⟩ := hv
  obtain ⟨A2, c2, rfl, _, hc⟩ := h'
  have HC := Lib.hid hc
  obtain ⟨R, hR⟩ : ∃ R, heldB js ss t ss.length = R := ⟨_, rfl⟩
  rw [hR]
  have HYE : Hid (∀ i, i < ss.length → ss.getD i 0 ≤ t ∧ t < ss.getD i 0 + js[i]!.l → R = true) := fun i hi h9 => by rw [← hR]; exact heldB_t.2 ⟨i, hi, h9⟩
  have HNO : Hid ((∀ i, i < ss.length → ¬ (ss.getD i 0 ≤ t ∧ t < ss.getD i 0 + js[i]!.l)) → R = false) := fun h9 => by
    rw [← hR]
    cases h8 : heldB js ss t ss.length
    · rfl
    · obtain ⟨i, i1, i2⟩ := heldB_t.1 h8
      exact absurd i2 (h9 i i1)
  have HSB := Lib.hid hsb
  have HJB := Lib.hid hjb
  clear h hc hR hsb hjb
  obtain ⟨n, hN⟩ : ∃ n, ss.length = n := ⟨_, rfl⟩
  rw [hl] at HJ ⊢
  rw [hN] at hn HJ HC HYE HNO HSB HJB ⊢
  have hn' : (n : Int) ≤ 20 := by omega
  clear hN hl
  go_enter Try.func29, Try.ntmps29
  go_wp2_with fail
  go_loopg [11] n (fun f i wr => ∃ k : Nat, k ≤ n ∧ f = n - k ∧ i = .int .i64 k ∧ (∀ j, j < k → ¬ (ss.getD j 0 ≤ t ∧ t < ss.getD j 0 + js[j]!.l)) ∧ Below w.heap.size w wr)
  case atStart => exact ⟨0, Nat.zero_le _, rfl, rfl, fun j hj => absurd hj (by omega), Below.refl _ _⟩
  case round =>
    obtain ⟨k, hk, hgk, rfl, hall, hb⟩ := hrel
    have HAL := Lib.hid hall
    have HGK := Lib.hid hgk
    have HB := Lib.hid hb
    clear hall hgk
    by_cases hlt : k < n
    · have hki : (k : Int) < (n : Int) := by omega
      obtain ⟨b, off, c9, hv, hbB, _, _, e2⟩ := HJ.out k hlt
      injection hv with hA _ hC9
      subst hA; subst hC9
      obtain ⟨b2, off2, rfl, hbB2, hcell2⟩ := HC.out (by omega)
      have hcx := (hb.cell (p := ⟨b, off + k * 3 + 2, none⟩) hbB).trans e2
      have hcy := (hb.cell (p := ⟨b2, off2 + k, none⟩) hbB2).trans (hcell2 k hlt)
      have HY1 := Lib.hid (HYE.out k hlt)
      have HNX : Hid (¬ (ss.getD k 0 ≤ t ∧ t < ss.getD k 0 + js[k]!.l) → ∀ j, j < k + 1 → ¬ (ss.getD j 0 ≤ t ∧ t < ss.getD j 0 + js[j]!.l)) := fun h9 j hj => by
        by_cases e : j = k
        · rw [e]; exact h9
        · exact HAL.out j (by omega)
      have s1 := HSB.out k hlt
      have j1 := HJB.out k hlt
      clear hcell2 hb e2
      generalize ss.getD k 0 = s at hcy HY1 HNX s1
      generalize js[k]!.l = yl at hcx HY1 HNX j1
      have eW : IntKind.i64.wrap (s + yl) = s + yl := IntWalk.i64_in _ (by omega)
      by_cases h1 : s ≤ t
      · by_cases h2 : t < s + yl
        · have HX := Lib.hid (HY1.out ⟨h1, h2⟩)
          go_wp2_with fail
          first | go_ret | (go_quiet (fail); go_wp2_with fail; go_ret)
          exact ⟨congrArg (fun z => Ending.returned (.bool z)) HX.out.symm, by first | exact HB.out | exact below_drewN HB.out _⟩
        · have HX := Lib.hid (HNX.out (fun h9 => h2 h9.2))
          have h2d : decide (t < s + yl) = false := decide_eq_false h2
          go_wp2_with fail
          go_roundg (n - (k + 1))
          case rel => exact ⟨k + 1, by omega, rfl, by go_num, HX.out, by first | exact HB.out | exact below_drewN HB.out _⟩
          case measure => have := HGK.out; omega
      · have HX := Lib.hid (HNX.out (fun h9 => h1 h9.1))
        have h1d : decide (s ≤ t) = false := decide_eq_false h1
        go_wp2_with fail
        go_roundg (n - (k + 1))
        case rel => exact ⟨k + 1, by omega, rfl, by go_num, HX.out, by first | exact HB.out | exact below_drewN HB.out _⟩
        case measure => have := HGK.out; omega
    · obtain rfl : n = k := by omega
      have HX := Lib.hid (HNO.out HAL.out)
      go_wp2_with fail
      go_ret
      exact ⟨congrArg (fun z => Ending.returned (.bool z)) HX.out.symm, hb⟩
set_option maxHeartbeats 8000000 in
theorem specIsBusySchedule_any (v u : Value) (js : List Jb) (ss : List Int) (w : World) (h : RJbS w w.heap.size v js) (h' : RI w w.heap.size u ss) (hn : js.length ≤ 1048576) (hn2 : ss.length ≤ 1048576) :
    Calls Try.prog 9 #[v, u] w (RetV w (.tuple #[.bool (isBusyOf js ss).1, .bool (isBusyOf js ss).2])) := by
  have HG := Lib.hid (prGiven_any v u js ss w h h' hn hn2)
  cases hg : givenB js ss
  · have HF : isBusyOf js ss = (false, false) := by simp [isBusyOf, hg]
    rw [HF]
    rw [hg] at HG
    clear hg HF
    go_enter Try.func9, Try.ntmps9
    go_wp2_with fail
    refine HG.out.mono ?_; rintro e w1 ⟨rfl, T⟩
    go_wp2_with fail
    go_ret2
    exact ⟨rfl, T⟩
  have HF : isBusyOf js ss = (schedB js ss && busyB js ss, true) := by simp [isBusyOf, hg]
  rw [HF]
  have HS := Lib.hid (fun (w' : World) (hb : Below w.heap.size w w') => prSchedule_any v u js ss w' ((h.step hb (Nat.le_refl _)).more hb.size) ((h'.step hb (Nat.le_refl _)).more hb.size) hg)
  cases hsb : schedB js ss
  · rw [hg] at HG
    rw [hsb] at HS
    clear hg HF hsb
    obtain ⟨A, c, rfl, _⟩ := h
    obtain ⟨A2, c2, rfl, _⟩ := h'
    go_enter Try.func9, Try.ntmps9
    go_wp2_with fail
    refine HG.out.mono ?_; rintro e w1 ⟨rfl, T⟩
    go_wp2_with fail
    refine (HS.out _ T).mono ?_; rintro e w2 ⟨rfl, hb2⟩
    have HT := Lib.hid (T.trans (hb2.mono T.size))
    clear hb2 T
    go_wp2_with fail
    go_ret2
    exact ⟨rfl, HT.out⟩
  · obtain ⟨hjl, hn3, hss, hjj⟩ := givenB_in hg
    have HBP := Lib.hid (busyB_t hg hsb)
    have HHE := Lib.hid (fun (t : Int) (w' : World) (hb : Below w.heap.size w w') => prHeld_any v u js ss t w' ((h.step hb (Nat.le_refl _)).more hb.size) ((h'.step hb (Nat.le_refl _)).more hb.size) hjl hn3 hss (fun i hi => (hjj i hi).2.2.2.2))
    have HJ := Lib.hid (fun k (hk : k < js.length) => left_cells h k hk)
    have hv : ∃ A c, v = .slice A js.length c := by obtain ⟨A, c, hv, _⟩ := id h; exact ⟨A, c, hv⟩
    obtain ⟨A, c, rfl⟩ := hv
    obtain ⟨A2, c2, rfl, _, hc⟩ := h'
    have HC := Lib.hid hc
    obtain ⟨B, hB⟩ : ∃ B, busyB js ss = B := ⟨_, rfl⟩
    rw [hB] at HBP ⊢
    have HJL := Lib.hid hjl
    have HSS := Lib.hid hss
    have HJJ := Lib.hid hjj
    have HYE : Hid ((∀ i, i < ss.length → ∀ t : Int, js[i]!.t ≤ t → t < ss.getD i 0 → heldB js ss t ss.length = true) → B = true) := fun h9 => HBP.out.2 (fun i hi t h1 h2 => by rw [HJL.out] at hi ⊢; exact h9 i hi t h1 h2)
    have HNO : Hid (∀ i t, i < ss.length → js[i]!.t ≤ t → t < ss.getD i 0 → heldB js ss t ss.length = false → B = false) := fun i t hi h1 h2 h3 => by
      cases hbb : B
      · rfl
      · have := HBP.out.1 hbb i (by rw [HJL.out]; exact hi) t h1 h2
        rw [HJL.out, h3] at this
        cases this
    rw [hg] at HG
    rw [hsb] at HS
    clear hg HF hsb hB h hc hss hjj HBP
    obtain ⟨n, hN⟩ : ∃ n, ss.length = n := ⟨_, rfl⟩
    rw [hjl] at HG HS HHE HJ ⊢
    rw [hN] at HG HS HHE HJ HC HSS HJJ HYE HNO hn3 ⊢
    have hn' : (n : Int) ≤ 20 := by omega
    clear hN hjl HJL hn hn2
    go_enter Try.func9, Try.ntmps9
    go_wp2_with fail
    refine HG.out.mono ?_; rintro e w1 ⟨rfl, T⟩
    go_wp2_with fail
    refine (HS.out _ T).mono ?_; rintro e w2 ⟨rfl, hb2⟩
    have HT2 := Lib.hid (T.trans (hb2.mono T.size))
    clear hb2 T
    go_wp2_with fail
    go_loopg [19] n (fun f i wr => ∃ k : Nat, k ≤ n ∧ f = n - k ∧ i = .int .i64 k ∧ (∀ j, j < k → ∀ t : Int, js[j]!.t ≤ t → t < ss.getD j 0 → heldB js ss t n = true) ∧ Below w.heap.size w wr)
    case atStart => exact ⟨0, Nat.zero_le _, rfl, rfl, fun j hj => absurd hj (by omega), HT2.out⟩
    case round =>
      obtain ⟨k, hk, hgk, rfl, hall, hb⟩ := hrel
      have HAL := Lib.hid hall
      have HGK := Lib.hid hgk
      have HB := Lib.hid hb
      have hsw := hb.size
      clear hall hgk
      by_cases hlt : k < n
      · have hki : (k : Int) < (n : Int) := by omega
        obtain ⟨b, off, c9, hv, hbB, e0, e1, e2⟩ := HJ.out k hlt
        injection hv with hA _ hC9
        subst hA; subst hC9
        obtain ⟨b2, off2, rfl, hbB2, hcell2⟩ := HC.out (by omega)
        have y0 := (hb.cell (p := ⟨b, off + k * 3, none⟩) hbB).trans e0
        have y1 := (hb.cell (p := ⟨b, off + k * 3 + 1, none⟩) hbB).trans e1
        have y2 := (hb.cell (p := ⟨b, off + k * 3 + 2, none⟩) hbB).trans e2
        have hcy := hcell2 k hlt
        have HN1 := Lib.hid (fun t => HNO.out k t hlt)
        have HNX : Hid ((∀ t : Int, js[k]!.t ≤ t → t < ss.getD k 0 → heldB js ss t n = true) → ∀ j, j < k + 1 → ∀ t : Int, js[j]!.t ≤ t → t < ss.getD j 0 → heldB js ss t n = true) := fun h9 j hj => by
          by_cases e : j = k
          · rw [e]; exact h9
          · exact HAL.out j (by omega)
        have s1 := HSS.out k hlt
        have j1 := HJJ.out k hlt
        clear hcell2 hb e0 e1 e2
        generalize ss.getD k 0 = s at hcy HN1 HNX s1
        generalize js[k]! = y at y0 y1 y2 HN1 HNX j1
        obtain ⟨yt, yc, yl⟩ := y
        simp only at y0 y1 y2 HN1 HNX j1
        have HBX := Lib.hid (HB.out.alloc hsw (.cells #[.int .i64 yt, .int .i64 yc, .int .i64 yl] 36))
        obtain ⟨wo, hwo⟩ : ∃ wo : World, wr.alloc (.cells #[.int .i64 yt, .int .i64 yc, .int .i64 yl] 36) = wo := ⟨_, rfl⟩
        rw [hwo] at HBX
        have HWO := Lib.hid hwo
        clear hwo
        go_wp2_with fail
        go_loopg [8] (s - yt).toNat (fun f x wq => ∃ t : Int, x = .int .i64 t ∧ f = (s - t).toNat ∧ yt ≤ t ∧ (∀ t' : Int, yt ≤ t' → t' < t → heldB js ss t' n = true) ∧ (yt ≤ s → t ≤ s) ∧ t ≤ 5000 ∧ Below w.heap.size w wq)
        case atStart => exact ⟨yt, rfl, rfl, Int.le_refl _, fun t' h1 h2 => by omega, fun h9 => h9, by omega, by rw [HWO.out]; exact HBX.out⟩
        case round =>
          obtain ⟨t, rfl, hgt, ht0, hall2, hts, ht5, hbq⟩ := hrel
          have HGT := Lib.hid hgt
          have HA2 := Lib.hid hall2
          have HBQ := Lib.hid hbq
          have z0 := (hbq.cell (p := ⟨b2, off2 + k, none⟩) hbB2).trans hcy
          clear hgt hall2
          by_cases hlt2 : t < s
          · have HCA := Lib.hid (HHE.out t wr hbq)
            have HN2 := Lib.hid (HN1.out t ht0 hlt2)
            have HNX2 : Hid (heldB js ss t n = true → ∀ t' : Int, yt ≤ t' → t' < t + 1 → heldB js ss t' n = true) := fun h9 t' h1 h2 => by
              by_cases e : t' = t
              · rw [e]; exact h9
              · exact HA2.out t' h1 (by omega)
            have eW : IntKind.i64.wrap (t + 1) = t + 1 := IntWalk.i64_in _ (by omega)
            clear hbq
            cases hh : heldB js ss t n
            · rw [hh] at HCA
              have HX := Lib.hid (HN2.out hh)
              clear hh
              go_wp2_with fail
              refine HCA.out.mono ?_; rintro e w5 ⟨rfl, hb5⟩
              have HB5 := Lib.hid (HBQ.out.trans (hb5.mono HBQ.out.size))
              clear hb5
              go_wp2_with fail
              go_ret2
              exact ⟨by rw [HX.out]; rfl, HB5.out⟩
            · rw [hh] at HCA
              have HX := Lib.hid (HNX2.out hh)
              clear hh
              go_wp2_with fail
              refine HCA.out.mono ?_; rintro e w5 ⟨rfl, hb5⟩
              have HB5 := Lib.hid (HBQ.out.trans (hb5.mono HBQ.out.size))
              clear hb5
              go_wp2_with fail
              go_roundg (s - (t + 1)).toNat
              case rel => exact ⟨t + 1, rfl, rfl, by omega, HX.out, fun _ => by omega, by omega, HB5.out⟩
              case measure => have := HGT.out; omega
          · have HX := Lib.hid (HNX.out (fun t' h1 h2 => HA2.out t' h1 (by omega)))
            go_wp2_with fail
            go_roundg (n - (k + 1))
            case rel => exact ⟨k + 1, by omega, rfl, by go_num, HX.out, HBQ.out⟩
            case measure => have := HGK.out; omega
      · obtain rfl : n = k := by omega
        have HX := Lib.hid (HYE.out HAL.out)
        go_wp2_with fail
        go_ret2
        exact ⟨by rw [HX.out]; rfl, hb⟩
end Go.Proofs.Ytdlmacoblmnajaa
