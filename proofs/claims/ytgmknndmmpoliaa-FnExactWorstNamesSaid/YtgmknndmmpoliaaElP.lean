/-
  Chapter 7: a list is put into its lexicographically next order, in place.
-/
import Derived.Test.YtgmknndmmpoliaaElB
import Derived.RegionTactic
import Derived.Deep.QuietTactic
namespace Go.Proofs.Ytgmknndmmpoliaa
open Go.RowKit
set_option maxRecDepth 100000
set_option linter.unusedVariables false

def swapL (l : List Int) (a b : Nat) : List Int := (l.set a (l.getD b 0)).set b (l.getD a 0)
theorem swapL_length (l : List Int) (a b : Nat) : (swapL l a b).length = l.length := by simp [swapL]
/-- The part of m numbers from off on behind t swaps. -/
def revP (l : List Int) (off m : Nat) : Nat → List Int
  | 0 => l
  | t + 1 => swapL (revP l off m t) (off + t) (off + (m - 1 - t))
theorem revP_length (l : List Int) (off m t : Nat) : (revP l off m t).length = l.length := by
  induction t with
  | zero => rfl
  | succ t ih => rw [revP, swapL_length, ih]
/-- A cell, and another one, of a row that the call owns are swapped. -/
theorem elSwap_at {E : TypeId} {w : World} {lo hi g c : Nat} {l : List Int} (h : OI E w lo hi (.slice (some ⟨g, 0, none⟩) l.length c) l) (a b : Nat) (ha : a < l.length) (hb : b < l.length) :
    lo ≤ g ∧ g < hi ∧ w.cell? ⟨g, a, none⟩ = some (.int .i64 (l.getD a 0)) ∧ w.cell? ⟨g, b, none⟩ = some (.int .i64 (l.getD b 0)) ∧ w.frozen? ⟨g, a, none⟩ = false ∧ w.frozen? ⟨g, b, none⟩ = false ∧
      OI E ((w.setCell ⟨g, a, none⟩ (.int .i64 (l.getD b 0))).setCell ⟨g, b, none⟩ (.int .i64 (l.getD a 0))) lo hi (.slice (some ⟨g, 0, none⟩) l.length c) (swapL l a b) := by
  obtain ⟨g1, c1, hv, h1, h2, h3, h4, h5, h6⟩ := elPut_at h a ha
  injection hv with hv _ hc
  injection hv with hv
  injection hv with hv
  subst hv
  have h7 := h6 (l.getD b 0)
  have hl7 : (l.set a (l.getD b 0)).length = l.length := by simp
  rw [← hl7] at h7
  obtain ⟨g2, c2, hv, k1, k2, k3, k4, k5, k6⟩ := elPut_at h7 b (by rw [hl7]; exact hb)
  injection hv with hv _ hc
  injection hv with hv
  injection hv with hv
  subst hv
  obtain ⟨g3, c3, hv, m1, m2, m3, m4, m5, m6⟩ := elPut_at h b hb
  injection hv with hv _ hc
  injection hv with hv
  injection hv with hv
  subst hv
  refine ⟨h1, h2, h4, m4, h5, m5, ?_⟩
  have h8 := k6 (l.getD a 0)
  rw [hl7] at h8
  exact h8
set_option maxHeartbeats 1000000 in
theorem reverse_any (g c c2 off m lo hi : Nat) (l : List Int) (w : World) (h : OI 3 w lo hi (.slice (some ⟨g, 0, none⟩) l.length c) l) (hm : off + m ≤ l.length) (hl : l.length ≤ 12) :
    Calls Try.prog 80 #[.slice (some ⟨g, off, none⟩) m c2] w fun e w' => e = .returned (.tuple #[]) ∧ OI 3 w' lo hi (.slice (some ⟨g, 0, none⟩) l.length c) (revP l off m (m / 2)) ∧ Wr lo hi w w' := by
  have hm' : (m : Int) ≤ 12 := by omega
  go_enter Try.func80, Try.ntmps80
  go_wp2_with fail
  go_loopg [2, 3] (m / 2) (fun gg s2 s3 wx => ∃ t : Nat, t + gg = m / 2 ∧ s2 = .int .i64 t ∧ s3 = .int .i64 ((m : Int) - 1 - t) ∧ OI 3 wx lo hi (.slice (some ⟨g, 0, none⟩) l.length c) (revP l off m t) ∧ Wr lo hi w wx)
  case atStart => exact ⟨0, by omega, rfl, by simp, h, Wr.refl _ _ _⟩
  case round =>
    obtain ⟨t, htg, rfl, rfl, hoi, hwr⟩ := hrel
    cases gk with
    | zero =>
      have hz : ¬ ((t : Int) < (m : Int) - 1 - t) := by omega
      go_wp2_with fail
      go_end0
      exact ⟨rfl, by rw [show m / 2 = t from by omega]; exact hoi, hwr⟩
    | succ gg =>
      have hlen := revP_length l off m t
      have HN : Hid (revP l off m (t + 1) = swapL (revP l off m t) (off + t) (off + (m - 1 - t))) := rfl
      rw [← hlen] at hoi
      obtain ⟨h1, h2, q1, q2, f1, f2, hsw⟩ := elSwap_at hoi (off + t) (off + (m - 1 - t)) (by omega) (by omega)
      have hz : (t : Int) < (m : Int) - 1 - t := by omega
      obtain ⟨j, hj⟩ : ∃ j, j = m - 1 - t := ⟨_, rfl⟩
      rw [← hj] at q2 f2 hsw HN
      have ej : (m : Int) - 1 - t = (j : Int) := by omega
      rw [ej] at hz ⊢
      have hjm : j < m := by omega
      have hjm' : (j : Int) < (m : Int) := by omega
      have htm' : (t : Int) < (m : Int) := by omega
      have htm : t < m := by omega
      have HEJ := Lib.hid ej
      have HJ := Lib.hid hj
      clear ej hj
      generalize revP l off m t = L at *
      generalize hx : L.getD (off + t) 0 = x at *
      generalize hy : L.getD (off + j) 0 = y at *
      have HX := Lib.hid hx
      have HY := Lib.hid hy
      rw [hlen] at hsw
      have HSW := Lib.hid hsw
      have HWR := Lib.hid ((hwr.setCell (p := ⟨g, off + t, none⟩) h1 h2 (.int .i64 y)).setCell (p := ⟨g, off + j, none⟩) h1 h2 (.int .i64 x))
      clear hx hy hsw hoi hwr hlen
      go_wp2_with fail
      go_region
      all_goals
        go_wp2_with fail
        go_roundg gg
        case measure => omega
        case rel =>
          have hej := HEJ.out
          exact ⟨t + 1, by omega, by go_num, by go_num, by rw [HN.out]; exact HSW.out, HWR.out.trans (Wr.of_below (Below.refl _ _).drew lo hi)⟩


/-- One behind the last place from which on numbers fall. -/
def placeN (l : List Int) : Nat → Nat
  | 0 => 0
  | i + 1 => if l.getD (i + 1) 0 < l.getD i 0 then placeN l i else i + 1
theorem placeN_le (l : List Int) (i : Nat) : placeN l i ≤ i := by
  induction i with
  | zero => exact Nat.le_refl _
  | succ i ih =>
    rw [placeN]
    split <;> omega
theorem placeN_up (l : List Int) (i : Nat) (h : 0 < placeN l i) : ¬ (l.getD (placeN l i) 0 < l.getD (placeN l i - 1) 0) := by
  induction i with
  | zero => simp [placeN] at h
  | succ i ih =>
    by_cases hc : l.getD (i + 1) 0 < l.getD i 0
    · rw [placeN, if_pos hc] at h ⊢
      exact ih h
    · rw [placeN, if_neg hc]
      exact hc
/-- The last of the places p .. p + j whose number is no less than x. -/
def leastN (l : List Int) (p : Nat) (x : Int) : Nat → Nat
  | 0 => 0
  | j + 1 => if l.getD (p + (j + 1)) 0 < x then leastN l p x j else j + 1
theorem leastN_le (l : List Int) (p : Nat) (x : Int) (j : Nat) : leastN l p x j ≤ j := by
  induction j with
  | zero => exact Nat.le_refl _
  | succ j ih =>
    rw [leastN]
    split <;> omega
/-- The next order, and whether there is one. -/
def nextL (l : List Int) : List Int × Bool :=
  let p := placeN l (l.length - 1)
  if p = 0 then (l, false) else
    let m := l.length - p
    let q := leastN l p (l.getD (p - 1) 0) (m - 1)
    (revP (swapL l (p - 1) (p + q)) p m (m / 2), true)
theorem nextL_length (l : List Int) : (nextL l).1.length = l.length := by
  unfold nextL
  simp only
  split
  · rfl
  · simp [revP_length, swapL_length]
set_option maxHeartbeats 2000000 in
theorem putNext_any (v : Value) (lo hi : Nat) (l : List Int) (w : World) (h : OI 3 w lo hi v l) (hl : 2 ≤ l.length ∧ l.length ≤ 12) :
    Calls Try.prog 69 #[v] w fun e w' => e = .returned (.bool (nextL l).2) ∧ OI 3 w' lo hi v (nextL l).1 ∧ Wr lo hi w w' := by
  obtain ⟨g, c, hv, hlog, hghi, hgw, _, _, _⟩ := elPut_at h 0 (by omega)
  subst hv
  have hri := h.ri
  obtain ⟨A, c0, hv, hcn, hc⟩ := hri
  injection hv with hv hl0 hcc
  subst hcc
  subst hv
  obtain ⟨b0, o0, he, _, hcell⟩ := hc (by omega)
  injection he with he
  injection he with he1 he2
  subst he1
  subst he2
  have hcell' : ∀ j, j < l.length → w.cell? ⟨g, j, none⟩ = some (.int .i64 (l.getD j 0)) := fun j hj => by have := hcell j hj; rwa [Nat.zero_add] at this
  have HC := Lib.hid hcell'
  have HOI := Lib.hid h
  have hcn1 := hcn.1
  clear hcell hc hcell' hl0 h hcn
  have hl' : (2 : Int) ≤ (l.length : Int) ∧ (l.length : Int) ≤ 12 := by omega
  obtain ⟨n, hn⟩ : ∃ n, n = l.length := ⟨_, rfl⟩
  rw [← hn] at hl hl' HC HOI hcn1 ⊢
  have HCN : Hid (n ≤ c) := hcn1
  clear hcn1
  have HN := Lib.hid hn
  clear hn
  go_enter Try.func69, Try.ntmps69
  go_wp2_with fail
  go_loopg [3] n (fun gg s3 wx => ∃ i : Nat, i + 1 = gg ∧ i ≤ n - 1 ∧ s3 = .int .i64 ((i : Int) - 1) ∧ Hid (placeN l i = placeN l (n - 1)) ∧ Below w.heap.size w wx)
  case atStart => exact ⟨n - 1, by omega, Nat.le_refl _, by go_num, rfl, Below.refl _ _⟩
  case round =>
    obtain ⟨i, rfl, hin, rfl, HP, hbe⟩ := hrel
    rename World => W1
    have HB := Lib.hid hbe
    rcases i with _ | i
    · have HNX : Hid (nextL l = (l, false)) := by
        show _ = _
        have : placeN l (l.length - 1) = 0 := by rw [← HN.out, ← HP.out, placeN]
        simp [nextL, this]
      have e0 : ((0 : Nat) : Int) - 1 = -1 := rfl
      rw [e0]
      clear e0 hbe
      go_wp2_with fail
      go_quiet (fail)
      go_wp2_with fail
      go_ret
      exact ⟨by rw [HNX.out]; first | exact rfl | simp, by rw [HNX.out]; exact HOI.out.step (below_drewN HB.out _), Wr.of_below (below_drewN HB.out _) lo hi⟩
    · have e0 : ((i + 1 : Nat) : Int) - 1 = (i : Int) := by omega
      rw [e0]
      clear e0
      have q0 := (hbe.cell (p := ⟨g, i, none⟩) hgw).trans (HC.out i (by omega))
      have q1 := (hbe.cell (p := ⟨g, i + 1, none⟩) hgw).trans (HC.out (i + 1) (by omega))
      have HPL : Hid (placeN l (i + 1) = if l.getD (i + 1) 0 < l.getD i 0 then placeN l i else i + 1) := rfl
      obtain ⟨x, hx⟩ : ∃ x, x = l.getD i 0 := ⟨_, rfl⟩
      rw [← hx] at q0 HPL
      have HX := Lib.hid hx
      obtain ⟨y, hy⟩ : ∃ y, y = l.getD (i + 1) 0 := ⟨_, rfl⟩
      rw [← hy] at q1 HPL
      have HY := Lib.hid hy
      clear hx hy hbe
      have hi1 : (i : Int) < (n : Int) := by omega
      have hi2 : (i : Int) + 1 < (n : Int) := by omega
      have hi3 : i < n := by omega
      have hi4 : i + 1 < n := by omega
      by_cases hxy : y < x
      · have HP2 : Hid (placeN l i = placeN l (n - 1)) := by
          show _ = _
          rw [← HP.out, HPL.out, if_pos hxy]
        go_wp2_with fail
        go_quiet (fail)
        go_wp2_with fail
        go_roundg (i + 1)
        case measure => omega
        case rel => exact ⟨i, rfl, by omega, by go_num, HP2, below_drewN HB.out _⟩
      · have HP2 : Hid (placeN l (n - 1) = i + 1) := by
          show _ = _
          rw [← HP.out, HPL.out, if_neg hxy]
        have hcn := HCN.out
        have hcp : i + 1 < c := by omega
        have hcp' : (i : Int) + 1 < (c : Int) := by omega
        have hcp2 : ¬ c = i + 1 := by omega
        have hcp3 : ¬ (c : Int) = (i : Int) + 1 := by omega
        have hcp4 : (n : Int) ≤ (c : Int) := by omega
        go_wp2_with fail
        go_quiet (fail)
        go_wp2_with fail
        have HB2 := Lib.hid (below_drewN HB.out nq)
        generalize W1.drewN nq = W2 at HB2 ⊢
        obtain ⟨m, hm⟩ : ∃ m, n - (i + 1) = m := ⟨_, rfl⟩
        rw [hm]
        have HM := Lib.hid hm
        have hm1 : 1 ≤ m := by omega
        have hm2 : m ≤ 11 := by omega
        have hm3 : (m : Int) ≤ 11 := by omega
        have HMN : Hid (i + 1 + m = n) := by show _ = _; omega
        have HUP : Hid (x ≤ y) := by show _ ≤ _; omega
        clear hm hxy q0 q1
        go_loopg [5] (m - 1) (fun gg s5 wx => ∃ j : Nat, j = gg ∧ j < m ∧ s5 = .int .i64 (j : Int) ∧ Hid (leastN l (i + 1) x j = leastN l (i + 1) x (m - 1)) ∧ Below w.heap.size w wx)
        case atStart => exact ⟨m - 1, rfl, by omega, by go_num, rfl, HB2.out⟩
        case round =>
          obtain ⟨j, rfl, hjm, rfl, HQ, hbe⟩ := hrel
          rename World => W3
          have q0 := (hbe.cell (p := ⟨g, i, none⟩) hgw).trans (HC.out i (by omega))
          rw [← HX.out] at q0
          have hm4 : (m : Int) + (i : Int) + 1 = (n : Int) := by have := HMN.out; omega
          have HB3 := Lib.hid hbe
          rcases j with _ | j
          · have q1 := (hbe.cell (p := ⟨g, i + 1, none⟩) hgw).trans (HC.out (i + 1) (by omega))
            rw [← HY.out] at q1
            have hup := HUP.out
            have hnl : ¬ y < x := by omega
            have hm5 : (0 : Int) < (m : Int) := by omega
            have e0 : ((0 : Nat) : Int) = 0 := rfl
            rw [e0]
            clear e0
            have HLJ : Hid (leastN l (i + 1) x 0 = 0) := rfl
            have hso := HOI.out.step hbe
            rw [HN.out] at hso
            obtain ⟨_, _, z1, z2, f1, f2, hsw⟩ := elSwap_at hso i (i + 1) (by rw [← HN.out]; omega) (by rw [← HN.out]; omega)
            rw [← HX.out] at z1 hsw
            rw [← HN.out, ← HY.out] at hsw
            rw [← HY.out] at z2
            have HNX : Hid (nextL l = (revP (swapL l i (i + 1)) (i + 1) m (m / 2), true)) := by
              show _ = _
              unfold nextL
              simp only
              rw [← HN.out, HP2.out, if_neg (Nat.succ_ne_zero i), HM.out, Nat.add_sub_cancel, ← HX.out, ← HQ.out]
              first | rfl | (rw [HLJ.out])
            have HSL : Hid ((swapL l i (i + 1)).length = n) := by show _ = _; rw [swapL_length, HN.out]
            generalize swapL l i (i + 1) = SL at hsw HNX HSL
            have HSW : Hid (∀ k, OI 3 (((W3.drewN k).setCell ⟨g, i, none⟩ (.int .i64 y)).setCell ⟨g, i + 1, none⟩ (.int .i64 x)) lo hi (.slice (some ⟨g, 0, none⟩) n c) SL) := fun k => hsw
            have HWR : Hid (∀ k, Wr lo hi w (((W3.drewN k).setCell ⟨g, i, none⟩ (.int .i64 y)).setCell ⟨g, i + 1, none⟩ (.int .i64 x))) := fun k => ((Wr.of_below (below_drewN hbe k) lo hi).setCell (p := ⟨g, i, none⟩) hlog hghi (.int .i64 y)).setCell (p := ⟨g, i + 1, none⟩) hlog hghi (.int .i64 x)
            clear hsw hso
            go_wp2_with fail
            go_quiet (fail)
            go_wp2_with fail
            go_region
            all_goals
              go_wp2_with fail
              refine (reverse_any g c (c - (i + 1)) (i + 1) m lo hi SL _ (by rw [HSL.out]; exact HSW.out _) (by rw [HSL.out, HMN.out]; exact Nat.le_refl _) (by rw [HSL.out]; omega)).mono ?_; rintro e W5 ⟨rfl, ho5, hw5⟩
              rw [HSL.out] at ho5
              have HO5 := Lib.hid ho5
              have HW5 := Lib.hid ((HWR.out _).trans hw5)
              clear ho5 hw5
              go_wp2_with fail
              go_ret
              exact ⟨by rw [HNX.out]; rfl, by rw [HNX.out]; exact HO5.out, HW5.out⟩
          · have q1 := (hbe.cell (p := ⟨g, i + 1 + (j + 1), none⟩) hgw).trans (HC.out (i + 1 + (j + 1)) (by have := HMN.out; omega))
            have HLS : Hid (leastN l (i + 1) x (j + 1) = if l.getD (i + 1 + (j + 1)) 0 < x then leastN l (i + 1) x j else j + 1) := rfl
            obtain ⟨z, hz⟩ : ∃ z, z = l.getD (i + 1 + (j + 1)) 0 := ⟨_, rfl⟩
            rw [← hz] at q1 HLS
            have HZ := Lib.hid hz
            clear hz
            have hjm' : (j : Int) + 1 < (m : Int) := by omega
            by_cases hzx : z < x
            · have HQ2 : Hid (leastN l (i + 1) x j = leastN l (i + 1) x (m - 1)) := by
                show _ = _
                rw [← HQ.out, HLS.out, if_pos hzx]
              clear hbe
              go_wp2_with fail
              go_quiet (fail)
              go_wp2_with fail
              go_roundg j
              case measure => omega
              case rel => exact ⟨j, rfl, by omega, by go_num, HQ2, below_drewN HB3.out _⟩
            · have HLJ : Hid (leastN l (i + 1) x (j + 1) = j + 1) := by
                show _ = _
                rw [HLS.out, if_neg hzx]
              have hso := HOI.out.step hbe
              rw [HN.out] at hso
              obtain ⟨_, _, z1, z2, f1, f2, hsw⟩ := elSwap_at hso i (i + 1 + (j + 1)) (by rw [← HN.out]; omega) (by rw [← HN.out]; omega)
              rw [← HX.out] at z1 hsw
              rw [← HN.out, ← HZ.out] at hsw
              rw [← HZ.out] at z2
              have HNX : Hid (nextL l = (revP (swapL l i (i + 1 + (j + 1))) (i + 1) m (m / 2), true)) := by
                show _ = _
                unfold nextL
                simp only
                rw [← HN.out, HP2.out, if_neg (Nat.succ_ne_zero i), HM.out, Nat.add_sub_cancel, ← HX.out, ← HQ.out]
                first | rfl | (rw [HLJ.out])
              have HSL : Hid ((swapL l i (i + 1 + (j + 1))).length = n) := by show _ = _; rw [swapL_length, HN.out]
              generalize swapL l i (i + 1 + (j + 1)) = SL at hsw HNX HSL
              have HSW : Hid (∀ k, OI 3 (((W3.drewN k).setCell ⟨g, i, none⟩ (.int .i64 z)).setCell ⟨g, i + 1 + (j + 1), none⟩ (.int .i64 x)) lo hi (.slice (some ⟨g, 0, none⟩) n c) SL) := fun k => hsw
              have HWR : Hid (∀ k, Wr lo hi w (((W3.drewN k).setCell ⟨g, i, none⟩ (.int .i64 z)).setCell ⟨g, i + 1 + (j + 1), none⟩ (.int .i64 x))) := fun k => ((Wr.of_below (below_drewN hbe k) lo hi).setCell (p := ⟨g, i, none⟩) hlog hghi (.int .i64 z)).setCell (p := ⟨g, i + 1 + (j + 1), none⟩) hlog hghi (.int .i64 x)
              clear hsw hso
              go_wp2_with fail
              go_quiet (fail)
              go_wp2_with fail
              go_region
              all_goals
                go_wp2_with fail
                refine (reverse_any g c (c - (i + 1)) (i + 1) m lo hi SL _ (by rw [HSL.out]; exact HSW.out _) (by rw [HSL.out, HMN.out]; exact Nat.le_refl _) (by rw [HSL.out]; omega)).mono ?_; rintro e W5 ⟨rfl, ho5, hw5⟩
                rw [HSL.out] at ho5
                have HO5 := Lib.hid ho5
                have HW5 := Lib.hid ((HWR.out _).trans hw5)
                clear ho5 hw5
                go_wp2_with fail
                go_ret
                exact ⟨by rw [HNX.out]; rfl, by rw [HNX.out]; exact HO5.out, HW5.out⟩

end Go.Proofs.Ytgmknndmmpoliaa
