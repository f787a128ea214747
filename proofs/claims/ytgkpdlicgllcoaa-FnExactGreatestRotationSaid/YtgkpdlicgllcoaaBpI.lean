/-
  Chapter 9: the program's TimedVisits and GreatestRotation.
-/
import Derived.Test.YtgkpdlicgllcoaaBpH
namespace Go.Proofs.Ytgkpdlicgllcoaa
open Go.RowKit
set_option maxRecDepth 100000
set_option linter.unusedVariables false
theorem PrS.start {T : TypeId} {w : World} {lo : Nat} {v : Value} (h : w.ownsRow lo T 1 v 0 []) : PrS T w lo v (.slice none 0 0) [] [] :=
  ⟨[], rfl, h, fun r hm => by simp at hm, List.Pairwise.nil, World.ownsRow_nil _ _ _ _, fun r hm => by simp at hm⟩
/-- Rows of three, one behind the other: each row of them. -/
theorem row3_at (A : List (List Int)) (h : ∀ l ∈ A, l.length = 3) (i : Nat) (hi : i < A.length) : A.getD i [] = [A.flatten.getD (i * 3) 0, A.flatten.getD (i * 3 + 1) 0, A.flatten.getD (i * 3 + 2) 0] := by
  induction A generalizing i with
  | nil => simp at hi
  | cons a A ih =>
    have ha := h a (by simp)
    have hA : ∀ l ∈ A, l.length = 3 := fun l hl => h l (by simp [hl])
    cases i with
    | zero =>
      match a, ha with
      | [p, q, r], _ => simp
    | succ i =>
      have k : ∀ j, ((a :: A).flatten).getD ((i + 1) * 3 + j) 0 = A.flatten.getD (i * 3 + j) 0 := by
        intro j
        rw [List.flatten_cons, List.getD_eq_getElem?_getD, List.getElem?_append_right (by omega), ha, show (i + 1) * 3 + j - 3 = i * 3 + j by omega, ← List.getD_eq_getElem?_getD]
      have k0 := k 0
      simp only [Nat.add_zero] at k0
      rw [k0, k 1, k 2, ← ih hA i (by simp at hi; omega)]
      simp [List.getD]
theorem take_rows (A : List (List Int)) (k : Nat) (hk : k < A.length) : A.take (k + 1) = A.take k ++ [A.getD k []] := by
  rw [List.take_add_one]
  simp [List.getD, hk]
theorem tv_fin {w1 w3 w4 wr W w7 : World} {v v7 : Value} {n : Nat} (hob : ∀ kk, v.ownBlock = some kk → kk = w1.heap.size ∨ w4.heap.size ≤ kk) (hkp : ∀ kk, w3.heap.size ≤ kk → kk < w4.heap.size → wr.heap[kk]? = w4.heap[kk]?)
    (hsz : w4.heap.size ≤ wr.heap.size) (hgm : w1.heap.size < w3.heap.size) (hs6 : W.heap.size = n + 1 + 1) (hk5 : ∀ kk, kk < w4.heap.size → W.heap[kk]? = wr.heap[kk]?) (hk7 : ∀ k, k < W.heap.size → v.ownBlock ≠ some k → w7.heap[k]? = W.heap[k]?)
    (ho7 : v7.ownBlock = v.ownBlock ∨ ∃ b, v7.ownBlock = some b ∧ W.heap.size ≤ b) (hW : w4.heap.size ≤ W.heap.size) (hsz7 : W.heap.size ≤ w7.heap.size) :
    (∀ kk, v7.ownBlock = some kk → kk = w1.heap.size ∨ w4.heap.size ≤ kk) ∧ (∀ kk, w3.heap.size ≤ kk → kk < w4.heap.size → w7.heap[kk]? = w4.heap[kk]?) ∧ w4.heap.size ≤ w7.heap.size := by
  refine ⟨fun kk hk => ?_, fun kk h1 h2 => ?_, by omega⟩
  · rcases ho7 with e | ⟨b, e, hb⟩
    · rw [e] at hk
      exact hob kk hk
    · rw [e] at hk
      injection hk with hk
      right; omega
  · rw [hk7 kk (by omega) (fun e => by have := hob kk e; omega), hk5 kk h2]
    exact hkp kk h1 h2
set_option maxHeartbeats 2000000 in
theorem implGreatestRotation_any (v0 v : Value) (x : Tm) (L : List (List Int)) (w : World) (h : RTm w w.heap.size v0 x) (h2 : RS w w.heap.size v L) (hd : x.d.length ≤ 1048576) (hn : L.length ≤ 1048576) (ht : total L ≤ 1048576) :
    Calls Try.prog 57 #[v0, v] w (RetV w (.tuple #[.int .i64 (grSays x L).1, .bool (grSays x L).2])) := by
  obtain ⟨s0, rfl, h⟩ := h
  have H1 := Lib.hid fun W (hb : Below w.heap.size w W) => implAskT_any s0 v x L W ((h.below hb).more hb.size) ((h2.below hb).more hb.size) hn ht hd
  have H2 := Lib.hid fun (ha : askT x L = true) W (hb : Below w.heap.size w W) => rotationsAcc_any s0 v x L W ((h.below hb).more hb.size) ((h2.below hb).more hb.size) ha
  have HMI := Lib.hid fun m h1 h2 => max_is (rotT x L) m h1 h2
  have HLN := Lib.hid fun (ha : askT x L = true) => (show (rotT x L).length ≤ 240 from by
    have h9 := ha
    simp only [askT, Bool.and_eq_true] at h9
    have h8 : L.length * x.d.length ≤ 20 * 12 := Nat.mul_le_mul (wishOk_len h9.2) (tmOk_in h9.1).1.2
    rw [rotT_length]
    omega)
  obtain ⟨i0, hi, hz0, hz1, hz2⟩ := info_parts int_info
  cases hg : askT x L
  · rw [show grSays x L = (0, false) from by simp [grSays, hg]]
    rw [hg] at H1
    clear hg H2
    obtain ⟨VV, VA, vc, rfl, hV, hvl, hvc, hvr⟩ := h2
    obtain ⟨t, k, d⟩ := x
    simp only [TmV] at *
    obtain ⟨A, c, rfl, hlc, hc⟩ := h
    clear hc
    have hW : Below w.heap.size w (w.alloc (.cells #[.int .i64 t, .int .i64 k, .slice A d.length c] 27)) := (Below.refl _ _).alloc (Nat.le_refl _) _
    go_enter Try.func57, Try.ntmps57
    go_wp2_with fail
    refine (H1.out _ hW).mono ?_; rintro e w1 ⟨rfl, hb⟩
    go_wp2_with fail
    go_ret2
    exact ⟨rfl, hW.trans (hb.mono hW.size)⟩
  have H2 := Lib.hid (H2.out hg)
  rw [hg] at H1
  rw [show grSays x L = ((rotT x L).foldl max 0, true) from by simp [grSays, hg]]
  have hlen := HLN.out hg
  generalize rotT x L = RO at *
  clear HLN
  clear hg
  obtain ⟨VV, VA, vc, rfl, hV, hvl, hvc, hvr⟩ := h2
  obtain ⟨t, k, d⟩ := x
  simp only [TmV] at *
  obtain ⟨A, c, rfl, hlc, hc⟩ := h
  clear hc
  clear hvc hvr
  have p0 := BK.made w 27 #[.int .i64 t, .int .i64 k, .slice A d.length c]
  have hW : Below w.heap.size w (w.alloc (.cells #[.int .i64 t, .int .i64 k, .slice A d.length c] 27)) := (Below.refl _ _).alloc (Nat.le_refl _) _
  go_enter Try.func57, Try.ntmps57
  go_wp2_with fail
  refine (H1.out _ hW).mono ?_; rintro e w1 ⟨rfl, hb⟩
  have p1 := p0.step hb
  have c0 := p1.cell 0
  have c1 := p1.cell 1
  have c2 := p1.cell 2
  simp at c0 c1 c2
  have HT1 := Lib.hid (hW.trans (hb.mono hW.size))
  have HP1 := Lib.hid p1
  clear p0 p1 hW hb
  go_wp2_with fail
  refine (H2.out _ HT1.out).mono ?_; rintro e w2 ⟨u2, rfl, ha2, hb2⟩
  have HA := Lib.hid ha2
  have HT2 := Lib.hid (HT1.out.trans (hb2.mono HT1.out.size))
  have hl9 : (RO.length : Int) ≤ 240 := by omega
  have HSZ := Lib.hid (Nat.le_trans HT1.out.size hb2.size)
  have HS9 : Hid (w1.heap.size ≤ w2.heap.size) := hb2.size
  clear ha2 hb2 c0 c1 c2
  go_wp2_with (at_builtin; refine wpList_push rfl (.tmp 12) (.tmp 13) 22 rfl 3 i0 Try.underlying22 hi hz0 hz1 hz2 w2 w2 w1.heap.size _ RO 0 rfl rfl HA.out rfl (by omega) HS9.out (Below.refl _ _) ?_; intro v3 w3 ha3 hb3; have HA3 := Lib.hid ha3; have HB3 := Lib.hid hb3; clear ha3 hb3)
  have HMX := Lib.hid (tmMax_any _ _ w3 HA3.out.oi.ri (by simp; omega) (by simp))
  have HT3 := Lib.hid (HT2.out.trans (HB3.out.mono HT1.out.size))
  refine HMX.out.mono ?_; rintro e w4 ⟨m, rfl, hm1, hm2, rfl⟩
  have HE := Lib.hid (HMI.out m hm1 hm2)
  clear hm1 hm2
  go_wp2_with fail
  go_ret2
  rw [← HE.out]
  exact ⟨rfl, HT3.out⟩
set_option maxHeartbeats 2000000 in
theorem implTimedVisits_any (v0 v : Value) (x : Tm) (L : List (List Int)) (w : World) (h : RTm w w.heap.size v0 x) (h2 : RS w w.heap.size v L) (hd : x.d.length ≤ 1048576) (hn : L.length ≤ 1048576) (ht : total L ≤ 1048576) :
    Calls Try.prog 49 #[v0, v] w (RetSB w (tvSays x L).1 (tvSays x L).2) := by
  obtain ⟨s0, rfl, h⟩ := h
  have H1 := Lib.hid fun W (hb : Below w.heap.size w W) => implAskT_any s0 v x L W ((h.below hb).more hb.size) ((h2.below hb).more hb.size) hn ht hd
  have H2 := Lib.hid fun (ha : askT x L = true) W (hb : Below w.heap.size w W) => timedVisits_any s0 v x L W ((h.below hb).more hb.size) ((h2.below hb).more hb.size) ha
  have HR3 := Lib.hid fun i hi => row3_at (vrR x L L.length) (vrR_three x L _) i hi
  have HTR := Lib.hid fun k hk => take_rows (vrR x L L.length) k hk
  have HVL := Lib.hid (vrR_length x L L.length)
  have HFL : Hid ((vrR x L L.length).flatten.length = L.length * x.d.length * 3) := by show _ = _; rw [flat_len3 _ (vrR_three x L _), vrR_length]
  obtain ⟨iS, hiS, hS0, hS1, hS2⟩ := info_parts intSS_info
  cases hg : askT x L
  · rw [show tvSays x L = ([], false) from by simp [tvSays, hg]]
    rw [hg] at H1
    clear hg H2
    obtain ⟨VV, VA, vc, rfl, hV, hvl, hvc, hvr⟩ := h2
    obtain ⟨t, k, d⟩ := x
    simp only [TmV] at *
    obtain ⟨A, c, rfl, hlc, hc⟩ := h
    clear hc
    have hW : Below w.heap.size w (w.alloc (.cells #[.int .i64 t, .int .i64 k, .slice A d.length c] 27)) := (Below.refl _ _).alloc (Nat.le_refl _) _
    go_enter Try.func49, Try.ntmps49
    go_wp2_with fail
    refine (H1.out _ hW).mono ?_; rintro e w1 ⟨rfl, hb⟩
    go_wp2_with fail
    go_ret2
    exact ⟨_, rfl, OS.nil _ _ _ _ _, hW.trans (hb.mono hW.size)⟩
  have H2 := Lib.hid (H2.out hg)
  rw [hg] at H1
  rw [show tvSays x L = (vrR x L L.length, true) from by simp [tvSays, hg]]
  have hask2 := hg
  simp only [askT, Bool.and_eq_true] at hask2
  have hin := tmOk_in hask2.1
  have hL20 := wishOk_len hask2.2
  clear hask2
  generalize vrR x L L.length = VR at *
  generalize VR.flatten = VF at *
  clear hg
  obtain ⟨VV, VA, vc, rfl, hV, hvl, hvc, hvr⟩ := h2
  obtain ⟨t, k, d⟩ := x
  simp only [TmV] at *
  obtain ⟨A, c, rfl, hlc, hc⟩ := h
  clear hc
  clear hvc hvr
  have p0 := BK.made w 27 #[.int .i64 t, .int .i64 k, .slice A d.length c]
  have hW : Below w.heap.size w (w.alloc (.cells #[.int .i64 t, .int .i64 k, .slice A d.length c] 27)) := (Below.refl _ _).alloc (Nat.le_refl _) _
  go_enter Try.func49, Try.ntmps49
  go_wp2_with fail
  refine (H1.out _ hW).mono ?_; rintro e w1 ⟨rfl, hb⟩
  have p1 := p0.step hb
  have c0 := p1.cell 0
  have c1 := p1.cell 1
  have c2 := p1.cell 2
  simp at c0 c1 c2
  have HT1 := Lib.hid (hW.trans (hb.mono hW.size))
  have HP1 := Lib.hid p1
  clear p0 p1 hW hb
  obtain ⟨N, hN⟩ : ∃ N, N = L.length * d.length := ⟨_, rfl⟩
  have hN2 : N ≤ 20 * 12 := by rw [hN]; exact Nat.mul_le_mul hL20 hin.1.2
  have eN : IntKind.i64.wrap ((L.length : Int) * (d.length : Int)) = (N : Int) := by
    rw [IntWalk.i64_in _ (by rw [← Int.natCast_mul, ← hN]; omega), hN, Int.natCast_mul]
  have eN2 : (L.length : Int) * (d.length : Int) = (N : Int) := by rw [hN, Int.natCast_mul]
  rw [← hN] at H2 HVL HFL
  have hN' : (N : Int) ≤ 240 := by omega
  clear hN
  have HCLL : Hid (∀ W, Below w1.heap.size w1 W → W.cell? ⟨w.heap.size, 0, none⟩ = some (.int .i64 t) ∧ W.cell? ⟨w.heap.size, 1, none⟩ = some (.int .i64 k) ∧ W.cell? ⟨w.heap.size, 2, none⟩ = some (.slice A d.length c)) := by
    show ∀ W, _
    intro W hb
    have p9 := HP1.out.step hb
    have c0 := p9.cell 0
    have c1 := p9.cell 1
    have c2 := p9.cell 2
    simp at c0 c1 c2
    exact ⟨c0, c1, c2⟩
  go_wp2_with (at_make; refine wpList_make_own _ rfl _ _ 59 rfl w1.heap.size 22 iS _ 1 Try.underlying59 hiS hS0 hS1 _ _ _ N rfl rfl (by omega) (by rw [hS2]; omega) (by unfold maxLen; omega) (Nat.le_refl _) ?_; intro w3 hown hg3; have hb3 : Below w1.heap.size w1 w3 := ((Below.refl _ _).grown hg3 (Nat.le_refl _) (by intro k hk; cases hk)); obtain ⟨q0, q1, q2⟩ := HCLL.out w3 hb3)
  have HB3 := Lib.hid hb3
  have HT3 := Lib.hid (HT1.out.trans (hb3.mono HT1.out.size))
  have HPR := Lib.hid (PrS.start hown)
  have HGM : Hid (w1.heap.size < w3.heap.size) := (row_parts hown).2.1
  clear hown hg3 hb3 c0 c1 c2
  refine (H2.out _ HT3.out).mono ?_; rintro e w4 ⟨u4, rfl, hok, hb4⟩
  have hrk := hok.rk
  have HUB : Hid (∀ b off, u4 = .slice (some ⟨b, off, none⟩) N b → True) := fun _ _ _ => trivial
  clear HUB
  have hlo4 : ∀ ad n c, u4 = .slice (some ad) n c → 0 < N → w3.heap.size ≤ ad.block := by
    intro ad n c he hN0
    rcases hok with ⟨h0, _⟩ | ⟨g, c', hv9, hg1, _⟩
    · omega
    · rw [hv9] at he
      injection he with he
      injection he with he
      rw [← he]
      exact hg1
  obtain ⟨UA, uc, rfl, hul, hulc, hucell⟩ := hrk
  have HUC := Lib.hid hucell
  have HLO4 := Lib.hid hlo4
  have HT4 := Lib.hid (HT3.out.trans (hb4.mono HT3.out.size))
  have HPR4 := Lib.hid (HPR.out.step hb4)
  have HS4 : Hid (w3.heap.size ≤ w4.heap.size) := hb4.size
  have HB14 : Hid (Below w1.heap.size w1 w4) := HB3.out.trans (hb4.mono HB3.out.size)
  clear hok hb4 hucell hlo4 hul q0 q1 q2
  go_wp2_with fail
  go_loopg [24, 6] N (fun g s24 s6 wx => ∃ k9 : Nat, k9 + g = N ∧ s24 = .int .i64 (k9 : Int) ∧ PrS 22 wx w1.heap.size s6 (.slice none 0 0) (VR.take k9) [] ∧ (∀ kk, s6.ownBlock = some kk → kk = w1.heap.size ∨ w4.heap.size ≤ kk) ∧ (∀ kk, w3.heap.size ≤ kk → kk < w4.heap.size → wx.heap[kk]? = w4.heap[kk]?) ∧ w4.heap.size ≤ wx.heap.size ∧ Below w1.heap.size w1 wx)
  case atStart => exact ⟨0, by omega, rfl, by rw [List.take_zero]; exact HPR4.out, (fun kk hk => by simp [Value.ownBlock] at hk; exact .inl hk.symm), fun _ _ _ => rfl, Nat.le_refl _, HB14.out⟩
  case round =>
    clear HPR HPR4
    obtain ⟨k9, hkg, rfl, hpr, hob, hkp, hsz, hb⟩ := hrel
    cases gk with
    | zero =>
      have hke : k9 = N := by omega
      have hz : ¬ ((N : Int) < (N : Int)) := by omega
      have hVN : VR.length = N := HVL.out
      rw [hke, ← hVN, List.take_length] at hpr
      rw [hke]
      have HO := Lib.hid (hpr.os.wide HT1.out.size (Nat.le_refl _))
      have HB := Lib.hid (HT1.out.trans (hb.mono HT1.out.size))
      clear hpr hob hkp hsz hb hkg hke hVN
      go_wp2_with fail
      go_ret2
      exact ⟨_, rfl, HO.out, HB.out⟩
    | succ g =>
      have hk : k9 < N := by omega
      have hk' : (k9 : Int) < (N : Int) := by omega
      obtain ⟨b, off, rfl, hbB, hcell⟩ := HUC.out (by omega)
      have hb3 := HLO4.out _ _ _ rfl (by omega)
      simp only at hb3
      have hcl : ∀ j, j < N * 3 → wr.cell? ⟨b, off + j, none⟩ = some (.int .i64 (VF.getD j 0)) := fun j hj => (World.cell?_of_block (hkp b hb3 hbB)).trans (hcell j hj)
      have hy0 := hcl (k9 * 3) (by omega)
      have hy1 := hcl (k9 * 3 + 1) (by omega)
      have hy2 := hcl (k9 * 3 + 2) (by omega)
      rw [← Nat.add_assoc] at hy1 hy2
      have hrow := HR3.out k9 (by rw [HVL.out]; exact hk)
      have HTK := Lib.hid (HTR.out k9 (by rw [HVL.out]; exact hk))
      rw [hrow] at HTK
      generalize VF.getD (k9 * 3) 0 = T at *
      generalize VF.getD (k9 * 3 + 1) 0 = st at *
      generalize VF.getD (k9 * 3 + 2) 0 = fr at *
      obtain ⟨w5, hw5⟩ : ∃ w5, w5 = wr.alloc (.cells #[.int .i64 T, .int .i64 st, .int .i64 fr] 83) := ⟨_, rfl⟩
      have hs5 : w5.heap.size = wr.heap.size + 1 := by rw [hw5]; simp
      have hbr : Below wr.heap.size wr w5 := by rw [hw5]; exact (Below.refl _ _).alloc (Nat.le_refl _) _
      have hou := litN9 (E := 3) (w := w5) [T, st, fr] 3 #[.int .i64 T, .int .i64 st, .int .i64 fr] rfl (by omega) rfl (by simp)
      have hs6 : (w5.alloc (.cells #[.int .i64 T, .int .i64 st, .int .i64 fr] 3)).heap.size = wr.heap.size + 1 + 1 := by simp [hs5]
      have hbl : Below w5.heap.size w5 (w5.alloc (.cells #[.int .i64 T, .int .i64 st, .int .i64 fr] 3)) := (Below.refl _ _).alloc (Nat.le_refl _) _
      have HPS := Lib.hid (hpr.step hbr)
      have HBL := Lib.hid hbl
      have hlo5 : w1.heap.size ≤ w5.heap.size := by have := hb.size; omega
      have HLO5 := Lib.hid hlo5
      have HBB := Lib.hid (hb.trans ((hbr.mono hb.size).trans (hbl.mono hlo5)))
      have HLN : Hid ((VR.take k9).length < 1000000) := by show _ < _; rw [List.length_take]; omega
      have HK5 : Hid (∀ kk, kk < w4.heap.size → (w5.alloc (.cells #[.int .i64 T, .int .i64 st, .int .i64 fr] 3)).heap[kk]? = wr.heap[kk]?) := fun kk hk9 => (hbl.block kk (by omega)).trans (hbr.block kk (by omega))
      have HW46 : Hid (w4.heap.size ≤ (w5.alloc (.cells #[.int .i64 T, .int .i64 st, .int .i64 fr] 3)).heap.size) := by show _ ≤ _; rw [hs6]; omega
      have HOB := Lib.hid hob
      have HKP := Lib.hid hkp
      have HS6 := Lib.hid hs6
      have HSZ := Lib.hid hsz
      have HGB : Hid (w1.heap.size < w3.heap.size) := HGM.out
      rw [hw5] at HPS HBL HBB HK5 HS6 HLO5 HW46 hou
      rw [show (wr.alloc (.cells #[.int .i64 T, .int .i64 st, .int .i64 fr] 83)).heap.size = wr.heap.size + 1 from by simp] at hou
      have HOU := Lib.hid hou
      have HS5 : Hid ((wr.alloc (.cells #[.int .i64 T, .int .i64 st, .int .i64 fr] 83)).heap.size = wr.heap.size + 1) := by show _ = _; simp
      clear hpr hob hkp hsz hb hcell hcl hrow hs5 hs6 hbr hbl hlo5 hou hw5 hb3
      go_wp2_with (at_builtin; refine wpList_pushSP rfl (.tmp 28) (.tmp 36) 59 rfl 22 (by decide) iS Try.underlying59 hiS hS0 hS1 hS2 (wr.alloc (.cells #[.int .i64 T, .int .i64 st, .int .i64 fr] 83)) ((wr.alloc (.cells #[.int .i64 T, .int .i64 st, .int .i64 fr] 83)).alloc (.cells #[.int .i64 T, .int .i64 st, .int .i64 fr] 3)) w1 w1.heap.size _ (.slice (some ⟨wr.heap.size + 1, 0, none⟩) 3 3) _ _ _ [T, st, fr] rfl rfl HPS.out HBL.out (by rw [HS5.out]; exact HOU.out) (by simp) HLO5.out (by rw [HS6.out]; rfl) HLN.out HBB.out ?_; intro v7 w7 hp7 hb7 hk7 ho7; have HP7 := Lib.hid hp7; have HB7 := Lib.hid hb7; have HFIN : Hid ((∀ kk, v7.ownBlock = some kk → kk = w1.heap.size ∨ w4.heap.size ≤ kk) ∧ (∀ kk, w3.heap.size ≤ kk → kk < w4.heap.size → w7.heap[kk]? = w4.heap[kk]?) ∧ w4.heap.size ≤ w7.heap.size) := tv_fin HOB.out HKP.out HSZ.out HGB.out HS6.out HK5.out hk7.1 ho7 HW46.out hk7.2; clear hp7 hb7 hk7 ho7)
      go_roundg g
      case measure => omega
      case rel => exact ⟨k9 + 1, by omega, by go_num, by rw [HTK.out]; exact HP7.out, HFIN.out.1, HFIN.out.2.1, HFIN.out.2.2, HB7.out⟩
end Go.Proofs.Ytgkpdlicgllcoaa
