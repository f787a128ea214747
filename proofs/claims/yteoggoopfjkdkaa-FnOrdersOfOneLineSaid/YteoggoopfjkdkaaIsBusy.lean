/-
  IsBusySchedule: the program's side.
-/
import Derived.Test.YteoggoopfjkdkaaBusy
import Derived.Test.YteoggoopfjkdkaaMathHeld
namespace Go.Proofs.Yteoggoopfjkdkaa
open Go.RowKit
set_option maxRecDepth 100000
set_option linter.unusedVariables false

theorem list_ne_at {l m : List Int} {k : Nat} (h : l.getD k 0 ≠ m.getD k 0) : l ≠ m := fun e => h (by rw [e])
theorem list_eq_of {l m : List Int} (hl : l.length = m.length) (h : ∀ j, j < l.length → l.getD j 0 = m.getD j 0) : l = m := by
  apply List.ext_getElem hl
  intro i h1 h2
  have := h i h1
  simpa [List.getD, h1, h2] using this
theorem listS_ne_at {l m : List (List Int)} {k : Nat} (h : l.getD k [] ≠ m.getD k []) : l ≠ m := fun e => h (by rw [e])
theorem listS_eq_of {l m : List (List Int)} (hl : l.length = m.length) (h : ∀ j, j < l.length → l.getD j [] = m.getD j []) : l = m := by
  apply List.ext_getElem hl
  intro i h1 h2
  have := h i h1
  simpa [List.getD, h1, h2] using this
set_option maxHeartbeats 2000000 in
theorem equalInt_any (v u : Value) (l m : List Int) (w : World) (h : RI w w.heap.size v l) (h' : RI w w.heap.size u m) (hn : l.length ≤ 1048576) (hn2 : m.length ≤ 1048576) :
    Calls Try.prog 54 #[v, u] w (RetV w (.bool (decide (l = m)))) := by
  obtain ⟨A, c, rfl, _, hc⟩ := h
  obtain ⟨A2, c2, rfl, _, hc2⟩ := h'
  obtain ⟨R, hR⟩ : ∃ R, decide (l = m) = R := ⟨_, rfl⟩
  rw [hR]
  have hn' : (l.length : Int) ≤ 1048576 := by omega
  have hn2' : (m.length : Int) ≤ 1048576 := by omega
  have HNE : Hid (∀ k, l.getD k 0 ≠ m.getD k 0 → R = false) := fun k h9 => by rw [← hR]; exact decide_eq_false (list_ne_at h9)
  have HEQ : Hid (l.length = m.length → (∀ j, j < l.length → l.getD j 0 = m.getD j 0) → R = true) := fun h8 h9 => by rw [← hR]; exact decide_eq_true (list_eq_of h8 h9)
  have HLN : Hid (l.length ≠ m.length → R = false) := fun h8 => by rw [← hR]; exact decide_eq_false (fun e => h8 (by rw [e]))
  clear hR
  obtain ⟨n, hN⟩ : ∃ n, l.length = n := ⟨_, rfl⟩
  obtain ⟨k2, hK⟩ : ∃ n, m.length = n := ⟨_, rfl⟩
  rw [hN] at hc hn' HEQ HLN ⊢
  rw [hK] at hc2 hn2' HEQ HLN ⊢
  clear hN hK hn hn2
  by_cases hlen : n = k2
  · subst hlen
    have HEQ2 := Lib.hid (HEQ.out rfl)
    have HC := Lib.hid hc
    have HC2 := Lib.hid hc2
    clear HEQ HLN hc hc2
    go_enter Try.func54, Try.ntmps54
    go_wp2_with fail
    go_loopg [13] n (fun f i wr => ∃ k : Nat, k ≤ n ∧ f = n - k ∧ i = .int .i64 k ∧ (∀ j, j < k → l.getD j 0 = m.getD j 0) ∧ Below w.heap.size w wr)
    case atStart => exact ⟨0, Nat.zero_le _, rfl, rfl, fun j hj => absurd hj (by omega), Below.refl _ _⟩
    case round =>
      obtain ⟨k, hk, hgk, rfl, hall, hb⟩ := hrel
      have HAL := Lib.hid hall
      have HGK := Lib.hid hgk
      have HB := Lib.hid hb
      clear hall hgk
      by_cases hlt : k < n
      · have hki : (k : Int) < (n : Int) := by omega
        obtain ⟨b, off, rfl, hbB, hcell⟩ := HC.out (by omega)
        obtain ⟨b2, off2, rfl, hbB2, hcell2⟩ := HC2.out (by omega)
        have hcx := (hb.cell (p := ⟨b, off + k, none⟩) hbB).trans (hcell k hlt)
        have hcy := (hb.cell (p := ⟨b2, off2 + k, none⟩) hbB2).trans (hcell2 k hlt)
        have HN1 := Lib.hid (HNE.out k)
        have HNX : Hid (l.getD k 0 = m.getD k 0 → ∀ j, j < k + 1 → l.getD j 0 = m.getD j 0) := fun h9 j hj => by
          by_cases e : j = k
          · rw [e]; exact h9
          · exact HAL.out j (by omega)
        clear hcell hcell2 hb
        generalize l.getD k 0 = x at hcx HN1 HNX
        generalize m.getD k 0 = y at hcy HN1 HNX
        by_cases hxy : x = y
        · have HX := Lib.hid (HNX.out hxy)
          have hq : (x != y) = false := by simp [hxy]
          clear hxy
          go_wp2_with fail
          go_quiet (fail)
          go_wp2_with fail
          go_roundg (n - (k + 1))
          case rel => exact ⟨k + 1, by omega, rfl, by go_num, HX.out, below_drewN HB.out _⟩
          case measure => have := HGK.out; omega
        · have HX := Lib.hid (HN1.out hxy)
          have hq : (x != y) = true := by simp [hxy]
          clear hxy
          go_wp2_with fail
          go_quiet (fail)
          go_wp2_with fail
          go_ret
          exact ⟨congrArg (fun z => Ending.returned (.bool z)) HX.out.symm, below_drewN HB.out _⟩
      · obtain rfl : n = k := by omega
        have HX := Lib.hid (HEQ2.out HAL.out)
        go_wp2_with fail
        go_ret
        exact ⟨congrArg (fun z => Ending.returned (.bool z)) HX.out.symm, hb⟩
  · have HX := Lib.hid (HLN.out hlen)
    have hq : ((n : Int) != (k2 : Int)) = true := by simp; omega
    clear hlen HLN HEQ HNE hc hc2
    go_enter Try.func54, Try.ntmps54
    go_wp2_with fail
    go_ret
    exact ⟨congrArg (fun z => Ending.returned (.bool z)) HX.out.symm, Below.refl _ _⟩
set_option maxHeartbeats 4000000 in
theorem equalRows_any (v u : Value) (L M : List (List Int)) (w : World) (h : RS w w.heap.size v L) (h' : RS w w.heap.size u M) (hn : L.length ≤ 1048576) (hn2 : M.length ≤ 1048576)
    (hL : ∀ j, j < L.length → (L.getD j []).length ≤ 1048576) (hM : ∀ j, j < M.length → (M.getD j []).length ≤ 1048576) :
    Calls Try.prog 52 #[v, u, .func (.func 54) #[] #[]] w (RetV w (.bool (decide (L = M)))) := by
  obtain ⟨V, A, c, rfl, hV, _, hc, hr⟩ := h
  obtain ⟨V2, A2, c2, rfl, hV2, _, hc2, hr2⟩ := h'
  obtain ⟨R, hR⟩ : ∃ R, decide (L = M) = R := ⟨_, rfl⟩
  rw [hR]
  have hn' : (L.length : Int) ≤ 1048576 := by omega
  have hn2' : (M.length : Int) ≤ 1048576 := by omega
  have HNE : Hid (∀ k, decide (L.getD k [] = M.getD k []) = false → R = false) := fun k h9 => by rw [← hR]; exact decide_eq_false (listS_ne_at (of_decide_eq_false h9))
  have HEQ : Hid (L.length = M.length → (∀ j, j < L.length → L.getD j [] = M.getD j []) → R = true) := fun h8 h9 => by rw [← hR]; exact decide_eq_true (listS_eq_of h8 h9)
  have HLN : Hid (L.length ≠ M.length → R = false) := fun h8 => by rw [← hR]; exact decide_eq_false (fun e => h8 (by rw [e]))
  have HCL := Lib.hid (fun (k : Nat) (wx : World) (h1 : k < L.length) (h2 : k < M.length) (hb : Below w.heap.size w wx) => equalInt_any (V.getD k undef) (V2.getD k undef) (L.getD k []) (M.getD k []) wx (((hr k h1).below hb).more hb.size) (((hr2 k h2).below hb).more hb.size) (hL k h1) (hM k h2))
  have HV1 : Hid (∀ k, k < L.length → ∃ a n c, V.getD k undef = .slice a n c) := fun k hk => by obtain ⟨a, c, h9, _⟩ := hr k hk; exact ⟨a, _, c, h9⟩
  have HV2 : Hid (∀ k, k < M.length → ∃ a n c, V2.getD k undef = .slice a n c) := fun k hk => by obtain ⟨a, c, h9, _⟩ := hr2 k hk; exact ⟨a, _, c, h9⟩
  clear hR hr hr2 hL hM hV hV2
  obtain ⟨n, hN⟩ : ∃ n, L.length = n := ⟨_, rfl⟩
  obtain ⟨k2, hK⟩ : ∃ n, M.length = n := ⟨_, rfl⟩
  rw [hN] at hc hn' HEQ HLN HCL HV1 ⊢
  rw [hK] at hc2 hn2' HEQ HLN HCL HV2 ⊢
  clear hN hK hn hn2
  by_cases hlen : n = k2
  · subst hlen
    have HEQ2 := Lib.hid (HEQ.out rfl)
    have HC := Lib.hid hc
    have HC2 := Lib.hid hc2
    clear HEQ HLN hc hc2
    go_enter Try.func52, Try.ntmps52
    go_wp2_with fail
    go_loopg [17] n (fun f i wr => ∃ k : Nat, k ≤ n ∧ f = n - k ∧ i = .int .i64 k ∧ (∀ j, j < k → L.getD j [] = M.getD j []) ∧ Below w.heap.size w wr)
    case atStart => exact ⟨0, Nat.zero_le _, rfl, rfl, fun j hj => absurd hj (by omega), Below.refl _ _⟩
    case round =>
      obtain ⟨k, hk, hgk, rfl, hall, hb⟩ := hrel
      have HAL := Lib.hid hall
      have HGK := Lib.hid hgk
      have HB := Lib.hid hb
      clear hall hgk
      by_cases hlt : k < n
      · have hki : (k : Int) < (n : Int) := by omega
        obtain ⟨b, off, rfl, hbB, hcell⟩ := HC.out (by omega)
        obtain ⟨b2, off2, rfl, hbB2, hcell2⟩ := HC2.out (by omega)
        have hcx := (hb.cell (p := ⟨b, off + k, none⟩) hbB).trans (hcell k hlt)
        have hcy := (hb.cell (p := ⟨b2, off2 + k, none⟩) hbB2).trans (hcell2 k hlt)
        have HN1 := Lib.hid (HNE.out k)
        have HNX : Hid (decide (L.getD k [] = M.getD k []) = true → ∀ j, j < k + 1 → L.getD j [] = M.getD j []) := fun h9 j hj => by
          by_cases e : j = k
          · rw [e]; exact of_decide_eq_true h9
          · exact HAL.out j (by omega)
        have HCK := Lib.hid (HCL.out k wr hlt hlt hb)
        obtain ⟨xa, xn, xc, hxv⟩ := HV1.out k hlt
        obtain ⟨ya, yn, yc, hyv⟩ := HV2.out k hlt
        rw [hxv] at hcx HCK
        rw [hyv] at hcy HCK
        clear hcell hcell2 hb hxv hyv
        cases hd : decide (L.getD k [] = M.getD k [])
        · rw [hd] at HCK
          have HX := Lib.hid (HN1.out hd)
          clear hd
          go_wp2_with fail
          refine HCK.out.mono ?_; rintro e w5 ⟨rfl, hb5⟩
          have HB5 := Lib.hid (HB.out.trans (hb5.mono HB.out.size))
          clear hb5
          go_wp2_with fail
          go_ret
          exact ⟨congrArg (fun z => Ending.returned (.bool z)) HX.out.symm, HB5.out⟩
        · rw [hd] at HCK
          have HX := Lib.hid (HNX.out hd)
          clear hd
          go_wp2_with fail
          refine HCK.out.mono ?_; rintro e w5 ⟨rfl, hb5⟩
          have HB5 := Lib.hid (HB.out.trans (hb5.mono HB.out.size))
          clear hb5
          go_wp2_with fail
          go_roundg (n - (k + 1))
          case rel => exact ⟨k + 1, by omega, rfl, by go_num, HX.out, HB5.out⟩
          case measure => have := HGK.out; omega
      · obtain rfl : n = k := by omega
        have HX := Lib.hid (HEQ2.out HAL.out)
        go_wp2_with fail
        go_ret
        exact ⟨congrArg (fun z => Ending.returned (.bool z)) HX.out.symm, hb⟩
  · have HX := Lib.hid (HLN.out hlen)
    have hq : ((n : Int) != (k2 : Int)) = true := by simp; omega
    clear hlen HLN HEQ HNE hc hc2
    go_enter Try.func52, Try.ntmps52
    go_wp2_with fail
    go_ret
    exact ⟨congrArg (fun z => Ending.returned (.bool z)) HX.out.symm, Below.refl _ _⟩
set_option maxHeartbeats 4000000 in
theorem implIsBusySchedule_any (v u : Value) (js : List Jb) (ss : List Int) (w : World) (h : RJbS w w.heap.size v js) (h' : RI w w.heap.size u ss) (hn : js.length ≤ 1048576) (hn2 : ss.length ≤ 1048576) :
    Calls Try.prog 24 #[v, u] w (RetV w (.tuple #[.bool (isBusyOf js ss).1, .bool (isBusyOf js ss).2])) := by
  have HG := Lib.hid (implGiven_any v u js ss w h h' hn hn2)
  cases hg : givenB js ss
  · have HF : isBusyOf js ss = (false, false) := by simp [isBusyOf, hg]
    rw [HF]
    rw [hg] at HG
    clear hg HF
    go_enter Try.func24, Try.ntmps24
    go_wp2_with fail
    refine HG.out.mono ?_; rintro e w1 ⟨rfl, T⟩
    go_wp2_with fail
    go_ret2
    exact ⟨rfl, T⟩
  have HF : isBusyOf js ss = (schedB js ss && busyB js ss, true) := by simp [isBusyOf, hg]
  rw [HF]
  have HS := Lib.hid (fun (w' : World) (hb : Below w.heap.size w w') => implIsSched_any v u js ss w' ((h.step hb (Nat.le_refl _)).more hb.size) ((h'.step hb (Nat.le_refl _)).more hb.size) hg)
  have hA := (givenB_t hg).1
  have hl := (givenB_t hg).2.1
  cases hsb : schedB js ss
  · rw [hg] at HG
    rw [hsb] at HS
    clear hg HF hsb hl hA
    obtain ⟨A, c, rfl, _⟩ := h
    obtain ⟨A2, c2, rfl, _⟩ := h'
    go_enter Try.func24, Try.ntmps24
    go_wp2_with fail
    refine HG.out.mono ?_; rintro e w1 ⟨rfl, T⟩
    go_wp2_with fail
    refine (HS.out _ T).mono ?_; rintro e w2 ⟨rfl, hb2⟩
    have HT := Lib.hid (T.trans (hb2.mono T.size))
    clear hb2 T
    go_wp2_with fail
    go_ret2
    exact ⟨rfl, HT.out⟩
  · have HFS := Lib.hid (fun (w' : World) (hb : Below w.heap.size w w') => firstStarts_any v js w' ((h.step hb (Nat.le_refl _)).more hb.size) hA)
    have HSF := Lib.hid (fun (z : Value) (w' : World) (hb : Below w.heap.size w w') (hu : RI w' w'.heap.size z (fifo js)) => stretches_first v z js w' ((h.step hb (Nat.le_refl _)).more hb.size) hu hA)
    have HSG := Lib.hid (fun (w' : World) (hb : Below w.heap.size w w') => stretchesOf_any v u js ss w' ((h.step hb (Nat.le_refl _)).more hb.size) ((h'.step hb (Nat.le_refl _)).more hb.size) hg)
    have HFI := Lib.hid (fifo_is hA)
    have HON := Lib.hid (fun (d : List Int) (ho : Order ss.length d) (hs : Srt ss d ss.length) => ord_is hg hsb ho hs)
    have HBB : Hid (busyB js ss = decide (strL js ss (ordOf ss) ss.length = bpL js js.length)) := by show _ = _; unfold busyB; rw [hl]
    have hLr := strL_rows js ss (ordOf ss) ss.length
    have hLl := strL_len js ss (ordOf ss) ss.length
    have hMr := bpL_rows hA js.length (Nat.le_refl _)
    have hMl := bpL_len hA js.length (Nat.le_refl _)
    obtain ⟨B, hB⟩ : ∃ B, busyB js ss = B := ⟨_, rfl⟩
    rw [hB] at HBB ⊢
    rw [hg] at HG
    rw [hsb] at HS
    have HLR := Lib.hid hLr
    have HMR := Lib.hid hMr
    have HLL := Lib.hid hLl
    have HML := Lib.hid hMl
    clear hg HF hsb hB hl hA hLr hMr hLl hMl
    obtain ⟨A, c, rfl, _⟩ := h
    obtain ⟨A2, c2, rfl, _⟩ := h'
    go_enter Try.func24, Try.ntmps24
    go_wp2_with fail
    refine HG.out.mono ?_; rintro e w1 ⟨rfl, T⟩
    go_wp2_with fail
    refine (HS.out _ T).mono ?_; rintro e w2 ⟨rfl, hb2⟩
    have T2 := T.trans (hb2.mono T.size)
    have hT2 := T2.size
    clear hb2 T
    go_wp2_with fail
    refine (HSG.out _ T2).mono ?_; rintro e w3 ⟨z, d, rfl, ho, hs, hos, hb3⟩
    obtain rfl := HON.out d ho hs
    have T3 := T2.trans (hb3.mono hT2)
    have hT3 := T3.size
    have HR3 := Lib.hid hos.rd
    obtain ⟨V3, A3, c3, rfl, _⟩ := hos.rd
    clear ho hs hos hb3 T2
    go_wp2_with fail
    refine (HFS.out _ T3).mono ?_; rintro e w4 ⟨y, rfl, ho4, hb4⟩
    rw [HFI.out] at ho4
    have T4 := T3.trans (hb4.mono hT3)
    have hT4 := T4.size
    have HR4 := Lib.hid (HR3.out.below hb4)
    have h34 := hb4.size
    have HSS := Lib.hid (HSF.out y w4 T4 ho4.ri)
    obtain ⟨A4, c4, rfl, _⟩ := ho4.ri
    clear ho4 hb4 T3
    go_wp2_with fail
    refine HSS.out.mono ?_; rintro e w5 ⟨x, rfl, hos5, hb5⟩
    have T5 := T4.trans (hb5.mono hT4)
    have HT5 := Lib.hid T5
    have HEQ := Lib.hid (equalRows_any _ x _ _ w5 ((HR4.out.step hb5 h34).more (by have := hb5.size; omega)) hos5.rd (by have := HLL.out; omega) (by have := HML.out; omega) (fun j hj => by rw [HLR.out j hj]; omega) (fun j hj => by rw [HMR.out j hj]; omega))
    rw [← HBB.out] at HEQ
    obtain ⟨V5, A5, c5, rfl, _⟩ := hos5.rd
    clear hos5 hb5 T4 T5
    go_wp2_with fail
    refine HEQ.out.mono ?_; rintro e w6 ⟨rfl, hb6⟩
    have HT6 := Lib.hid (HT5.out.trans (hb6.mono HT5.out.size))
    clear hb6
    go_wp2_with fail
    go_ret2
    exact ⟨rfl, HT6.out⟩
end Go.Proofs.Yteoggoopfjkdkaa
