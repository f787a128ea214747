/-
  PreemptEnds, the program's side.
-/
import Derived.Test.YtdggaeipfbacmaaMathPre
import Derived.Test.YtdggaeipfbacmaaStarts
namespace Go.Proofs.Ytdggaeipfbacmaa
open Go.RowKit
set_option maxRecDepth 100000
set_option linter.unusedVariables false

theorem flatJb_len (l : List Jb) (k : Nat) (hk : k < l.length) (x : Int) : flatJb (l.set k ⟨l[k]!.t, l[k]!.c, x⟩) = (flatJb l).set (k * 3 + 2) x := by
  induction l generalizing k with
  | nil => simp at hk
  | cons y l ih =>
    have e : flatJb (y :: l) = y.t :: y.c :: y.l :: flatJb l := rfl
    cases k with
    | zero =>
      rw [e]
      rfl
    | succ k =>
      have e3 : (y :: l)[k + 1]! = l[k]! := by simp
      rw [e3]
      have e2 : flatJb (y :: l.set k ⟨l[k]!.t, l[k]!.c, x⟩) = y.t :: y.c :: y.l :: flatJb (l.set k ⟨l[k]!.t, l[k]!.c, x⟩) := rfl
      have h1 : (k + 1) * 3 + 2 = (k * 3 + 2) + 1 + 1 + 1 := by omega
      rw [List.set_cons_succ, e2, e, ih k (by simp at hk; omega), h1]
      simp only [List.set_cons_succ]
theorem ojb_len {w : World} {lo hi : Nat} {v : Value} {l : List Jb} (h : OJbS w lo hi v l) (k : Nat) (hk : k < l.length) : ∃ b c, v = .slice (some ⟨b, 0, none⟩) l.length c ∧ lo ≤ b ∧ b < hi ∧ b < w.heap.size ∧
    w.cell? ⟨b, k * 3 + 2, none⟩ = some (.int .i64 l[k]!.l) ∧ w.frozen? ⟨b, k * 3 + 2, none⟩ = false ∧ ∀ x, OJbS (w.setCell ⟨b, k * 3 + 2, none⟩ (.int .i64 x)) lo hi v (l.set k ⟨l[k]!.t, l[k]!.c, x⟩) := by
  have h0 := h
  rcases h with ⟨h1, _⟩ | ⟨b, c, rfl, h1, h2, h3, h4⟩
  · omega
  · obtain ⟨_, hbs, _⟩ := rowk_parts h4
    have q := World.ownsRow.cellAt h4 (k * 3 + 2) (by omega)
    rw [ics_get (flatJb l) (k * 3 + 2) (by rw [h3]; omega), flatJb_at l k 2 hk (by omega)] at q
    refine ⟨b, c, rfl, h1, h2, hbs, q, World.ownsRow.frozenAt h4 _, fun x => .inr ⟨b, c, by simp, h1, h2, by rw [flatJb_length], ?_⟩⟩
    have hs := (World.ownsRow.stored h4 (k * 3 + 2) (.int .i64 x)).1
    have e : (ics (flatJb l)).set (k * 3 + 2) (.int .i64 x) = ics (flatJb (l.set k ⟨l[k]!.t, l[k]!.c, x⟩)) := by
      rw [flatJb_len l k hk x]
      simp [ics, List.map_set]
    rw [e] at hs
    rw [List.length_set]
    exact hs
/-- A line's job loses a tick; it is struck. -/
theorem LN.putLen {w : World} {lo g : Nat} {tick step tc : Int} {tb : Bool} {gr pr : Value} {cr : Nat → Int} {l : List Jb} (h : LN w lo g tick step tc tb gr pr cr l) (k : Nat) (hk : k < l.length) :
    ∃ b c, w.cell? ⟨g, 1, none⟩ = some (.slice (some ⟨b, 0, none⟩) l.length c) ∧ lo ≤ b ∧ b < g ∧ b < w.heap.size ∧ w.cell? ⟨b, k * 3 + 2, none⟩ = some (.int .i64 l[k]!.l) ∧ w.frozen? ⟨b, k * 3 + 2, none⟩ = false ∧
      ∀ x, ∃ w', w' = w.setCell ⟨b, k * 3 + 2, none⟩ (.int .i64 x) ∧ LN w' lo g tick step tc tb gr pr cr (l.set k ⟨l[k]!.t, l[k]!.c, x⟩) ∧ w'.cell? ⟨g, 1, none⟩ = some (.slice (some ⟨b, 0, none⟩) l.length c) ∧
        w'.cell? ⟨b, k * 3, none⟩ = some (.int .i64 l[k]!.t) ∧ w'.cell? ⟨b, k * 3 + 1, none⟩ = some (.int .i64 l[k]!.c) ∧ w'.cell? ⟨b, k * 3 + 2, none⟩ = some (.int .i64 x) ∧ (∀ i, w'.frozen? ⟨b, i, none⟩ = false) ∧
        LN (((w'.setCell ⟨b, k * 3, none⟩ (.int .i64 0)).setCell ⟨b, k * 3 + 1, none⟩ (.int .i64 0)).setCell ⟨b, k * 3 + 2, none⟩ (.int .i64 0)) lo g tick step tc tb gr pr cr (l.set k jbZ) := by
  obtain ⟨cs, v, h1, h2, h3⟩ := h.cells
  obtain ⟨b, c, rfl, a1, a2, a3, a4, a5, a6⟩ := ojb_len h3 k hk
  refine ⟨b, c, (h1.cell 1).trans h2.left, a1, a2, a3, a4, a5, fun x => ⟨_, rfl, ?_⟩⟩
  have h1' := h1.far ((Wr.refl b (b + 1) w).at (k * 3 + 2) (.int .i64 x)) (.inr a2)
  obtain ⟨b2, c2, hv, _, _, _, z0, z1, z2, zf, zz⟩ := ojb_at (a6 x) k (by rw [List.length_set]; exact hk)
  injection hv with e1 _ e3
  injection e1 with e1
  injection e1 with e1
  subst e1; subst e3
  rw [set_get l k _ k hk, if_pos rfl] at z0 z1 z2
  rw [List.set_set] at zz
  exact ⟨⟨⟨cs, _, h1', h2, a6 x⟩⟩, (h1'.cell 1).trans h2.left, z0, z1, z2, zf, ⟨⟨cs, _, h1'.far ((((Wr.refl b (b + 1) _).at _ _).at _ _).at _ _) (.inr a2), h2, zz⟩⟩⟩
theorem LN.tick0 {w : World} {lo g : Nat} {tick step tc : Int} {tb : Bool} {gr pr : Value} {cr : Nat → Int} {l : List Jb} (h : LN w lo g tick step tc tb gr pr cr l) : w.cell? ⟨g, 0, none⟩ = some (.int .i64 tick) ∧ w.frozen? ⟨g, 0, none⟩ = false := by
  obtain ⟨cs, v, h1, h2, h3⟩ := h.cells
  exact ⟨(h1.cell 0).trans h2.tick, h1.free 0⟩

set_option maxHeartbeats 8000000 in
theorem implPreemptEnds_any (v : Value) (js : List Jb) (w : World) (h : RJbS w w.heap.size v js) (hn : js.length ≤ 1048576) :
    Calls Try.prog 8 #[v] w (RetLB 3 w (preOf js).1 (preOf js).2) := by
  have HA := Lib.hid (implAreJobs_any v js w h hn)
  cases hg : areJb js
  · have HF : preOf js = ([], false) := by simp [preOf, hg]
    rw [HF]
    rw [hg] at HA
    clear hg HF
    go_enter Try.func8, Try.ntmps8
    go_wp2_with fail
    refine HA.out.mono ?_; rintro e w1 ⟨rfl, T⟩
    go_wp2_with fail
    go_ret2
    exact ⟨_, rfl, .inl ⟨rfl, none, 0, rfl, by simp, fun _ => rfl⟩, T⟩
  have HF : preOf js = (endsOf js, true) := by simp [preOf, hg]
  rw [HF]
  have hn2 := (areJb_in hg).1
  have HL := Lib.hid (fun (w' : World) (hb : Below w.heap.size w w') => lineFor_any v js w' ((h.step hb (Nat.le_refl _)).more hb.size) hn)
  obtain ⟨i0, hi, hz0, hz1, hz2⟩ := info_parts int_info
  obtain ⟨R, hR⟩ : ∃ R, R = endsOf js := ⟨_, rfl⟩
  rw [← hR]
  have HR : Hid (R = runP (workJ js) 0 js (List.replicate js.length 0)) := hR
  have HWL : Hid (workJ js ≤ 400) := by
    have := workJ_le (l := js) (fun k hk => (tick_at hg hk).2.2.2.2.2)
    show _ ≤ _
    omega
  obtain ⟨n, hN⟩ : ∃ n, js.length = n := ⟨_, rfl⟩
  rw [hN] at HR hn2
  have hn' : (n : Int) ≤ 20 := by omega
  have HN := Lib.hid hN
  have HJ := Lib.hid hg
  rw [hg] at HA
  obtain ⟨A, c, rfl, _⟩ := h
  rw [hN] at HL HA ⊢
  clear hg HF hN hn hR
  go_enter Try.func8, Try.ntmps8
  go_wp2_with fail
  refine HA.out.mono ?_; rintro e w1 ⟨rfl, T1⟩
  have hT1 := T1.size
  go_wp2_with fail
  refine (HL.out _ T1).mono ?_; rintro e w2 ⟨g, rfl, hlg, hgs, hln, hb2⟩
  have HB := Lib.hid (T1.trans (hb2.mono hT1))
  have HLN := Lib.hid hln
  have hs2 := hb2.size
  clear hln hb2 T1
  go_wp2_with (at_make; refine wpList_make_full _ rfl _ _ 29 rfl w2.heap.size 3 i0 _ 1 Try.underlying29 hi hz0 hz1 _ _ _ _ n rfl rfl rfl rfl (by rw [hz2]; omega) (by unfold maxLen; omega) (Nat.le_refl _) ?_; intro w3 hown hg2)
  have hown1 : w3.ownsRow w2.heap.size 3 1 (.slice (some ⟨w2.heap.size, 0, none⟩) n n) n (ics (List.replicate n 0)) := by
    have h1 : (Value.int IntKind.i64 0).cells = #[Value.int IntKind.i64 0] := rfl
    rw [Nat.mul_one, h1, toList_madeCells_one] at hown
    simpa [ics] using hown
  have hb1 : Below w2.heap.size w2 w3 := (Below.refl _ _).grown hg2 (Nat.le_refl _) (by intro k hk; cases hk)
  have HL1 := Lib.hid (HLN.out.step hb1)
  have HW1 : Hid (Wr w1.heap.size (g + 1) w2 w3) := Wr.of_below hb1 _ _
  have HO1 := Lib.hid hown1
  clear hown hg2 hb1 hown1
  go_loopg [6] (workJ js) (fun f s6 wr => ∃ (tick : Int) (l : List Jb) (out : List Int), f = workJ l ∧ f ≤ 400 ∧ LeftP js l ∧ Hid (R = runP f tick l out) ∧ out.length = n ∧ 0 ≤ tick ∧ tick + f ≤ 1400 ∧
    LN wr w1.heap.size g tick 0 7 false (.slice none 0 0) .nilFunc (fun _ => 0) l ∧ wr.ownsRow w2.heap.size 3 1 (.slice (some ⟨w2.heap.size, 0, none⟩) n n) n (ics out) ∧ Wr w1.heap.size (g + 1) w2 wr)
  case atStart => exact ⟨0, js, List.replicate n 0, rfl, HWL.out, LeftP.start HJ.out, HR, by simp, by omega, by have := HWL.out; omega, HL1.out, HO1.out, HW1.out⟩
  case round =>
    obtain ⟨tick, l, out, hgk, hf4, hleft, hr, hol, ht0, ht1, hln, hrow, hwr⟩ := hrel
    have hll : l.length = n := by rw [hleft.len]; exact HN.out
    have HAW := Lib.hid (await_any w1.heap.size g tick 0 7 false (.slice none 0 0) .nilFunc (fun _ => 0) l wr hln (by omega))
    have hsw := hwr.size
    have HLEFT := Lib.hid hleft
    have HRW := Lib.hid hrow
    have HWR := Lib.hid hwr
    have HLW := Lib.hid hln
    have HGK := Lib.hid hgk
    have HLL := Lib.hid hll
    have HOL := Lib.hid hol
    clear hleft hrow hwr hln hll hol
    by_cases hf : gk = 0
    · have h0 : cntJ l = 0 := (workJ_cnt HLEFT.out).1 (by rw [← HGK.out]; exact hf)
      have HOUT : Hid (out = R) := by
        have h9 := hr.out
        rw [hf] at h9
        exact h9.symm
      clear hr hgk hf
      go_wp2_with fail
      refine HAW.out.mono ?_; rintro e w4 hret
      obtain ⟨rfl, hb4⟩ := await_off hret h0
      have hs4 := hb4.size
      obtain ⟨_, hgs4, _⟩ := row_parts HRW.out
      have HOI : Hid (OI 3 w4 w2.heap.size w4.heap.size (.slice (some ⟨w2.heap.size, 0, none⟩) n n) out) := by
        have h9 := row_far HRW.out (Wr.of_below hb4 wr.heap.size wr.heap.size) (.inl hgs4)
        exact OI.of_row (by rw [HOL.out]; exact h9)
      have HW4 : Hid (Wr w1.heap.size (g + 1) w2 w4) := HWR.out.trans (Wr.of_below hb4 _ _)
      clear hret hb4 h0
      go_wp2_with fail
      go_ret2
      exact ⟨_, rfl, by rw [← HOUT.out]; exact HOI.out.wide (by omega) (Nat.le_refl _), HB.out.trans (HW4.out.below hT1 (by omega))⟩
    · obtain ⟨f1, hf1⟩ : ∃ f1, gk = f1 + 1 := ⟨gk - 1, by omega⟩
      have hp : 0 < workJ l := by rw [← HGK.out]; omega
      obtain ⟨u, f, k, u1, u2, u3, hT, hfst, hpk, hkl, hkj, hT0, hT1b, hbd⟩ := stepP_of (rk := rkC) HJ.out HLEFT.out hp ht0
      have HNEXT : Hid (R = runP f1 (tickOf tick l + 1) (l.set k (nextJ l[k]!)) (if l[k]!.l = 1 then out.set k (tickOf tick l + 1) else out)) := by
        have h9 := hr.out
        rw [hf1, runP_step hpk] at h9
        exact h9
      have HCNT : Hid (f1 = workJ (l.set k (nextJ l[k]!))) := by
        have h9 := workJ_next hkl hbd.2.2.2.2.1
        have h8 := HGK.out
        show _ = _
        omega
      have HLFT2 := Lib.hid (HLEFT.out.next k (by rw [HN.out, ← HLL.out]; exact hkl) hkj)
      have HAON := Lib.hid (fun (e : Ending) (w2 : World) hret => await_on (e := e) (w' := w2) hlg HLW.out hret u1 u2 u3 hT)
      have HFST := Lib.hid hfst
      have HPK := Lib.hid hpk
      have hkn : k < n := by rw [← HLL.out]; exact hkl
      have hki : (k : Int) < (n : Int) := by omega
      clear hT hfst hpk u3 u2 hkj hr
      generalize tickOf tick l = T at HNEXT HAON HFST HPK hT0 hT1b
      go_wp2_with fail
      refine HAW.out.mono ?_; rintro e w4 hret
      obtain ⟨rfl, hl2, hw2⟩ := HAON.out e w4 hret
      have hs4 := hw2.size
      have hr2 := row_far HRW.out hw2 (.inr (by omega))
      have HL2 := Lib.hid hl2
      have HR2 := Lib.hid hr2
      have HW2 := Lib.hid (HWR.out.trans hw2)
      have HCH := Lib.hid (strict_is w1.heap.size g T 0 7 false (.slice none 0 0) .nilFunc (fun _ => 0) l f k w4 hl2 (by rw [HLL.out]; omega) HFST.out HPK.out)
      clear hret hl2 hw2 hr2
      go_wp2_with fail
      refine HCH.out.mono ?_; rintro e w5 ⟨rfl, hb5⟩
      have hs5 := hb5.size
      have HL5 := Lib.hid (HL2.out.step hb5)
      obtain ⟨_, hgs2, _⟩ := row_parts HR2.out
      have HR5 := Lib.hid (row_far HR2.out (Wr.of_below hb5 w4.heap.size w4.heap.size) (.inl hgs2))
      have HW5 : Hid (Wr w1.heap.size (g + 1) w2 w5) := HW2.out.trans (Wr.of_below hb5 _ _)
      obtain ⟨d0, f0⟩ := HL5.out.tick0
      obtain ⟨T2, hT2⟩ : ∃ x, T + 1 = x := ⟨_, rfl⟩
      have eT : IntKind.i64.wrap (T + 1) = T2 := by rw [IntWalk.i64_in _ (by omega), hT2]
      have HT2 := Lib.hid hT2
      rw [hT2] at HNEXT
      have hT2b : 0 ≤ T2 ∧ T2 + f1 ≤ 1400 := by
        have h8 := HGK.out
        omega
      -- the tick
      have HL6 : Hid (LN (w5.setCell ⟨g, 0, none⟩ (.int .i64 T2)) w1.heap.size g T2 0 7 false (.slice none 0 0) .nilFunc (fun _ => 0) l) := HL5.out.putTick _
      have HR6 : Hid (World.ownsRow (w5.setCell ⟨g, 0, none⟩ (.int .i64 T2)) w2.heap.size 3 1 (.slice (some ⟨w2.heap.size, 0, none⟩) n n) n (ics out)) := row_far HR5.out ((Wr.refl g (g + 1) w5).at 0 _) (.inr (by omega))
      have HW6 : Hid (Wr w1.heap.size (g + 1) w2 (w5.setCell ⟨g, 0, none⟩ (.int .i64 T2))) := HW5.out.trans (((Wr.refl g (g + 1) w5).at 0 _).wide hlg (Nat.le_refl _))
      -- the job
      obtain ⟨b, c9, d1, hlb, hbg, hbs, x2, fx2, hput⟩ := HL6.out.putLen k hkl
      rw [HLL.out] at d1 hput
      obtain ⟨y, hy⟩ : ∃ y, l[k]! = y := ⟨_, rfl⟩
      rw [hy] at x2 hput HNEXT HCNT HLFT2 hbd
      clear hy
      obtain ⟨yt, yc, yl⟩ := y
      simp only at x2 hput hbd
      obtain ⟨M, hM⟩ : ∃ x, yl - 1 = x := ⟨_, rfl⟩
      have hMe : (yl = 1 ↔ M = 0) := by omega
      have eM : IntKind.i64.wrap (yl - 1) = M := by rw [IntWalk.i64_in _ (by omega), hM]
      obtain ⟨w7, hw7, hl7, y1, y3, y4, y5, yf, hstr⟩ := hput M
      subst hw7
      have HL7 := Lib.hid hl7
      have HR7 := Lib.hid (row_far HR6.out ((Wr.refl b (b + 1) (w5.setCell ⟨g, 0, none⟩ (.int .i64 T2))).at (k * 3 + 2) (.int .i64 M)) (.inr (by omega)))
      have HW7 := Lib.hid (HW6.out.trans (((Wr.refl b (b + 1) (w5.setCell ⟨g, 0, none⟩ (.int .i64 T2))).at (k * 3 + 2) (.int .i64 M)).wide hlb (show b + 1 ≤ g + 1 by omega)))
      have HSTR := Lib.hid hstr
      have g1 := yf (k * 3)
      have g2 := yf (k * 3 + 1)
      have g3 := yf (k * 3 + 2)
      have HMM := Lib.hid hM
      have hgg : gk = f1 + 1 := hf1
      clear hput hstr yf hb5 hM hl7
      by_cases hz : M = 0
      · have hone : yl = 1 := hMe.2 hz
        have hq : (M == 0) = true := by simp [hz]
        have hnx : nextJ ⟨yt, yc, yl⟩ = jbZ := by unfold nextJ; rw [if_pos hone]
        rw [hnx] at HNEXT HCNT HLFT2
        simp only at HNEXT
        rw [if_pos hone] at HNEXT
        obtain ⟨d9, f9⟩ := HSTR.out.tick0
        have hw8 := ((((Wr.refl b (b + 1) ((w5.setCell ⟨g, 0, none⟩ (.int .i64 T2)).setCell ⟨b, k * 3 + 2, none⟩ (.int .i64 M))).at (k * 3) (.int .i64 0)).at (k * 3 + 1) (.int .i64 0)).at (k * 3 + 2) (.int .i64 0))
        have hr8 := row_far HR7.out hw8 (.inr (by omega))
        have HW8 := Lib.hid (HW7.out.trans (hw8.wide hlb (show b + 1 ≤ g + 1 by omega)))
        have hcy : ∃ u, World.cell? (((((w5.setCell ⟨g, 0, none⟩ (.int .i64 T2)).setCell ⟨b, k * 3 + 2, none⟩ (.int .i64 M)).setCell ⟨b, k * 3, none⟩ (.int .i64 0)).setCell ⟨b, k * 3 + 1, none⟩ (.int .i64 0)).setCell ⟨b, k * 3 + 2, none⟩ (.int .i64 0)) ⟨w2.heap.size, k, none⟩ = some u := by
          rw [World.ownsRow.cellAt hr8 k (by omega)]
          exact ⟨_, List.getElem?_eq_getElem (by rw [ics_length, HOL.out]; omega)⟩
        obtain ⟨u0, hcu⟩ := hcy
        have hfz := World.ownsRow.frozenAt hr8 k
        have HR9 := Lib.hid (out_row (k := k) (x := T2) hr8)
        have HL9 := Lib.hid (HSTR.out.far ((Wr.refl w2.heap.size (w2.heap.size + 1) _).at k (.int .i64 T2)) (by omega))
        have HW9 : Hid (Wr w1.heap.size (g + 1) w2 ((((((w5.setCell ⟨g, 0, none⟩ (.int .i64 T2)).setCell ⟨b, k * 3 + 2, none⟩ (.int .i64 M)).setCell ⟨b, k * 3, none⟩ (.int .i64 0)).setCell ⟨b, k * 3 + 1, none⟩ (.int .i64 0)).setCell ⟨b, k * 3 + 2, none⟩ (.int .i64 0)).setCell ⟨w2.heap.size, k, none⟩ (.int .i64 T2))) :=
          ⟨HW8.out.os, HW8.out.tape, HW8.out.output, by simpa [World.setCell] using HW8.out.size, fun q hq hn => (Below.heap_setCell _ _ _ _ (by simp; omega)).trans (HW8.out.block q hq hn)⟩
        clear hMe hz hnx hw8 hr8 hone f9 hbd hf1
        go_wp2_with fail
        go_roundg f1
        case rel => exact ⟨T2, _, _, HCNT.out, by omega, HLFT2.out, HNEXT, by rw [List.length_set]; exact HOL.out, hT2b.1, hT2b.2, HL9.out, HR9.out, HW9.out⟩
        case measure => omega
      · have hne : ¬ yl = 1 := fun h9 => hz (hMe.1 h9)
        have hq : (M == 0) = false := by simp [hz]
        have hnx : nextJ ⟨yt, yc, yl⟩ = ⟨yt, yc, M⟩ := by unfold nextJ lessJ; rw [if_neg hne]; simp only [HMM.out]
        rw [hnx] at HNEXT HCNT HLFT2
        simp only at HNEXT
        rw [if_neg hne] at HNEXT
        clear hMe hz hne hnx hbd hf1
        go_wp2_with fail
        go_roundg f1
        case rel => exact ⟨T2, _, out, HCNT.out, by omega, HLFT2.out, HNEXT, HOL.out, hT2b.1, hT2b.2, HL7.out, HR7.out, HW7.out⟩
        case measure => omega
end Go.Proofs.Ytdggaeipfbacmaa
