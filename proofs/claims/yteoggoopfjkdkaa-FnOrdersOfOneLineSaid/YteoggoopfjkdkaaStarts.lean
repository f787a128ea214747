/-
  Starts of a line, the program's side: by the first one, by the class, by class and age.
-/
import Derived.Test.YteoggoopfjkdkaaMathLine
import Derived.Deep.LoopGhost
namespace Go.Proofs.Yteoggoopfjkdkaa
open Go.RowKit
set_option maxRecDepth 100000
set_option linter.unusedVariables false

theorem flatJb_set (l : List Jb) (k : Nat) (hk : k < l.length) : flatJb (l.set k jbZ) = (((flatJb l).set (k * 3) 0).set (k * 3 + 1) 0).set (k * 3 + 2) 0 := by
  induction l generalizing k with
  | nil => simp at hk
  | cons y l ih =>
    have e : flatJb (y :: l) = y.t :: y.c :: y.l :: flatJb l := rfl
    cases k with
    | zero =>
      rw [e]
      rfl
    | succ k =>
      have e2 : flatJb (y :: l.set k jbZ) = y.t :: y.c :: y.l :: flatJb (l.set k jbZ) := rfl
      have h1 : (k + 1) * 3 = k * 3 + 1 + 1 + 1 := by omega
      rw [List.set_cons_succ, e2, e, ih k (by simp at hk; omega), h1]
      simp only [List.set_cons_succ]
theorem row_zeroAt {w : World} {E : TypeId} {lo b n c : Nat} {l : List Jb} (hl : l.length = n) (h : w.ownsRow lo E 3 (.slice (some ⟨b, 0, none⟩) n c) n (ics (flatJb l))) (k : Nat) (hk : k < n) :
    (((w.setCell ⟨b, k * 3, none⟩ (.int .i64 0)).setCell ⟨b, k * 3 + 1, none⟩ (.int .i64 0)).setCell ⟨b, k * 3 + 2, none⟩ (.int .i64 0)).ownsRow lo E 3 (.slice (some ⟨b, 0, none⟩) n c) n (ics (flatJb (l.set k jbZ))) := by
  have h1 := (World.ownsRow.stored h (k * 3) (.int .i64 0)).1
  have h2 := (World.ownsRow.stored h1 (k * 3 + 1) (.int .i64 0)).1
  have h3 := (World.ownsRow.stored h2 (k * 3 + 2) (.int .i64 0)).1
  have e : (((ics (flatJb l)).set (k * 3) (.int .i64 0)).set (k * 3 + 1) (.int .i64 0)).set (k * 3 + 2) (.int .i64 0) = ics (flatJb (l.set k jbZ)) := by
    rw [flatJb_set l k (by omega)]
    simp [ics, List.map_set]
  rw [e] at h3
  exact h3
/-- A job of those that are left, in memory. -/
theorem ojb_at {w : World} {lo hi : Nat} {v : Value} {l : List Jb} (h : OJbS w lo hi v l) (k : Nat) (hk : k < l.length) : ∃ b c, v = .slice (some ⟨b, 0, none⟩) l.length c ∧ lo ≤ b ∧ b < hi ∧ b < w.heap.size ∧
    w.cell? ⟨b, k * 3, none⟩ = some (.int .i64 l[k]!.t) ∧ w.cell? ⟨b, k * 3 + 1, none⟩ = some (.int .i64 l[k]!.c) ∧ w.cell? ⟨b, k * 3 + 2, none⟩ = some (.int .i64 l[k]!.l) ∧ (∀ i, w.frozen? ⟨b, i, none⟩ = false) ∧
    OJbS (((w.setCell ⟨b, k * 3, none⟩ (.int .i64 0)).setCell ⟨b, k * 3 + 1, none⟩ (.int .i64 0)).setCell ⟨b, k * 3 + 2, none⟩ (.int .i64 0)) lo hi v (l.set k jbZ) := by
  have h0 := h
  rcases h with ⟨h1, _⟩ | ⟨b, c, rfl, h1, h2, h3, h4⟩
  · omega
  · obtain ⟨_, hbs, _⟩ := rowk_parts h4
    have q := fun j (hj : j < 3) => World.ownsRow.cellAt h4 (k * 3 + j) (by omega)
    have r := fun j hj => flatJb_at l k j hk hj
    have s := fun j (hj : j < 3) => ics_get (flatJb l) (k * 3 + j) (by rw [h3]; omega)
    refine ⟨b, c, rfl, h1, h2, hbs, ?_, ?_, ?_, fun i => World.ownsRow.frozenAt h4 i, .inr ⟨b, c, by simp, h1, h2, by rw [flatJb_length], ?_⟩⟩
    · have := q 0 (by omega); rw [s 0 (by omega), r 0 (by omega)] at this; exact this
    · have := q 1 (by omega); rw [s 1 (by omega), r 1 (by omega)] at this; exact this
    · have := q 2 (by omega); rw [s 2 (by omega), r 2 (by omega)] at this; exact this
    · rw [List.length_set]
      exact row_zeroAt rfl h4 k hk
theorem out_row {w : World} {E : TypeId} {lo g c : Nat} {out : List Int} {k : Nat} {x : Int} {n : Nat} (h : w.ownsRow lo E 1 (.slice (some ⟨g, 0, none⟩) n c) n (ics out)) : (w.setCell ⟨g, k, none⟩ (.int .i64 x)).ownsRow lo E 1 (.slice (some ⟨g, 0, none⟩) n c) n (ics (out.set k x)) := by
  have h1 := (World.ownsRow.stored h k (.int .i64 x)).1
  have e : (ics out).set k (.int .i64 x) = ics (out.set k x) := by simp [ics, List.map_set]
  rw [e] at h1
  exact h1
/-- What 'startsBy' leaves. -/
def RetStarts (E : TypeId) (lo g : Nat) (w : World) (out : List Int) (e : Ending) (w' : World) : Prop := ∃ u, e = .returned u ∧ OI E w' w.heap.size w'.heap.size u out ∧ Wr lo (g + 1) w w'
theorem pick_first {tick : Int} {l : List Jb} {f : Nat} (hf : Fst tick l f) : pickOf (rk0 tick) tick l = some f := bestOf_first hf.1 hf.2.1 hf.2.2
theorem first_is (lo g : Nat) (tick step tc : Int) (tb : Bool) (gr pr : Value) (cr : Nat → Int) (l : List Jb) (f k : Nat) (w : World) (h : LN w lo g tick step tc tb gr pr cr l) (hn : l.length ≤ 20) (hf : Fst tick l f) (hk : pickOf (rk0 tick) tick l = some k) :
    Calls Try.prog 55 #[.pointer (some ⟨g, 0, none⟩)] w (RetV w (.int .i64 k)) := by
  rw [pick_first hf] at hk
  injection hk with hk
  subst hk
  refine (first_any lo g tick step tc tb gr pr cr l w h hn).mono ?_
  rintro e w1 ⟨x, hx, rfl, hb⟩
  obtain rfl : x = (f : Int) := by
    rcases hx with ⟨k, hk, h1, h2, rfl⟩ | ⟨h2, _⟩
    · rcases Nat.lt_trichotomy k f with h9 | h9 | h9
      · have := hf.2.2 k h9; rw [h1] at this; cases this
      · rw [h9]
      · have := h2 f h9; rw [hf.2.1] at this; cases this
    · have := h2 f hf.1; rw [hf.2.1] at this; cases this
  exact ⟨rfl, hb⟩
theorem strict_is (lo g : Nat) (tick step tc : Int) (tb : Bool) (gr pr : Value) (cr : Nat → Int) (l : List Jb) (f k : Nat) (w : World) (h : LN w lo g tick step tc tb gr pr cr l) (hn : l.length ≤ 20) (hf : Fst tick l f) (hk : pickOf (rkC tick) tick l = some k) :
    Calls Try.prog 31 #[.pointer (some ⟨g, 0, none⟩)] w (RetV w (.int .i64 k)) := by
  have h1 := strict_any lo g tick step tc tb gr pr cr l f w h hn hf
  have e : pickOf (fun y => y.c) tick l = some k := hk
  rw [e] at h1
  exact h1
theorem aged_is (lo g : Nat) (tick step tc : Int) (tb : Bool) (gr pr : Value) (cr : Nat → Int) (l : List Jb) (f k : Nat) (w : World) (h : LN w lo g tick step tc tb gr pr cr l) (hn : l.length ≤ 20) (hf : Fst tick l f) (hk : pickOf (rkA step tick) tick l = some k)
    (ht : 0 ≤ tick ∧ tick ≤ 10000) (hs : 1 ≤ step ∧ step ≤ 100) (hy : ∀ k, k < l.length → isW tick l[k]! = true → 0 ≤ l[k]!.t ∧ l[k]!.t ≤ tick ∧ 0 ≤ l[k]!.c ∧ l[k]!.c ≤ 7) :
    Calls Try.prog 37 #[.pointer (some ⟨g, 0, none⟩)] w (RetV w (.int .i64 k)) := by
  have h1 := aged_any lo g tick step tc tb gr pr cr l f w h hn hf ht hs hy
  have e : pickOf (agedC tick step) tick l = some k := hk
  rw [e] at h1
  exact h1
/-- The line behind 'awaitJob', where some job is left. -/
theorem await_on {lo g : Nat} {tick step : Int} {gr pr : Value} {l : List Jb} {w w' : World} {e : Ending} {u : Nat} (hlg : lo ≤ g) (hL : LN w lo g tick step 7 false gr pr (fun _ => 0) l) (h : RetAwait lo g tick step 7 false gr pr (fun _ => 0) l w e w')
    (h1 : u < l.length) (h2 : isJ l[u]! = true) (h3 : ∀ j, j < u → isJ l[j]! = false) (hT : tickOf tick l = if tick < l[u]!.t then l[u]!.t else tick) :
    e = .returned (.bool true) ∧ LN w' lo g (tickOf tick l) step 7 false gr pr (fun _ => 0) l ∧ Wr lo (g + 1) w w' := by
  rcases h with ⟨h4, _⟩ | ⟨k, h4, h5, h6, rfl, h7⟩
  · have := h4 u h1; rw [h2] at this; cases this
  · obtain rfl : k = u := by
      rcases Nat.lt_trichotomy k u with h9 | h9 | h9
      · have := h3 k h9; rw [h5] at this; cases this
      · exact h9
      · have := h6 u h9; rw [h2] at this; cases this
    refine ⟨rfl, ?_⟩
    rcases h7 with ⟨h8, hb⟩ | ⟨h8, hl, hw⟩
    · rw [hT, if_neg (by omega)]
      exact ⟨hL.step hb, Wr.of_below hb _ _⟩
    · rw [hT, if_pos h8]
      exact ⟨hl, hw.wide hlg (Nat.le_refl _)⟩
theorem await_off {lo g : Nat} {tick step : Int} {gr pr : Value} {l : List Jb} {w w' : World} {e : Ending} (h : RetAwait lo g tick step 7 false gr pr (fun _ => 0) l w e w') (h0 : cntJ l = 0) : e = .returned (.bool false) ∧ Below w.heap.size w w' := by
  rcases h with ⟨_, h1, h2⟩ | ⟨k, h1, h2, _⟩
  · exact ⟨h1, h2⟩
  · have := cntJ_zero h0 k h1; rw [h2] at this; cases this
theorem LN.putTick {w : World} {lo g : Nat} {tick step tc : Int} {tb : Bool} {gr pr : Value} {cr : Nat → Int} {l : List Jb} (h : LN w lo g tick step tc tb gr pr cr l) (t : Int) : LN (w.setCell ⟨g, 0, none⟩ (.int .i64 t)) lo g t step tc tb gr pr cr l := by
  obtain ⟨cs, v, h1, h2, h3⟩ := h.cells
  exact ⟨_, v, h1.put 0 _, h2.putTick t, OK.far h3 ((Wr.refl g (g + 1) w).at 0 _) (.inl (Nat.le_refl _))⟩

set_option maxHeartbeats 4000000 in
theorem startsBy_first (lo g : Nat) (step : Int) (gr pr : Value) (js : List Jb) (w : World) (h : LN w lo g 0 step 7 false gr pr (fun _ => 0) js) (hlg : lo ≤ g) (hA : areJb js = true) :
    Calls Try.prog 29 #[.pointer (some ⟨g, 0, none⟩), .func (.func 55) #[] #[]] w (RetStarts 3 lo g w (startsOf (rk0) js)) := by
  obtain ⟨i0, hi, hz0, hz1, hz2⟩ := info_parts int_info
  have hgw := h.lt
  have hn := (areJb_in hA).1
  have hisJ := cntJ_all (l := js) (fun y hy => isJ_ok ((areJb_in hA).2.1 y hy).2.2.2.2.1)
  obtain ⟨cs, v, hbk, hlc, hol⟩ := h.cells
  have c1 := (hbk.cell 1).trans hlc.left
  have hv : ∃ A c, v = .slice A js.length c := by obtain ⟨A, c, hv, _⟩ := hol.rk; exact ⟨A, c, hv⟩
  obtain ⟨A, c, rfl⟩ := hv
  obtain ⟨R, hR⟩ : ∃ R, R = startsOf (rk0) js := ⟨_, rfl⟩
  rw [← hR]
  have hRL : R.length = js.length := by rw [hR, startsOf_len]
  have HR : Hid (R = runL (rk0) js.length 0 js (List.replicate js.length 0)) := hR
  obtain ⟨n, hN⟩ : ∃ n, js.length = n := ⟨_, rfl⟩
  rw [hN] at c1 hn hisJ HR hRL
  have hn' : (n : Int) ≤ 20 := by omega
  have HN := Lib.hid hN
  have HA := Lib.hid hA
  have HLN := Lib.hid h
  have HCN := Lib.hid hisJ
  have HRL := Lib.hid hRL
  clear hR hRL hbk hlc hol h hA hN hisJ
  go_enter Try.func29, Try.ntmps29
  go_wp2_with (at_make; refine wpList_make_full _ rfl _ _ 26 rfl w.heap.size 3 i0 _ 1 Try.underlying26 hi hz0 hz1 _ _ _ _ n rfl rfl rfl rfl (by rw [hz2]; omega) (by unfold maxLen; omega) (Nat.le_refl _) ?_; intro w1 hown hg2)
  have hown1 : w1.ownsRow w.heap.size 3 1 (.slice (some ⟨w.heap.size, 0, none⟩) n n) n (ics (List.replicate n 0)) := by
    have h1 : (Value.int IntKind.i64 0).cells = #[Value.int IntKind.i64 0] := rfl
    rw [Nat.mul_one, h1, toList_madeCells_one] at hown
    simpa [ics] using hown
  have hb1 : Below w.heap.size w w1 := (Below.refl _ _).grown hg2 (Nat.le_refl _) (by intro k hk; cases hk)
  have HL1 := Lib.hid (HLN.out.step hb1)
  have HW1 : Hid (Wr lo (g + 1) w w1) := Wr.of_below hb1 _ _
  have HO1 := Lib.hid hown1
  clear hown hg2 hb1 hown1 c1
  go_loopg [6] n (fun f s6 wr => ∃ (tick : Int) (l : List Jb) (out : List Int), f = cntJ l ∧ LeftOf js l ∧ Hid (R = runL (rk0) f tick l out) ∧ out.length = n ∧ 0 ≤ tick ∧ tick + 20 * f ≤ 1000 + 20 * n ∧
    LN wr lo g tick step 7 false gr pr (fun _ => 0) l ∧ wr.ownsRow w.heap.size 3 1 (.slice (some ⟨w.heap.size, 0, none⟩) n n) n (ics out) ∧ Wr lo (g + 1) w wr)
  case atStart => exact ⟨0, js, List.replicate n 0, HCN.out.symm, LeftOf.refl _, HR, by simp, by omega, by omega, HL1.out, HO1.out, HW1.out⟩
  case round =>
    obtain ⟨tick, l, out, hgk, hleft, hr, hol, ht0, ht1, hln, hrow, hwr⟩ := hrel
    have hll : l.length = n := by rw [hleft.1]; exact HN.out
    have HAW := Lib.hid (await_any lo g tick step 7 false gr pr (fun _ => 0) l wr hln (by omega))
    have hsw := hwr.size
    have HLEFT := Lib.hid hleft
    have HRW := Lib.hid hrow
    have HWR := Lib.hid hwr
    have HLW := Lib.hid hln
    have HGK := Lib.hid hgk
    have HLL := Lib.hid hll
    have HOL := Lib.hid hol
    clear hleft hrow hwr hln hll hol
    by_cases hf : gk = 0
    · have h0 : cntJ l = 0 := by rw [← HGK.out]; exact hf
      have HOUT : Hid (out = R) := by
        have h9 := hr.out
        rw [hf] at h9
        exact h9.symm
      clear hr hgk hf
      go_wp2_with fail
      refine HAW.out.mono ?_; rintro e w2 hret
      obtain ⟨rfl, hb2⟩ := await_off hret h0
      have hs2 := hb2.size
      obtain ⟨_, hgs, _⟩ := row_parts HRW.out
      have HOI : Hid (OI 3 w2 w.heap.size w2.heap.size (.slice (some ⟨w.heap.size, 0, none⟩) n n) out) := by
        have h9 := row_far HRW.out (Wr.of_below hb2 wr.heap.size wr.heap.size) (.inl hgs)
        exact OI.of_row (by rw [HOL.out]; exact h9)
      have HW2 : Hid (Wr lo (g + 1) w w2) := HWR.out.trans (Wr.of_below hb2 _ _)
      clear hret hb2 h0
      go_wp2_with fail
      go_ret
      exact ⟨_, rfl, by rw [← HOUT.out]; exact HOI.out, HW2.out⟩
    · obtain ⟨f1, hf1⟩ : ∃ f1, gk = f1 + 1 := ⟨gk - 1, by omega⟩
      have hp : 0 < cntJ l := by rw [← HGK.out]; omega
      obtain ⟨u, f, k, u1, u2, u3, hT, hfst, hpk, hkl, hkj, hT0, hT1, hbd⟩ := step_of (rk := rk0) HA.out HLEFT.out hp ht0
      have HNEXT : Hid (R = runL (rk0) f1 (tickOf tick l + l[k]!.l) (l.set k jbZ) (out.set k (tickOf tick l))) := by
        have h9 := hr.out
        rw [hf1, runL_step hpk] at h9
        exact h9
      have HCNT : Hid (f1 = cntJ (l.set k jbZ)) := by
        have h9 := cntJ_set hkl hkj
        have h8 := HGK.out
        show _ = _
        omega
      have HAON := Lib.hid (fun (e : Ending) (w2 : World) hret => await_on (e := e) (w' := w2) hlg HLW.out hret u1 u2 u3 hT)
      have HFST := Lib.hid hfst
      have HPK := Lib.hid hpk
      have hkn : k < n := by rw [← HLL.out]; exact hkl
      have hki : (k : Int) < (n : Int) := by omega
      clear hT hfst hpk u3 u2 hkj hr
      generalize tickOf tick l = T at HNEXT HAON HFST HPK hT0 hT1
      go_wp2_with fail
      refine HAW.out.mono ?_; rintro e w2 hret
      obtain ⟨rfl, hl2, hw2⟩ := HAON.out e w2 hret
      have hs2 := hw2.size
      have hr2 := row_far HRW.out hw2 (.inr (by omega))
      have HL2 := Lib.hid hl2
      have HR2 := Lib.hid hr2
      have HW2 := Lib.hid (HWR.out.trans hw2)
      have HCH := Lib.hid (first_is lo g T step 7 false gr pr (fun _ => 0) l f k w2 hl2 (by rw [HLL.out]; omega) HFST.out HPK.out)
      clear hret hl2 hw2 hr2
      go_wp2_with fail
      refine HCH.out.mono ?_; rintro e w3 ⟨rfl, hb3⟩
      have hs3 := hb3.size
      have hl3 := HL2.out.step hb3
      obtain ⟨_, hgs2, _⟩ := row_parts HR2.out
      have hr3 := row_far HR2.out (Wr.of_below hb3 w2.heap.size w2.heap.size) (.inl hgs2)
      have HW3 : Hid (Wr lo (g + 1) w w3) := HW2.out.trans (Wr.of_below hb3 _ _)
      have hcy : ∃ u, w3.cell? ⟨w.heap.size, k, none⟩ = some u := by
        rw [World.ownsRow.cellAt hr3 k (by omega)]
        exact ⟨_, List.getElem?_eq_getElem (by rw [ics_length, HOL.out]; omega)⟩
      obtain ⟨u0, hcu⟩ := hcy
      have hfz := World.ownsRow.frozenAt hr3 k
      obtain ⟨cs3, v3, hbk3, hlc3, _⟩ := hl3.cells
      have d0 := (hbk3.cell 0).trans hlc3.tick
      have HR4 : Hid (World.ownsRow (w3.setCell ⟨w.heap.size, k, none⟩ (.int .i64 T)) w.heap.size 3 1 (.slice (some ⟨w.heap.size, 0, none⟩) n n) n (ics (out.set k T))) := out_row hr3
      have HL4 : Hid (LN (w3.setCell ⟨w.heap.size, k, none⟩ (.int .i64 T)) lo g T step 7 false gr pr (fun _ => 0) l) := hl3.far ((Wr.refl w.heap.size (w.heap.size + 1) w3).at k _) hgw
      have HW4 : Hid (Wr lo (g + 1) w (w3.setCell ⟨w.heap.size, k, none⟩ (.int .i64 T))) := ⟨HW3.out.os, HW3.out.tape, HW3.out.output, by simpa [World.setCell] using HW3.out.size, fun q hq hn => (Below.heap_setCell _ _ _ _ (by simp; omega)).trans (HW3.out.block q hq hn)⟩
      have hs4 : w3.heap.size ≤ (w3.setCell ⟨w.heap.size, k, none⟩ (.int .i64 T)).heap.size := by simp [World.setCell]
      clear hb3 hl3 hr3 hbk3 hlc3
      go_upto_region 5 with fail
      generalize w3.setCell ⟨w.heap.size, k, none⟩ (.int .i64 T) = w4 at HR4 HL4 HW4 hs4 ⊢
      clear d0 hcu hfz
      obtain ⟨cs4, v4, hbk4, hlc4, hol4⟩ := HL4.out.cells
      obtain ⟨b, c9, hv4, hlb, hbg, hbs, x0, x1, x2, hfr, _⟩ := ojb_at hol4 k hkl
      rw [HLL.out] at hv4
      subst hv4
      have d0 := (hbk4.cell 0).trans hlc4.tick
      have d1 := (hbk4.cell 1).trans hlc4.left
      have e0 := hbk4.free 0
      have hlk : ((l[k]!.l : Int)) = l[k]!.l := rfl
      have HL5 : Hid (LN (w4.setCell ⟨g, 0, none⟩ (.int .i64 (T + l[k]!.l))) lo g (T + l[k]!.l) step 7 false gr pr (fun _ => 0) l) := HL4.out.putTick _
      have HR5 : Hid (World.ownsRow (w4.setCell ⟨g, 0, none⟩ (.int .i64 (T + l[k]!.l))) w.heap.size 3 1 (.slice (some ⟨w.heap.size, 0, none⟩) n n) n (ics (out.set k T))) := row_far HR4.out ((Wr.refl g (g + 1) w4).at 0 _) (.inr (by omega))
      have HW5 : Hid (Wr lo (g + 1) w (w4.setCell ⟨g, 0, none⟩ (.int .i64 (T + l[k]!.l)))) := HW4.out.trans (((Wr.refl g (g + 1) w4).at 0 _).wide hlg (Nat.le_refl _))
      have hb5 : 1 ≤ l[k]!.l ∧ l[k]!.l ≤ 20 := ⟨hbd.2.2.2.2.1, hbd.2.2.2.2.2⟩
      clear hbk4 hlc4 hol4 hfr x0 x1 hlk hbd
      generalize l[k]!.l = LL at HL5 HR5 HW5 hb5 x2 HNEXT
      have e1 : IntKind.i64.wrap (T + LL) = T + LL := IntWalk.i64_in _ (by omega)
      go_region
      all_goals
        obtain ⟨cs5, v5, hbk5, hlc5, hol5⟩ := HL5.out.cells
        obtain ⟨b5, c5, hv5, hlb5, hbg5, hbs5, x0, x1, x2, hfr, hz⟩ := ojb_at hol5 k hkl
        rw [HLL.out] at hv5
        subst hv5
        have d1 := (hbk5.cell 1).trans hlc5.left
        have fz0 := hfr (k * 3)
        have fz1 := hfr (k * 3 + 1)
        have fz2 := hfr (k * 3 + 2)
        have HZ := Lib.hid hz
        have HBK5 := Lib.hid hbk5
        have HLC5 := Lib.hid hlc5
        clear d0 e0 hz hbk5 hlc5 hol5 hfr
        go_wp2_with fail
        have hw6 := ((((Wr.refl b5 (b5 + 1) (w4.setCell ⟨g, 0, none⟩ (.int .i64 (T + LL)))).at (k * 3) (.int .i64 0)).at (k * 3 + 1) (.int .i64 0)).at (k * 3 + 2) (.int .i64 0))
        have hw8 := Wr.wide hw6 hlb5 (show b5 + 1 ≤ g + 1 by omega)
        have hk8 := HBK5.out.far hw6 (.inr hbg5)
        have hr8 := row_far HR5.out hw6 (.inr (show b5 + 1 ≤ w.heap.size by omega))
        have hcl := cntJ_le l
        have hgg := HGK.out
        have hln := HLL.out
        go_roundg f1
        case rel => exact ⟨T + LL, l.set k jbZ, out.set k T, HCNT.out, HLEFT.out.set k (by rw [HN.out]; omega), HNEXT, by rw [List.length_set]; exact HOL.out, by omega, by omega,
          ⟨⟨cs5, _, hk8, HLC5.out, HZ.out⟩⟩, hr8, HW5.out.trans ⟨hw8.os, hw8.tape, hw8.output, hw8.size, hw8.block⟩⟩
        case measure => omega

set_option maxHeartbeats 4000000 in
theorem startsBy_strict (lo g : Nat) (step : Int) (gr pr : Value) (js : List Jb) (w : World) (h : LN w lo g 0 step 7 false gr pr (fun _ => 0) js) (hlg : lo ≤ g) (hA : areJb js = true) :
    Calls Try.prog 29 #[.pointer (some ⟨g, 0, none⟩), .func (.func 31) #[] #[]] w (RetStarts 3 lo g w (startsOf (rkC) js)) := by
  obtain ⟨i0, hi, hz0, hz1, hz2⟩ := info_parts int_info
  have hgw := h.lt
  have hn := (areJb_in hA).1
  have hisJ := cntJ_all (l := js) (fun y hy => isJ_ok ((areJb_in hA).2.1 y hy).2.2.2.2.1)
  obtain ⟨cs, v, hbk, hlc, hol⟩ := h.cells
  have c1 := (hbk.cell 1).trans hlc.left
  have hv : ∃ A c, v = .slice A js.length c := by obtain ⟨A, c, hv, _⟩ := hol.rk; exact ⟨A, c, hv⟩
  obtain ⟨A, c, rfl⟩ := hv
  obtain ⟨R, hR⟩ : ∃ R, R = startsOf (rkC) js := ⟨_, rfl⟩
  rw [← hR]
  have hRL : R.length = js.length := by rw [hR, startsOf_len]
  have HR : Hid (R = runL (rkC) js.length 0 js (List.replicate js.length 0)) := hR
  obtain ⟨n, hN⟩ : ∃ n, js.length = n := ⟨_, rfl⟩
  rw [hN] at c1 hn hisJ HR hRL
  have hn' : (n : Int) ≤ 20 := by omega
  have HN := Lib.hid hN
  have HA := Lib.hid hA
  have HLN := Lib.hid h
  have HCN := Lib.hid hisJ
  have HRL := Lib.hid hRL
  clear hR hRL hbk hlc hol h hA hN hisJ
  go_enter Try.func29, Try.ntmps29
  go_wp2_with (at_make; refine wpList_make_full _ rfl _ _ 26 rfl w.heap.size 3 i0 _ 1 Try.underlying26 hi hz0 hz1 _ _ _ _ n rfl rfl rfl rfl (by rw [hz2]; omega) (by unfold maxLen; omega) (Nat.le_refl _) ?_; intro w1 hown hg2)
  have hown1 : w1.ownsRow w.heap.size 3 1 (.slice (some ⟨w.heap.size, 0, none⟩) n n) n (ics (List.replicate n 0)) := by
    have h1 : (Value.int IntKind.i64 0).cells = #[Value.int IntKind.i64 0] := rfl
    rw [Nat.mul_one, h1, toList_madeCells_one] at hown
    simpa [ics] using hown
  have hb1 : Below w.heap.size w w1 := (Below.refl _ _).grown hg2 (Nat.le_refl _) (by intro k hk; cases hk)
  have HL1 := Lib.hid (HLN.out.step hb1)
  have HW1 : Hid (Wr lo (g + 1) w w1) := Wr.of_below hb1 _ _
  have HO1 := Lib.hid hown1
  clear hown hg2 hb1 hown1 c1
  go_loopg [6] n (fun f s6 wr => ∃ (tick : Int) (l : List Jb) (out : List Int), f = cntJ l ∧ LeftOf js l ∧ Hid (R = runL (rkC) f tick l out) ∧ out.length = n ∧ 0 ≤ tick ∧ tick + 20 * f ≤ 1000 + 20 * n ∧
    LN wr lo g tick step 7 false gr pr (fun _ => 0) l ∧ wr.ownsRow w.heap.size 3 1 (.slice (some ⟨w.heap.size, 0, none⟩) n n) n (ics out) ∧ Wr lo (g + 1) w wr)
  case atStart => exact ⟨0, js, List.replicate n 0, HCN.out.symm, LeftOf.refl _, HR, by simp, by omega, by omega, HL1.out, HO1.out, HW1.out⟩
  case round =>
    obtain ⟨tick, l, out, hgk, hleft, hr, hol, ht0, ht1, hln, hrow, hwr⟩ := hrel
    have hll : l.length = n := by rw [hleft.1]; exact HN.out
    have HAW := Lib.hid (await_any lo g tick step 7 false gr pr (fun _ => 0) l wr hln (by omega))
    have hsw := hwr.size
    have HLEFT := Lib.hid hleft
    have HRW := Lib.hid hrow
    have HWR := Lib.hid hwr
    have HLW := Lib.hid hln
    have HGK := Lib.hid hgk
    have HLL := Lib.hid hll
    have HOL := Lib.hid hol
    clear hleft hrow hwr hln hll hol
    by_cases hf : gk = 0
    · have h0 : cntJ l = 0 := by rw [← HGK.out]; exact hf
      have HOUT : Hid (out = R) := by
        have h9 := hr.out
        rw [hf] at h9
        exact h9.symm
      clear hr hgk hf
      go_wp2_with fail
      refine HAW.out.mono ?_; rintro e w2 hret
      obtain ⟨rfl, hb2⟩ := await_off hret h0
      have hs2 := hb2.size
      obtain ⟨_, hgs, _⟩ := row_parts HRW.out
      have HOI : Hid (OI 3 w2 w.heap.size w2.heap.size (.slice (some ⟨w.heap.size, 0, none⟩) n n) out) := by
        have h9 := row_far HRW.out (Wr.of_below hb2 wr.heap.size wr.heap.size) (.inl hgs)
        exact OI.of_row (by rw [HOL.out]; exact h9)
      have HW2 : Hid (Wr lo (g + 1) w w2) := HWR.out.trans (Wr.of_below hb2 _ _)
      clear hret hb2 h0
      go_wp2_with fail
      go_ret
      exact ⟨_, rfl, by rw [← HOUT.out]; exact HOI.out, HW2.out⟩
    · obtain ⟨f1, hf1⟩ : ∃ f1, gk = f1 + 1 := ⟨gk - 1, by omega⟩
      have hp : 0 < cntJ l := by rw [← HGK.out]; omega
      obtain ⟨u, f, k, u1, u2, u3, hT, hfst, hpk, hkl, hkj, hT0, hT1, hbd⟩ := step_of (rk := rkC) HA.out HLEFT.out hp ht0
      have HNEXT : Hid (R = runL (rkC) f1 (tickOf tick l + l[k]!.l) (l.set k jbZ) (out.set k (tickOf tick l))) := by
        have h9 := hr.out
        rw [hf1, runL_step hpk] at h9
        exact h9
      have HCNT : Hid (f1 = cntJ (l.set k jbZ)) := by
        have h9 := cntJ_set hkl hkj
        have h8 := HGK.out
        show _ = _
        omega
      have HAON := Lib.hid (fun (e : Ending) (w2 : World) hret => await_on (e := e) (w' := w2) hlg HLW.out hret u1 u2 u3 hT)
      have HFST := Lib.hid hfst
      have HPK := Lib.hid hpk
      have hkn : k < n := by rw [← HLL.out]; exact hkl
      have hki : (k : Int) < (n : Int) := by omega
      clear hT hfst hpk u3 u2 hkj hr
      generalize tickOf tick l = T at HNEXT HAON HFST HPK hT0 hT1
      go_wp2_with fail
      refine HAW.out.mono ?_; rintro e w2 hret
      obtain ⟨rfl, hl2, hw2⟩ := HAON.out e w2 hret
      have hs2 := hw2.size
      have hr2 := row_far HRW.out hw2 (.inr (by omega))
      have HL2 := Lib.hid hl2
      have HR2 := Lib.hid hr2
      have HW2 := Lib.hid (HWR.out.trans hw2)
      have HCH := Lib.hid (strict_is lo g T step 7 false gr pr (fun _ => 0) l f k w2 hl2 (by rw [HLL.out]; omega) HFST.out HPK.out)
      clear hret hl2 hw2 hr2
      go_wp2_with fail
      refine HCH.out.mono ?_; rintro e w3 ⟨rfl, hb3⟩
      have hs3 := hb3.size
      have hl3 := HL2.out.step hb3
      obtain ⟨_, hgs2, _⟩ := row_parts HR2.out
      have hr3 := row_far HR2.out (Wr.of_below hb3 w2.heap.size w2.heap.size) (.inl hgs2)
      have HW3 : Hid (Wr lo (g + 1) w w3) := HW2.out.trans (Wr.of_below hb3 _ _)
      have hcy : ∃ u, w3.cell? ⟨w.heap.size, k, none⟩ = some u := by
        rw [World.ownsRow.cellAt hr3 k (by omega)]
        exact ⟨_, List.getElem?_eq_getElem (by rw [ics_length, HOL.out]; omega)⟩
      obtain ⟨u0, hcu⟩ := hcy
      have hfz := World.ownsRow.frozenAt hr3 k
      obtain ⟨cs3, v3, hbk3, hlc3, _⟩ := hl3.cells
      have d0 := (hbk3.cell 0).trans hlc3.tick
      have HR4 : Hid (World.ownsRow (w3.setCell ⟨w.heap.size, k, none⟩ (.int .i64 T)) w.heap.size 3 1 (.slice (some ⟨w.heap.size, 0, none⟩) n n) n (ics (out.set k T))) := out_row hr3
      have HL4 : Hid (LN (w3.setCell ⟨w.heap.size, k, none⟩ (.int .i64 T)) lo g T step 7 false gr pr (fun _ => 0) l) := hl3.far ((Wr.refl w.heap.size (w.heap.size + 1) w3).at k _) hgw
      have HW4 : Hid (Wr lo (g + 1) w (w3.setCell ⟨w.heap.size, k, none⟩ (.int .i64 T))) := ⟨HW3.out.os, HW3.out.tape, HW3.out.output, by simpa [World.setCell] using HW3.out.size, fun q hq hn => (Below.heap_setCell _ _ _ _ (by simp; omega)).trans (HW3.out.block q hq hn)⟩
      have hs4 : w3.heap.size ≤ (w3.setCell ⟨w.heap.size, k, none⟩ (.int .i64 T)).heap.size := by simp [World.setCell]
      clear hb3 hl3 hr3 hbk3 hlc3
      go_upto_region 5 with fail
      generalize w3.setCell ⟨w.heap.size, k, none⟩ (.int .i64 T) = w4 at HR4 HL4 HW4 hs4 ⊢
      clear d0 hcu hfz
      obtain ⟨cs4, v4, hbk4, hlc4, hol4⟩ := HL4.out.cells
      obtain ⟨b, c9, hv4, hlb, hbg, hbs, x0, x1, x2, hfr, _⟩ := ojb_at hol4 k hkl
      rw [HLL.out] at hv4
      subst hv4
      have d0 := (hbk4.cell 0).trans hlc4.tick
      have d1 := (hbk4.cell 1).trans hlc4.left
      have e0 := hbk4.free 0
      have hlk : ((l[k]!.l : Int)) = l[k]!.l := rfl
      have HL5 : Hid (LN (w4.setCell ⟨g, 0, none⟩ (.int .i64 (T + l[k]!.l))) lo g (T + l[k]!.l) step 7 false gr pr (fun _ => 0) l) := HL4.out.putTick _
      have HR5 : Hid (World.ownsRow (w4.setCell ⟨g, 0, none⟩ (.int .i64 (T + l[k]!.l))) w.heap.size 3 1 (.slice (some ⟨w.heap.size, 0, none⟩) n n) n (ics (out.set k T))) := row_far HR4.out ((Wr.refl g (g + 1) w4).at 0 _) (.inr (by omega))
      have HW5 : Hid (Wr lo (g + 1) w (w4.setCell ⟨g, 0, none⟩ (.int .i64 (T + l[k]!.l)))) := HW4.out.trans (((Wr.refl g (g + 1) w4).at 0 _).wide hlg (Nat.le_refl _))
      have hb5 : 1 ≤ l[k]!.l ∧ l[k]!.l ≤ 20 := ⟨hbd.2.2.2.2.1, hbd.2.2.2.2.2⟩
      clear hbk4 hlc4 hol4 hfr x0 x1 hlk hbd
      generalize l[k]!.l = LL at HL5 HR5 HW5 hb5 x2 HNEXT
      have e1 : IntKind.i64.wrap (T + LL) = T + LL := IntWalk.i64_in _ (by omega)
      go_region
      all_goals
        obtain ⟨cs5, v5, hbk5, hlc5, hol5⟩ := HL5.out.cells
        obtain ⟨b5, c5, hv5, hlb5, hbg5, hbs5, x0, x1, x2, hfr, hz⟩ := ojb_at hol5 k hkl
        rw [HLL.out] at hv5
        subst hv5
        have d1 := (hbk5.cell 1).trans hlc5.left
        have fz0 := hfr (k * 3)
        have fz1 := hfr (k * 3 + 1)
        have fz2 := hfr (k * 3 + 2)
        have HZ := Lib.hid hz
        have HBK5 := Lib.hid hbk5
        have HLC5 := Lib.hid hlc5
        clear d0 e0 hz hbk5 hlc5 hol5 hfr
        go_wp2_with fail
        have hw6 := ((((Wr.refl b5 (b5 + 1) (w4.setCell ⟨g, 0, none⟩ (.int .i64 (T + LL)))).at (k * 3) (.int .i64 0)).at (k * 3 + 1) (.int .i64 0)).at (k * 3 + 2) (.int .i64 0))
        have hw8 := Wr.wide hw6 hlb5 (show b5 + 1 ≤ g + 1 by omega)
        have hk8 := HBK5.out.far hw6 (.inr hbg5)
        have hr8 := row_far HR5.out hw6 (.inr (show b5 + 1 ≤ w.heap.size by omega))
        have hcl := cntJ_le l
        have hgg := HGK.out
        have hln := HLL.out
        go_roundg f1
        case rel => exact ⟨T + LL, l.set k jbZ, out.set k T, HCNT.out, HLEFT.out.set k (by rw [HN.out]; omega), HNEXT, by rw [List.length_set]; exact HOL.out, by omega, by omega,
          ⟨⟨cs5, _, hk8, HLC5.out, HZ.out⟩⟩, hr8, HW5.out.trans ⟨hw8.os, hw8.tape, hw8.output, hw8.size, hw8.block⟩⟩
        case measure => omega

set_option maxHeartbeats 4000000 in
theorem startsBy_aged (lo g : Nat) (step : Int) (gr pr : Value) (js : List Jb) (w : World) (h : LN w lo g 0 step 7 false gr pr (fun _ => 0) js) (hlg : lo ≤ g) (hA : areJb js = true) (hst : 1 ≤ step ∧ step ≤ 100) :
    Calls Try.prog 29 #[.pointer (some ⟨g, 0, none⟩), .func (.func 37) #[] #[]] w (RetStarts 3 lo g w (startsOf (rkA step) js)) := by
  obtain ⟨i0, hi, hz0, hz1, hz2⟩ := info_parts int_info
  have hgw := h.lt
  have hn := (areJb_in hA).1
  have hisJ := cntJ_all (l := js) (fun y hy => isJ_ok ((areJb_in hA).2.1 y hy).2.2.2.2.1)
  obtain ⟨cs, v, hbk, hlc, hol⟩ := h.cells
  have c1 := (hbk.cell 1).trans hlc.left
  have hv : ∃ A c, v = .slice A js.length c := by obtain ⟨A, c, hv, _⟩ := hol.rk; exact ⟨A, c, hv⟩
  obtain ⟨A, c, rfl⟩ := hv
  obtain ⟨R, hR⟩ : ∃ R, R = startsOf (rkA step) js := ⟨_, rfl⟩
  rw [← hR]
  have hRL : R.length = js.length := by rw [hR, startsOf_len]
  have HR : Hid (R = runL (rkA step) js.length 0 js (List.replicate js.length 0)) := hR
  obtain ⟨n, hN⟩ : ∃ n, js.length = n := ⟨_, rfl⟩
  rw [hN] at c1 hn hisJ HR hRL
  have hn' : (n : Int) ≤ 20 := by omega
  have HN := Lib.hid hN
  have HA := Lib.hid hA
  have HLN := Lib.hid h
  have HCN := Lib.hid hisJ
  have HRL := Lib.hid hRL
  clear hR hRL hbk hlc hol h hA hN hisJ
  go_enter Try.func29, Try.ntmps29
  go_wp2_with (at_make; refine wpList_make_full _ rfl _ _ 26 rfl w.heap.size 3 i0 _ 1 Try.underlying26 hi hz0 hz1 _ _ _ _ n rfl rfl rfl rfl (by rw [hz2]; omega) (by unfold maxLen; omega) (Nat.le_refl _) ?_; intro w1 hown hg2)
  have hown1 : w1.ownsRow w.heap.size 3 1 (.slice (some ⟨w.heap.size, 0, none⟩) n n) n (ics (List.replicate n 0)) := by
    have h1 : (Value.int IntKind.i64 0).cells = #[Value.int IntKind.i64 0] := rfl
    rw [Nat.mul_one, h1, toList_madeCells_one] at hown
    simpa [ics] using hown
  have hb1 : Below w.heap.size w w1 := (Below.refl _ _).grown hg2 (Nat.le_refl _) (by intro k hk; cases hk)
  have HL1 := Lib.hid (HLN.out.step hb1)
  have HW1 : Hid (Wr lo (g + 1) w w1) := Wr.of_below hb1 _ _
  have HO1 := Lib.hid hown1
  clear hown hg2 hb1 hown1 c1
  go_loopg [6] n (fun f s6 wr => ∃ (tick : Int) (l : List Jb) (out : List Int), f = cntJ l ∧ LeftOf js l ∧ Hid (R = runL (rkA step) f tick l out) ∧ out.length = n ∧ 0 ≤ tick ∧ tick + 20 * f ≤ 1000 + 20 * n ∧
    LN wr lo g tick step 7 false gr pr (fun _ => 0) l ∧ wr.ownsRow w.heap.size 3 1 (.slice (some ⟨w.heap.size, 0, none⟩) n n) n (ics out) ∧ Wr lo (g + 1) w wr)
  case atStart => exact ⟨0, js, List.replicate n 0, HCN.out.symm, LeftOf.refl _, HR, by simp, by omega, by omega, HL1.out, HO1.out, HW1.out⟩
  case round =>
    obtain ⟨tick, l, out, hgk, hleft, hr, hol, ht0, ht1, hln, hrow, hwr⟩ := hrel
    have hll : l.length = n := by rw [hleft.1]; exact HN.out
    have HAW := Lib.hid (await_any lo g tick step 7 false gr pr (fun _ => 0) l wr hln (by omega))
    have hsw := hwr.size
    have HLEFT := Lib.hid hleft
    have HRW := Lib.hid hrow
    have HWR := Lib.hid hwr
    have HLW := Lib.hid hln
    have HGK := Lib.hid hgk
    have HLL := Lib.hid hll
    have HOL := Lib.hid hol
    clear hleft hrow hwr hln hll hol
    by_cases hf : gk = 0
    · have h0 : cntJ l = 0 := by rw [← HGK.out]; exact hf
      have HOUT : Hid (out = R) := by
        have h9 := hr.out
        rw [hf] at h9
        exact h9.symm
      clear hr hgk hf
      go_wp2_with fail
      refine HAW.out.mono ?_; rintro e w2 hret
      obtain ⟨rfl, hb2⟩ := await_off hret h0
      have hs2 := hb2.size
      obtain ⟨_, hgs, _⟩ := row_parts HRW.out
      have HOI : Hid (OI 3 w2 w.heap.size w2.heap.size (.slice (some ⟨w.heap.size, 0, none⟩) n n) out) := by
        have h9 := row_far HRW.out (Wr.of_below hb2 wr.heap.size wr.heap.size) (.inl hgs)
        exact OI.of_row (by rw [HOL.out]; exact h9)
      have HW2 : Hid (Wr lo (g + 1) w w2) := HWR.out.trans (Wr.of_below hb2 _ _)
      clear hret hb2 h0
      go_wp2_with fail
      go_ret
      exact ⟨_, rfl, by rw [← HOUT.out]; exact HOI.out, HW2.out⟩
    · obtain ⟨f1, hf1⟩ : ∃ f1, gk = f1 + 1 := ⟨gk - 1, by omega⟩
      have hp : 0 < cntJ l := by rw [← HGK.out]; omega
      obtain ⟨u, f, k, u1, u2, u3, hT, hfst, hpk, hkl, hkj, hT0, hT1, hbd⟩ := step_of (rk := rkA step) HA.out HLEFT.out hp ht0
      have HNEXT : Hid (R = runL (rkA step) f1 (tickOf tick l + l[k]!.l) (l.set k jbZ) (out.set k (tickOf tick l))) := by
        have h9 := hr.out
        rw [hf1, runL_step hpk] at h9
        exact h9
      have HCNT : Hid (f1 = cntJ (l.set k jbZ)) := by
        have h9 := cntJ_set hkl hkj
        have h8 := HGK.out
        show _ = _
        omega
      have HAON := Lib.hid (fun (e : Ending) (w2 : World) hret => await_on (e := e) (w' := w2) hlg HLW.out hret u1 u2 u3 hT)
      have HY : Hid (∀ k, k < l.length → isW (tickOf tick l) l[k]! = true → 0 ≤ l[k]!.t ∧ l[k]!.t ≤ tickOf tick l ∧ 0 ≤ l[k]!.c ∧ l[k]!.c ≤ 7) := fun q hq hw => by
        have h9 := isW_t.1 hw
        have hq' : q < js.length := by rw [← HLEFT.out.1]; exact hq
        have h8 := HLEFT.out.is hq' h9.1
        have h7 := (areJb_in HA.out).2.1 _ (List.getElem_mem hq')
        rw [getElem!_pos js q hq'] at h8
        rw [h8] at h9 ⊢
        exact ⟨h7.1, h9.2, h7.2.2.1, h7.2.2.2.1⟩
      have HFST := Lib.hid hfst
      have HPK := Lib.hid hpk
      have hkn : k < n := by rw [← HLL.out]; exact hkl
      have hki : (k : Int) < (n : Int) := by omega
      clear hT hfst hpk u3 u2 hkj hr
      generalize tickOf tick l = T at HNEXT HAON HFST HPK hT0 hT1 HY
      go_wp2_with fail
      refine HAW.out.mono ?_; rintro e w2 hret
      obtain ⟨rfl, hl2, hw2⟩ := HAON.out e w2 hret
      have hs2 := hw2.size
      have hr2 := row_far HRW.out hw2 (.inr (by omega))
      have HL2 := Lib.hid hl2
      have HR2 := Lib.hid hr2
      have HW2 := Lib.hid (HWR.out.trans hw2)
      have HCH := Lib.hid (aged_is lo g T step 7 false gr pr (fun _ => 0) l f k w2 hl2 (by rw [HLL.out]; omega) HFST.out HPK.out (by omega) hst HY.out)
      clear hret hl2 hw2 hr2
      go_wp2_with fail
      refine HCH.out.mono ?_; rintro e w3 ⟨rfl, hb3⟩
      have hs3 := hb3.size
      have hl3 := HL2.out.step hb3
      obtain ⟨_, hgs2, _⟩ := row_parts HR2.out
      have hr3 := row_far HR2.out (Wr.of_below hb3 w2.heap.size w2.heap.size) (.inl hgs2)
      have HW3 : Hid (Wr lo (g + 1) w w3) := HW2.out.trans (Wr.of_below hb3 _ _)
      have hcy : ∃ u, w3.cell? ⟨w.heap.size, k, none⟩ = some u := by
        rw [World.ownsRow.cellAt hr3 k (by omega)]
        exact ⟨_, List.getElem?_eq_getElem (by rw [ics_length, HOL.out]; omega)⟩
      obtain ⟨u0, hcu⟩ := hcy
      have hfz := World.ownsRow.frozenAt hr3 k
      obtain ⟨cs3, v3, hbk3, hlc3, _⟩ := hl3.cells
      have d0 := (hbk3.cell 0).trans hlc3.tick
      have HR4 : Hid (World.ownsRow (w3.setCell ⟨w.heap.size, k, none⟩ (.int .i64 T)) w.heap.size 3 1 (.slice (some ⟨w.heap.size, 0, none⟩) n n) n (ics (out.set k T))) := out_row hr3
      have HL4 : Hid (LN (w3.setCell ⟨w.heap.size, k, none⟩ (.int .i64 T)) lo g T step 7 false gr pr (fun _ => 0) l) := hl3.far ((Wr.refl w.heap.size (w.heap.size + 1) w3).at k _) hgw
      have HW4 : Hid (Wr lo (g + 1) w (w3.setCell ⟨w.heap.size, k, none⟩ (.int .i64 T))) := ⟨HW3.out.os, HW3.out.tape, HW3.out.output, by simpa [World.setCell] using HW3.out.size, fun q hq hn => (Below.heap_setCell _ _ _ _ (by simp; omega)).trans (HW3.out.block q hq hn)⟩
      have hs4 : w3.heap.size ≤ (w3.setCell ⟨w.heap.size, k, none⟩ (.int .i64 T)).heap.size := by simp [World.setCell]
      clear hb3 hl3 hr3 hbk3 hlc3
      go_upto_region 5 with fail
      generalize w3.setCell ⟨w.heap.size, k, none⟩ (.int .i64 T) = w4 at HR4 HL4 HW4 hs4 ⊢
      clear d0 hcu hfz
      obtain ⟨cs4, v4, hbk4, hlc4, hol4⟩ := HL4.out.cells
      obtain ⟨b, c9, hv4, hlb, hbg, hbs, x0, x1, x2, hfr, _⟩ := ojb_at hol4 k hkl
      rw [HLL.out] at hv4
      subst hv4
      have d0 := (hbk4.cell 0).trans hlc4.tick
      have d1 := (hbk4.cell 1).trans hlc4.left
      have e0 := hbk4.free 0
      have hlk : ((l[k]!.l : Int)) = l[k]!.l := rfl
      have HL5 : Hid (LN (w4.setCell ⟨g, 0, none⟩ (.int .i64 (T + l[k]!.l))) lo g (T + l[k]!.l) step 7 false gr pr (fun _ => 0) l) := HL4.out.putTick _
      have HR5 : Hid (World.ownsRow (w4.setCell ⟨g, 0, none⟩ (.int .i64 (T + l[k]!.l))) w.heap.size 3 1 (.slice (some ⟨w.heap.size, 0, none⟩) n n) n (ics (out.set k T))) := row_far HR4.out ((Wr.refl g (g + 1) w4).at 0 _) (.inr (by omega))
      have HW5 : Hid (Wr lo (g + 1) w (w4.setCell ⟨g, 0, none⟩ (.int .i64 (T + l[k]!.l)))) := HW4.out.trans (((Wr.refl g (g + 1) w4).at 0 _).wide hlg (Nat.le_refl _))
      have hb5 : 1 ≤ l[k]!.l ∧ l[k]!.l ≤ 20 := ⟨hbd.2.2.2.2.1, hbd.2.2.2.2.2⟩
      clear hbk4 hlc4 hol4 hfr x0 x1 hlk hbd
      generalize l[k]!.l = LL at HL5 HR5 HW5 hb5 x2 HNEXT
      have e1 : IntKind.i64.wrap (T + LL) = T + LL := IntWalk.i64_in _ (by omega)
      go_region
      all_goals
        obtain ⟨cs5, v5, hbk5, hlc5, hol5⟩ := HL5.out.cells
        obtain ⟨b5, c5, hv5, hlb5, hbg5, hbs5, x0, x1, x2, hfr, hz⟩ := ojb_at hol5 k hkl
        rw [HLL.out] at hv5
        subst hv5
        have d1 := (hbk5.cell 1).trans hlc5.left
        have fz0 := hfr (k * 3)
        have fz1 := hfr (k * 3 + 1)
        have fz2 := hfr (k * 3 + 2)
        have HZ := Lib.hid hz
        have HBK5 := Lib.hid hbk5
        have HLC5 := Lib.hid hlc5
        clear d0 e0 hz hbk5 hlc5 hol5 hfr
        go_wp2_with fail
        have hw6 := ((((Wr.refl b5 (b5 + 1) (w4.setCell ⟨g, 0, none⟩ (.int .i64 (T + LL)))).at (k * 3) (.int .i64 0)).at (k * 3 + 1) (.int .i64 0)).at (k * 3 + 2) (.int .i64 0))
        have hw8 := Wr.wide hw6 hlb5 (show b5 + 1 ≤ g + 1 by omega)
        have hk8 := HBK5.out.far hw6 (.inr hbg5)
        have hr8 := row_far HR5.out hw6 (.inr (show b5 + 1 ≤ w.heap.size by omega))
        have hcl := cntJ_le l
        have hgg := HGK.out
        have hln := HLL.out
        go_roundg f1
        case rel => exact ⟨T + LL, l.set k jbZ, out.set k T, HCNT.out, HLEFT.out.set k (by rw [HN.out]; omega), HNEXT, by rw [List.length_set]; exact HOL.out, by omega, by omega,
          ⟨⟨cs5, _, hk8, HLC5.out, HZ.out⟩⟩, hr8, HW5.out.trans ⟨hw8.os, hw8.tape, hw8.output, hw8.size, hw8.block⟩⟩
        case measure => omega

set_option maxHeartbeats 1000000 in
theorem firstStarts_any (v : Value) (js : List Jb) (w : World) (h : RJbS w w.heap.size v js) (hA : areJb js = true) :
    Calls Try.prog 26 #[v] w (RetL 3 w (startsOf rk0 js)) := by
  have hn := (areJb_in hA).1
  have HL := Lib.hid (lineFor_any v js w h (by omega))
  obtain ⟨A, c, rfl, _⟩ := h
  go_enter Try.func26, Try.ntmps26
  go_wp2_with fail
  refine HL.out.mono ?_; rintro e w1 ⟨g, rfl, hlg, hgs, hln, hb⟩
  have HS := Lib.hid (startsBy_first w.heap.size g 0 _ _ js w1 hln hlg hA)
  have HB := Lib.hid hb
  clear hln hb
  go_wp2_with fail
  refine HS.out.mono ?_; rintro e w2 ⟨u, rfl, ho, hw⟩
  have HO := Lib.hid (ho.wide (lo' := w.heap.size) (hi' := w2.heap.size) HB.out.size (Nat.le_refl _))
  have HW := Lib.hid hw
  clear ho hw
  go_wp2_with fail
  go_ret
  exact ⟨_, rfl, HO.out, HB.out.trans (HW.out.below (Nat.le_refl _) HB.out.size)⟩
set_option maxHeartbeats 1000000 in
theorem implFirstStarts_any (v : Value) (js : List Jb) (w : World) (h : RJbS w w.heap.size v js) (hn : js.length ≤ 1048576) :
    Calls Try.prog 6 #[v] w (RetLB 3 w (firstOf js).1 (firstOf js).2) := by
  have HA := Lib.hid (implAreJobs_any v js w h hn)
  cases hg : areJb js
  · have HF : firstOf js = ([], false) := by simp [firstOf, hg]
    rw [HF]
    rw [hg] at HA
    clear hg HF
    go_enter Try.func6, Try.ntmps6
    go_wp2_with fail
    refine HA.out.mono ?_; rintro e w1 ⟨rfl, T⟩
    go_wp2_with fail
    go_ret2
    exact ⟨_, rfl, .inl ⟨rfl, none, 0, rfl, by simp, fun _ => rfl⟩, T⟩
  · have HF : firstOf js = (startsOf rk0 js, true) := by simp [firstOf, hg]
    rw [HF]
    have HS := Lib.hid (fun (w' : World) (hb : Below w.heap.size w w') => firstStarts_any v js w' ((h.step hb (Nat.le_refl _)).more hb.size) hg)
    rw [hg] at HA
    clear hg HF
    go_enter Try.func6, Try.ntmps6
    go_wp2_with fail
    refine HA.out.mono ?_; rintro e w1 ⟨rfl, T⟩
    go_wp2_with fail
    refine (HS.out _ T).mono ?_; rintro e w2 ⟨u, rfl, ho, hb2⟩
    have HT := Lib.hid (T.trans (hb2.mono T.size))
    have HO := Lib.hid (ho.wide (lo' := w.heap.size) (hi' := w2.heap.size) T.size (Nat.le_refl _))
    clear ho hb2 T
    go_wp2_with fail
    go_ret2
    exact ⟨_, rfl, HO.out, HT.out⟩
set_option maxHeartbeats 2000000 in
theorem implStrictStarts_any (v : Value) (js : List Jb) (w : World) (h : RJbS w w.heap.size v js) (hn : js.length ≤ 1048576) :
    Calls Try.prog 8 #[v] w (RetLB 3 w (strictOf js).1 (strictOf js).2) := by
  have HA := Lib.hid (implAreJobs_any v js w h hn)
  cases hg : areJb js
  · have HF : strictOf js = ([], false) := by simp [strictOf, hg]
    rw [HF]
    rw [hg] at HA
    clear hg HF
    go_enter Try.func8, Try.ntmps8
    go_wp2_with fail
    refine HA.out.mono ?_; rintro e w1 ⟨rfl, T⟩
    go_wp2_with fail
    go_ret2
    exact ⟨_, rfl, .inl ⟨rfl, none, 0, rfl, by simp, fun _ => rfl⟩, T⟩
  have HF : strictOf js = (startsOf (rkC) js, true) := by simp [strictOf, hg]
  rw [HF]
  have hn2 := (areJb_in hg).1
  have HL := Lib.hid (fun (w' : World) (hb : Below w.heap.size w w') => lineFor_any v js w' ((h.step hb (Nat.le_refl _)).more hb.size) hn)
  have HJ := Lib.hid hg
  rw [hg] at HA
  clear hg HF
  obtain ⟨A, c, rfl, _⟩ := h
  go_enter Try.func8, Try.ntmps8
  go_wp2_with fail
  refine HA.out.mono ?_; rintro e w1 ⟨rfl, T⟩
  go_wp2_with fail
  refine (HL.out _ T).mono ?_; rintro e w2 ⟨g, rfl, hlg, hgs, hln, hb2⟩
  have HB := Lib.hid (T.trans (hb2.mono T.size))
  have HS := Lib.hid (startsBy_strict w1.heap.size g 0 _ _ js w2 hln hlg HJ.out)
  have HB2 := HB
  have ht1 := T.size
  clear hln hb2 T
  go_wp2_with fail
  refine HS.out.mono ?_; rintro e w3 ⟨u, rfl, ho, hw⟩
  have HO := Lib.hid (ho.wide (lo' := w.heap.size) (hi' := w3.heap.size) HB2.out.size (Nat.le_refl _))
  have HW := Lib.hid hw
  clear ho hw
  go_wp2_with fail
  go_ret2
  exact ⟨_, rfl, HO.out, HB2.out.trans (HW.out.below ht1 HB2.out.size)⟩
set_option maxHeartbeats 2000000 in
theorem implAgedStarts_any (v : Value) (js : List Jb) (step : Int) (w : World) (h : RJbS w w.heap.size v js) (hn : js.length ≤ 1048576) (hx : (Lit.int .i64 step).wf = true) :
    Calls Try.prog 14 #[v, .int .i64 step] w (RetLB 3 w (agedOf js step).1 (agedOf js step).2) := by
  have HA := Lib.hid (implAreJobs_any v js w h hn)
  cases hg : areJb js
  · have HF : agedOf js step = ([], false) := by simp [agedOf, hg]
    rw [HF]
    rw [hg] at HA
    clear hg HF
    go_enter Try.func14, Try.ntmps14
    go_wp2_with fail
    refine HA.out.mono ?_; rintro e w1 ⟨rfl, T⟩
    go_wp2_with fail
    go_ret2
    exact ⟨_, rfl, .inl ⟨rfl, none, 0, rfl, by simp, fun _ => rfl⟩, T⟩
  cases hwa : wi step 1 100
  · have HF : agedOf js step = ([], false) := by simp [agedOf, hwa]
    rw [HF]
    rw [hg] at HA
    clear hg HF
    go_enter Try.func14, Try.ntmps14
    go_wp2_with fail
    refine HA.out.mono ?_; rintro e w1 ⟨rfl, T⟩
    go_wp2_with (go_at_call 32; refine (isWithin_is _ _ _ _ false hwa).mono ?_; rintro e w' ⟨rfl, rfl⟩)
    go_ret2
    exact ⟨_, rfl, .inl ⟨rfl, none, 0, rfl, by simp, fun _ => rfl⟩, T⟩
  have hst : 1 ≤ step ∧ step ≤ 100 := by simpa [wi] using hwa
  have HF : agedOf js step = (startsOf (rkA step) js, true) := by simp [agedOf, hg, hwa]
  rw [HF]
  have hn2 := (areJb_in hg).1
  have HL := Lib.hid (fun (w' : World) (hb : Below w.heap.size w w') => lineFor_any v js w' ((h.step hb (Nat.le_refl _)).more hb.size) hn)
  have HJ := Lib.hid hg
  rw [hg] at HA
  clear hg HF
  obtain ⟨A, c, rfl, _⟩ := h
  go_enter Try.func14, Try.ntmps14
  go_wp2_with fail
  refine HA.out.mono ?_; rintro e w1 ⟨rfl, T⟩
  go_wp2_with (first | (go_at_call 32; refine (isWithin_is _ _ _ _ true hwa).mono ?_; rintro e w' ⟨rfl, rfl⟩) | fail)
  refine (HL.out _ T).mono ?_; rintro e w2 ⟨g, rfl, hlg, hgs, hln, hb2⟩
  have HB := Lib.hid (T.trans (hb2.mono T.size))
  obtain ⟨cs, u2, hbk, hlc, hol⟩ := hln.cells
  have c2 := (hbk.cell 2).trans hlc.step
  have f2 := hbk.free 2
  have hln2 : LN (w2.setCell ⟨g, 2, none⟩ (.int .i64 step)) w1.heap.size g 0 step 7 false (.slice none 0 0) .nilFunc (fun _ => 0) js := by
    refine ⟨⟨_, u2, hbk.put 2 _, ?_, OK.far hol ((Wr.refl g (g + 1) w2).at 2 _) (.inl (Nat.le_refl _))⟩⟩
    have hs := hlc.size
    refine ⟨by simp [hs], ?_, ?_, ?_, ?_, ?_, ?_, ?_, ?_⟩
    · simp [hlc.tick]
    · simp [hlc.left]
    · simp [hs]
    · simp [hlc.tc]
    · simp [hlc.tb]
    · simp [hlc.gr]
    · simp [hlc.pr]
    · intro i hi
      have := hlc.cr i hi
      rw [Array.getElem?_setIfInBounds, if_neg (by omega)]
      exact this
  have HS := Lib.hid (startsBy_aged w1.heap.size g step _ _ js _ hln2 hlg HJ.out hst)
  have HB2 : Hid (Below w.heap.size w (w2.setCell ⟨g, 2, none⟩ (.int .i64 step))) := HB.out.setCell (p := ⟨g, 2, none⟩) (by have := T.size; simp; omega) _
  clear hbk hlc hol hln2
  have ht1 := T.size
  clear hln hb2 T
  go_wp2_with fail
  refine HS.out.mono ?_; rintro e w3 ⟨u, rfl, ho, hw⟩
  have HO := Lib.hid (ho.wide (lo' := w.heap.size) (hi' := w3.heap.size) HB2.out.size (Nat.le_refl _))
  have HW := Lib.hid hw
  clear ho hw
  go_wp2_with fail
  go_ret2
  exact ⟨_, rfl, HO.out, HB2.out.trans (HW.out.below ht1 HB2.out.size)⟩
end Go.Proofs.Yteoggoopfjkdkaa
