/-
  The greatest one of the jobs that wait, by its class or by its class and age.
-/
import Derived.Test.YteoggoopfjkdkaaAwait
import Derived.Test.YteoggoopfjkdkaaHeld
import Derived.Deep.RegionHeld3
import Derived.Deep.DeepCutAuto
import Derived.RegionTactic
import Derived.BigRegion
namespace Go.Proofs.Yteoggoopfjkdkaa
open Go.RowKit
set_option maxRecDepth 100000
set_option linter.unusedVariables false

theorem classOf_any (p : Value) (y : Jb) (w : World) : Calls Try.prog 61 #[p, JbV y] w (RetV w (.int .i64 y.c)) := by
  obtain ⟨t, c, l⟩ := y
  simp only [JbV]
  have hW : Below w.heap.size w (w.alloc (.cells #[.int .i64 t, .int .i64 c, .int .i64 l] 43)) := (Below.refl _ _).alloc (Nat.le_refl _) _
  go_enter Try.func61, Try.ntmps61
  go_wp2_with fail
  go_ret
  exact ⟨rfl, hW⟩
/-- The class of a job, and one more for each step that it has waited. -/
def agedC (tick step : Int) (y : Jb) : Int := y.c + (tick - y.t) / step
set_option maxHeartbeats 1000000 in
theorem agedClassOf_any (g : Nat) (tick step : Int) (y : Jb) (w : World) (h0 : w.cell? ⟨g, 0, none⟩ = some (.int .i64 tick)) (h2 : w.cell? ⟨g, 2, none⟩ = some (.int .i64 step)) (hg : g < w.heap.size)
    (ht : 0 ≤ tick ∧ tick ≤ 10000) (hs : 1 ≤ step ∧ step ≤ 100) (hy : 0 ≤ y.t ∧ y.t ≤ tick) (hc : 0 ≤ y.c ∧ y.c ≤ 7) :
    Calls Try.prog 63 #[.pointer (some ⟨g, 0, none⟩), JbV y] w (RetV w (.int .i64 (agedC tick step y))) := by
  obtain ⟨t, c, l⟩ := y
  simp only [JbV, agedC] at hy hc ⊢
  have hW : Below w.heap.size w (w.alloc (.cells #[.int .i64 t, .int .i64 c, .int .i64 l] 43)) := (Below.refl _ _).alloc (Nat.le_refl _) _
  have q0 : (w.alloc (.cells #[.int .i64 t, .int .i64 c, .int .i64 l] 43)).cell? ⟨g, 0, none⟩ = some (.int .i64 tick) := (World.cell?_alloc_lt w _ ⟨g, 0, none⟩ hg).trans h0
  have q2 : (w.alloc (.cells #[.int .i64 t, .int .i64 c, .int .i64 l] 43)).cell? ⟨g, 2, none⟩ = some (.int .i64 step) := (World.cell?_alloc_lt w _ ⟨g, 2, none⟩ hg).trans h2
  have d0 : 0 ≤ (tick - t) / step := Int.ediv_nonneg (by omega) (by omega)
  have d1 : (tick - t) / step ≤ tick - t := Int.ediv_le_self _ (by omega)
  have e1 : (tick - t).tdiv step = (tick - t) / step := Int.tdiv_eq_ediv_of_nonneg (by omega)
  have e2 : IntKind.i64.wrap (tick - t) = tick - t := IntWalk.i64_in _ (by omega)
  obtain ⟨D, hD⟩ : ∃ D, (tick - t) / step = D := ⟨_, rfl⟩
  rw [hD] at d0 d1 e1 ⊢
  have e3 : IntKind.i64.wrap D = D := IntWalk.i64_in _ (by omega)
  have e4 : IntKind.i64.wrap (c + D) = c + D := IntWalk.i64_in _ (by omega)
  have e5 : step ≠ 0 := by omega
  have HD := Lib.hid hD
  clear hD h0 h2
  go_enter Try.func63, Try.ntmps63
  go_wp2_with fail
  go_quiet (fail)
  go_wp2_with fail
  go_ret
  refine ⟨?_, below_drewN hW _⟩
  rfl

set_option maxHeartbeats 4000000 in
theorem greatest_strict (lo g : Nat) (tick step tc : Int) (tb : Bool) (gr pr : Value) (cr : Nat → Int) (l : List Jb) (f : Nat) (rk : Jb → Int) (w : World) (h : LN w lo g tick step tc tb gr pr cr l) (hn : l.length ≤ 20)
    (hf : f < l.length) (hfw : isW tick l[f]! = true) (hfl : ∀ j, j < f → isW tick l[j]! = false)
    (hr : ∀ k wx, k < l.length → isW tick l[k]! = true → Below w.heap.size w wx → Calls Try.prog 61 #[.pointer (some ⟨g, 0, none⟩), JbV l[k]!] wx (RetV wx (.int .i64 (rk l[k]!)))) :
    Calls Try.prog 60 #[.pointer (some ⟨g, 0, none⟩), .func (.func 61) #[] #[]] w (RetV w (.int .i64 ((bestOf (fun i => isW tick l[i]!) (fun i => rk l[i]!) l.length).getD f : Nat))) := by
  have HF := Lib.hid (first_any lo g tick step tc tb gr pr cr l w h hn)
  obtain ⟨cs, v, hbk, hlc, hol⟩ := h.cells
  have hgs := hbk.1
  have c0 := (hbk.cell 0).trans hlc.tick
  have c1 := (hbk.cell 1).trans hlc.left
  have hn' : (l.length : Int) ≤ 20 := by omega
  obtain ⟨b, off, c, hv, hbb, _⟩ := left_cells hol.rk f hf
  subst hv
  have HLC := Lib.hid (fun k (hk : k < l.length) => left_cells hol.rk k hk)
  obtain ⟨R, hR⟩ : ∃ R, R = (bestOf (fun i => isW tick l[i]!) (fun i => rk l[i]!) l.length).getD f := ⟨_, rfl⟩
  rw [← hR]
  have HR := Lib.hid hR
  have HRK := Lib.hid hr
  have HFW := Lib.hid hfw
  have HFL := Lib.hid hfl
  have H0 := Lib.hid c0
  have H1 := Lib.hid c1
  have HGS := Lib.hid hgs
  have HBG := Lib.hid hbb
  clear hbk hlc hol h hR hr hfw hfl c0 c1
  go_enter Try.func60, Try.ntmps60
  go_wp2_with fail
  refine HF.out.mono ?_; rintro e w1 ⟨x, hx, rfl, hb1⟩
  obtain rfl : x = (f : Int) := by
    rcases hx with ⟨k, hk, h1, h2, rfl⟩ | ⟨h2, _⟩
    · rcases Nat.lt_trichotomy k f with h9 | h9 | h9
      · have := HFL.out k h9; rw [h1] at this; cases this
      · rw [h9]
      · have := h2 f h9; rw [HFW.out] at this; cases this
    · have := h2 f hf; rw [HFW.out] at this; cases this
  have HT1 := Lib.hid hb1
  have hs1 := hb1.size
  have c1 := (hb1.cell (p := ⟨g, 1, none⟩) hgs).trans H1.out
  clear hx hb1
  go_wp2_with fail
  clear c1
  go_loopw [5, 15] (fun u i wr => ∃ m ch : Nat, m ≤ l.length ∧ i = .int .i64 m ∧ u = .int .i64 ch ∧ ch < l.length ∧ isW tick l[ch]! = true ∧ ch = (bestOf (fun i => isW tick l[i]!) (fun i => rk l[i]!) m).getD f ∧ Below w.heap.size w wr) (fun _ i _ => l.length - (intOf i).toNat)
  case atStart => exact ⟨0, f, Nat.zero_le _, rfl, rfl, hf, HFW.out, rfl, HT1.out⟩
  case round =>
    obtain ⟨m, ch, hm, rfl, rfl, hchl, hchw, hch, hbw⟩ := hrel
    have hsw := hbw.size
    have HT := Lib.hid hbw
    have HCH := Lib.hid hch
    have HCW := Lib.hid hchw
    clear hch hchw
    by_cases hlt : m < l.length
    · have hmi : (m : Int) < (l.length : Int) := by omega
      have hci : (ch : Int) < (l.length : Int) := by omega
      obtain ⟨b9, off9, c9, hv9, _, g0, g1, g2⟩ := HLC.out m hlt
      injection hv9 with hA9 _ hC9
      injection hA9 with hA9
      injection hA9 with hB9 hO9
      subst hB9; subst hO9; subst hC9
      obtain ⟨b9, off9, c9, hv9, _, r0, r1, r2⟩ := HLC.out ch hchl
      injection hv9 with hA9 _ hC9
      injection hA9 with hA9
      injection hA9 with hB9 hO9
      subst hB9; subst hO9; subst hC9
      have y0 := (hbw.cell (p := ⟨b, off + m * 3, none⟩) (by simp; omega)).trans g0
      have y1 := (hbw.cell (p := ⟨b, off + m * 3 + 1, none⟩) (by simp; omega)).trans g1
      have y2 := (hbw.cell (p := ⟨b, off + m * 3 + 2, none⟩) (by simp; omega)).trans g2
      have z0 := (hbw.cell (p := ⟨b, off + ch * 3, none⟩) (by simp; omega)).trans r0
      have z1 := (hbw.cell (p := ⟨b, off + ch * 3 + 1, none⟩) (by simp; omega)).trans r1
      have z2 := (hbw.cell (p := ⟨b, off + ch * 3 + 2, none⟩) (by simp; omega)).trans r2
      have t0 := (hbw.cell (p := ⟨g, 0, none⟩) hgs).trans H0.out
      have x1 := (hbw.cell (p := ⟨g, 1, none⟩) hgs).trans H1.out
      have HST := Lib.hid (bestOf_step (w := fun i => isW tick l[i]!) (r := fun i => rk l[i]!) HFW.out HFL.out HCH.out)
      have HRC : Hid (∀ wx, Below wr.heap.size wr wx → Calls Try.prog 61 #[.pointer (some ⟨g, 0, none⟩), JbV l[ch]!] wx (RetV wx (.int .i64 (rk l[ch]!)))) := fun wx hx => HRK.out ch wx hchl HCW.out (HT.out.trans (hx.mono hsw))
      have HRY : Hid (isW tick l[m]! = true → ∀ wx, Below wr.heap.size wr wx → Calls Try.prog 61 #[.pointer (some ⟨g, 0, none⟩), JbV l[m]!] wx (RetV wx (.int .i64 (rk l[m]!)))) := fun hm wx hx => HRK.out m wx hlt hm (HT.out.trans (hx.mono hsw))
      have HMW : Hid (∀ B, isW tick l[m]! = B → isW tick l[m]! = B) := fun _ h => h
      clear g0 g1 g2 r0 r1 r2 hbw
      have hmw : isW tick l[m]! = isW tick l[m]! := rfl
      obtain ⟨rm, hrm⟩ : ∃ x, rk l[m]! = x := ⟨_, rfl⟩
      obtain ⟨rc, hrc⟩ : ∃ x, rk l[ch]! = x := ⟨_, rfl⟩
      have HYES : Hid (isW tick l[m]! = true → rc < rm → m = (bestOf (fun i => isW tick l[i]!) (fun i => rk l[i]!) (m + 1)).getD f) := fun a b => HST.out.1 ⟨a, by show rk l[ch]! < rk l[m]!; rw [hrm, hrc]; exact b⟩
      have HNO : Hid (¬ (isW tick l[m]! = true ∧ rc < rm) → ch = (bestOf (fun i => isW tick l[i]!) (fun i => rk l[i]!) (m + 1)).getD f) := fun a => HST.out.2 (by show ¬ (isW tick l[m]! = true ∧ rk l[ch]! < rk l[m]!); rw [hrm, hrc]; exact a)
      rw [hrm] at HRY
      rw [hrc] at HRC
      clear hrm hrc hmw HMW
      have HZ := Lib.hid (Nat.lt_succ_self wr.heap.size)
      have HG := Lib.hid (show g < wr.heap.size by omega)
      have HBB := Lib.hid (show b < wr.heap.size by have := HBG.out; omega)
      have HWM : Hid (∀ wx : World, Below wr.heap.size wr wx → wr.heap.size ≤ wx.heap.size → Calls Try.prog 71 #[.pointer (some ⟨g, 0, none⟩), JbV l[m]!] wx (RetV wx (.bool (isW tick l[m]!)))) := fun wx hx hs => waits_any g tick l[m]! wx ((hx.cell (p := ⟨g, 0, none⟩) (by simp; exact HG.out)).trans t0) (Nat.lt_of_lt_of_le HG.out hs)
      generalize l[ch]! = z at z0 z1 z2 HRC
      cases hw : isW tick l[m]!
      · rw [hw] at HWM
        have HNN := Lib.hid (HNO.out (by rw [hw]; rintro ⟨h9, _⟩; cases h9))
        clear hw HRY HNO HYES
        generalize l[m]! = y at y0 y1 y2 HWM
        obtain ⟨yt, yc, yl⟩ := y
        obtain ⟨zt, zc, zl⟩ := z
        simp only [JbV] at y0 y1 y2 HWM z0 z1 z2 HRC
        have hBX := BK.made wr 43 #[.int .i64 yt, .int .i64 yc, .int .i64 yl]
        have lz0 : wr.heap.size < (wr.alloc (.cells #[.int .i64 yt, .int .i64 yc, .int .i64 yl] 43)).heap.size := by simp
        have lg0 : g < (wr.alloc (.cells #[.int .i64 yt, .int .i64 yc, .int .i64 yl] 43)).heap.size := Nat.lt_trans HG.out lz0
        have lb0 : b < (wr.alloc (.cells #[.int .i64 yt, .int .i64 yc, .int .i64 yl] 43)).heap.size := Nat.lt_trans HBB.out lz0
        have hbx : Below wr.heap.size wr (wr.alloc (.cells #[.int .i64 yt, .int .i64 yc, .int .i64 yl] 43)) := (Below.refl _ _).alloc (Nat.le_refl _) _
        have a0 : ∀ s : HW (wr.alloc (.cells #[.int .i64 yt, .int .i64 yc, .int .i64 yl] 43)), s.W.cell? ⟨wr.heap.size, 0, none⟩ = some (.int .i64 yt) := fun s => HW.cellIs (p := ⟨wr.heap.size, 0, none⟩) (hBX.cell 0) lz0 s
        have a1 : ∀ s : HW (wr.alloc (.cells #[.int .i64 yt, .int .i64 yc, .int .i64 yl] 43)), s.W.cell? ⟨wr.heap.size, 1, none⟩ = some (.int .i64 yc) := fun s => HW.cellIs (p := ⟨wr.heap.size, 1, none⟩) (hBX.cell 1) lz0 s
        have a2 : ∀ s : HW (wr.alloc (.cells #[.int .i64 yt, .int .i64 yc, .int .i64 yl] 43)), s.W.cell? ⟨wr.heap.size, 2, none⟩ = some (.int .i64 yl) := fun s => HW.cellIs (p := ⟨wr.heap.size, 2, none⟩) (hBX.cell 2) lz0 s
        have a3 : ∀ s : HW (wr.alloc (.cells #[.int .i64 yt, .int .i64 yc, .int .i64 yl] 43)), s.W.cell? ⟨g, 1, none⟩ = some (.slice (some ⟨b, off, none⟩) l.length c) := fun s => HW.cellIs (p := ⟨g, 1, none⟩) ((World.cell?_alloc_lt wr _ ⟨g, 1, none⟩ HG.out).trans x1) lg0 s
        have a4 : ∀ s : HW (wr.alloc (.cells #[.int .i64 yt, .int .i64 yc, .int .i64 yl] 43)), s.W.cell? ⟨b, off + ch * 3, none⟩ = some (.int .i64 zt) := fun s => HW.cellIs (p := ⟨b, off + ch * 3, none⟩) ((World.cell?_alloc_lt wr _ _ HBB.out).trans z0) lb0 s
        have a5 : ∀ s : HW (wr.alloc (.cells #[.int .i64 yt, .int .i64 yc, .int .i64 yl] 43)), s.W.cell? ⟨b, off + ch * 3 + 1, none⟩ = some (.int .i64 zc) := fun s => HW.cellIs (p := ⟨b, off + ch * 3 + 1, none⟩) ((World.cell?_alloc_lt wr _ _ HBB.out).trans z1) lb0 s
        have a6 : ∀ s : HW (wr.alloc (.cells #[.int .i64 yt, .int .i64 yc, .int .i64 yl] 43)), s.W.cell? ⟨b, off + ch * 3 + 2, none⟩ = some (.int .i64 zl) := fun s => HW.cellIs (p := ⟨b, off + ch * 3 + 2, none⟩) ((World.cell?_alloc_lt wr _ _ HBB.out).trans z2) lb0 s
        have hup := fun (wx : World) (s : HW (wr.alloc (.cells #[.int .i64 yt, .int .i64 yc, .int .i64 yl] 43))) => hbx.trans (s.bel.mono (Nat.le_of_lt lz0))
        have HW5 := Lib.hid (fun (s : HW (wr.alloc (.cells #[.int .i64 yt, .int .i64 yc, .int .i64 yl] 43))) => HWM.out s.W (hup s.W s) (hup s.W s).size)
        have HUP := Lib.hid hup
        clear hBX z0 z1 z2 x1 t0 hbx hup lz0 lg0 lb0
        · go_upto_region 5 with fail
          refine wp_region_held_lit (by kernel_rfl) (by kernel_rfl) ?_
          repeat (go_big_quiet_step ((first | (go_at_call 71; with_reducible exact held_call _ (HW5.out _)))))
          refine wpQuiet_nil ?_
          intro _ hw'
          obtain ⟨s5, hw''⟩ := hw'
          subst hw''
          have HT5 := Lib.hid (HT.out.trans ((HUP.out s5.W s5).mono hsw))
          go_wp2_with fail
          go_roundw
          case rel => exact ⟨m + 1, ch, by omega, by go_num, rfl, hchl, HCW.out, HNN.out, HT5.out⟩
          case measure => simp [intOf]; omega
      · rw [hw] at HWM
        have HMT := Lib.hid hw
        have HMW0 := Lib.hid hw
        have HRY := Lib.hid (HRY.out hw)
        have HYE : Hid (rc < rm → m = (bestOf (fun i => isW tick l[i]!) (fun i => rk l[i]!) (m + 1)).getD f) := fun a => HYES.out HMT.out a
        have HNE : Hid (¬ rc < rm → ch = (bestOf (fun i => isW tick l[i]!) (fun i => rk l[i]!) (m + 1)).getD f) := fun a => HNO.out (fun h9 => a h9.2)
        clear hw HNO HYES
        generalize l[m]! = y at y0 y1 y2 HWM HRY HMT
        obtain ⟨yt, yc, yl⟩ := y
        obtain ⟨zt, zc, zl⟩ := z
        simp only [JbV] at y0 y1 y2 HWM z0 z1 z2 HRC HRY
        have hBX := BK.made wr 43 #[.int .i64 yt, .int .i64 yc, .int .i64 yl]
        have lz0 : wr.heap.size < (wr.alloc (.cells #[.int .i64 yt, .int .i64 yc, .int .i64 yl] 43)).heap.size := by simp
        have lg0 : g < (wr.alloc (.cells #[.int .i64 yt, .int .i64 yc, .int .i64 yl] 43)).heap.size := Nat.lt_trans HG.out lz0
        have lb0 : b < (wr.alloc (.cells #[.int .i64 yt, .int .i64 yc, .int .i64 yl] 43)).heap.size := Nat.lt_trans HBB.out lz0
        have hbx : Below wr.heap.size wr (wr.alloc (.cells #[.int .i64 yt, .int .i64 yc, .int .i64 yl] 43)) := (Below.refl _ _).alloc (Nat.le_refl _) _
        have a0 : ∀ s : HW (wr.alloc (.cells #[.int .i64 yt, .int .i64 yc, .int .i64 yl] 43)), s.W.cell? ⟨wr.heap.size, 0, none⟩ = some (.int .i64 yt) := fun s => HW.cellIs (p := ⟨wr.heap.size, 0, none⟩) (hBX.cell 0) lz0 s
        have a1 : ∀ s : HW (wr.alloc (.cells #[.int .i64 yt, .int .i64 yc, .int .i64 yl] 43)), s.W.cell? ⟨wr.heap.size, 1, none⟩ = some (.int .i64 yc) := fun s => HW.cellIs (p := ⟨wr.heap.size, 1, none⟩) (hBX.cell 1) lz0 s
        have a2 : ∀ s : HW (wr.alloc (.cells #[.int .i64 yt, .int .i64 yc, .int .i64 yl] 43)), s.W.cell? ⟨wr.heap.size, 2, none⟩ = some (.int .i64 yl) := fun s => HW.cellIs (p := ⟨wr.heap.size, 2, none⟩) (hBX.cell 2) lz0 s
        have a3 : ∀ s : HW (wr.alloc (.cells #[.int .i64 yt, .int .i64 yc, .int .i64 yl] 43)), s.W.cell? ⟨g, 1, none⟩ = some (.slice (some ⟨b, off, none⟩) l.length c) := fun s => HW.cellIs (p := ⟨g, 1, none⟩) ((World.cell?_alloc_lt wr _ ⟨g, 1, none⟩ HG.out).trans x1) lg0 s
        have a4 : ∀ s : HW (wr.alloc (.cells #[.int .i64 yt, .int .i64 yc, .int .i64 yl] 43)), s.W.cell? ⟨b, off + ch * 3, none⟩ = some (.int .i64 zt) := fun s => HW.cellIs (p := ⟨b, off + ch * 3, none⟩) ((World.cell?_alloc_lt wr _ _ HBB.out).trans z0) lb0 s
        have a5 : ∀ s : HW (wr.alloc (.cells #[.int .i64 yt, .int .i64 yc, .int .i64 yl] 43)), s.W.cell? ⟨b, off + ch * 3 + 1, none⟩ = some (.int .i64 zc) := fun s => HW.cellIs (p := ⟨b, off + ch * 3 + 1, none⟩) ((World.cell?_alloc_lt wr _ _ HBB.out).trans z1) lb0 s
        have a6 : ∀ s : HW (wr.alloc (.cells #[.int .i64 yt, .int .i64 yc, .int .i64 yl] 43)), s.W.cell? ⟨b, off + ch * 3 + 2, none⟩ = some (.int .i64 zl) := fun s => HW.cellIs (p := ⟨b, off + ch * 3 + 2, none⟩) ((World.cell?_alloc_lt wr _ _ HBB.out).trans z2) lb0 s
        have hup := fun (wx : World) (s : HW (wr.alloc (.cells #[.int .i64 yt, .int .i64 yc, .int .i64 yl] 43))) => hbx.trans (s.bel.mono (Nat.le_of_lt lz0))
        have HW5 := Lib.hid (fun (s : HW (wr.alloc (.cells #[.int .i64 yt, .int .i64 yc, .int .i64 yl] 43))) => HWM.out s.W (hup s.W s) (hup s.W s).size)
        have HRY5 := Lib.hid (fun (s : HW (wr.alloc (.cells #[.int .i64 yt, .int .i64 yc, .int .i64 yl] 43))) => HRY.out s.W (hup s.W s))
        have HRC5 := Lib.hid (fun (s : HW (wr.alloc (.cells #[.int .i64 yt, .int .i64 yc, .int .i64 yl] 43))) => HRC.out s.W (hup s.W s))
        have HUP := Lib.hid hup
        clear hBX z0 z1 z2 x1 t0 hbx hup lz0 lg0 lb0
        have hmch : Hid (isW tick l[m]! = true) := HMW0
        by_cases hrr : rc < rm
        · have HNN := Lib.hid (HYE.out hrr)
          · go_upto_region 5 with fail
            refine wp_region_held_lit (by kernel_rfl) (by kernel_rfl) ?_
            repeat (go_big_quiet_step ((first | (go_at_call 71; with_reducible exact held_call _ (HW5.out _)) | (go_at_call 61; with_reducible exact held_call _ (HRY5.out _)) | (go_at_call 61; with_reducible exact held_call _ (HRC5.out _)))))
            refine wpQuiet_nil ?_
            intro _ hw'
            obtain ⟨s5, hw''⟩ := hw'
            subst hw''
            have HT7 := Lib.hid (HT.out.trans ((HUP.out s5.W s5).mono hsw))
            go_wp2_with fail
            go_roundw
            case rel => exact ⟨m + 1, m, by omega, by go_num, rfl, hlt, hmch.out, HNN.out, HT7.out⟩
            case measure => simp [intOf]; omega
        · have HNN := Lib.hid (HNE.out hrr)
          · go_upto_region 5 with fail
            refine wp_region_held_lit (by kernel_rfl) (by kernel_rfl) ?_
            repeat (go_big_quiet_step ((first | (go_at_call 71; with_reducible exact held_call _ (HW5.out _)) | (go_at_call 61; with_reducible exact held_call _ (HRY5.out _)) | (go_at_call 61; with_reducible exact held_call _ (HRC5.out _)))))
            refine wpQuiet_nil ?_
            intro _ hw'
            obtain ⟨s5, hw''⟩ := hw'
            subst hw''
            have HT7 := Lib.hid (HT.out.trans ((HUP.out s5.W s5).mono hsw))
            go_wp2_with fail
            go_roundw
            case rel => exact ⟨m + 1, ch, by omega, by go_num, rfl, hchl, HCW.out, HNN.out, HT7.out⟩
            case measure => simp [intOf]; omega
    · obtain rfl : m = l.length := by omega
      have HE : Hid (ch = R) := by show _ = _; rw [HR.out]; exact HCH.out
      go_wp2_with fail
      go_ret
      exact ⟨congrArg (fun z : Nat => Ending.returned (.int .i64 z)) HE.out, HT.out⟩

set_option maxHeartbeats 4000000 in
theorem greatest_aged (lo g : Nat) (tick step tc : Int) (tb : Bool) (gr pr : Value) (cr : Nat → Int) (l : List Jb) (f : Nat) (rk : Jb → Int) (w : World) (h : LN w lo g tick step tc tb gr pr cr l) (hn : l.length ≤ 20)
    (hf : f < l.length) (hfw : isW tick l[f]! = true) (hfl : ∀ j, j < f → isW tick l[j]! = false)
    (hr : ∀ k wx, k < l.length → isW tick l[k]! = true → Below w.heap.size w wx → Calls Try.prog 63 #[.pointer (some ⟨g, 0, none⟩), JbV l[k]!] wx (RetV wx (.int .i64 (rk l[k]!)))) :
    Calls Try.prog 60 #[.pointer (some ⟨g, 0, none⟩), .func (.func 63) #[] #[]] w (RetV w (.int .i64 ((bestOf (fun i => isW tick l[i]!) (fun i => rk l[i]!) l.length).getD f : Nat))) := by
  have HF := Lib.hid (first_any lo g tick step tc tb gr pr cr l w h hn)
  obtain ⟨cs, v, hbk, hlc, hol⟩ := h.cells
  have hgs := hbk.1
  have c0 := (hbk.cell 0).trans hlc.tick
  have c1 := (hbk.cell 1).trans hlc.left
  have hn' : (l.length : Int) ≤ 20 := by omega
  obtain ⟨b, off, c, hv, hbb, _⟩ := left_cells hol.rk f hf
  subst hv
  have HLC := Lib.hid (fun k (hk : k < l.length) => left_cells hol.rk k hk)
  obtain ⟨R, hR⟩ : ∃ R, R = (bestOf (fun i => isW tick l[i]!) (fun i => rk l[i]!) l.length).getD f := ⟨_, rfl⟩
  rw [← hR]
  have HR := Lib.hid hR
  have HRK := Lib.hid hr
  have HFW := Lib.hid hfw
  have HFL := Lib.hid hfl
  have H0 := Lib.hid c0
  have H1 := Lib.hid c1
  have HGS := Lib.hid hgs
  have HBG := Lib.hid hbb
  clear hbk hlc hol h hR hr hfw hfl c0 c1
  go_enter Try.func60, Try.ntmps60
  go_wp2_with fail
  refine HF.out.mono ?_; rintro e w1 ⟨x, hx, rfl, hb1⟩
  obtain rfl : x = (f : Int) := by
    rcases hx with ⟨k, hk, h1, h2, rfl⟩ | ⟨h2, _⟩
    · rcases Nat.lt_trichotomy k f with h9 | h9 | h9
      · have := HFL.out k h9; rw [h1] at this; cases this
      · rw [h9]
      · have := h2 f h9; rw [HFW.out] at this; cases this
    · have := h2 f hf; rw [HFW.out] at this; cases this
  have HT1 := Lib.hid hb1
  have hs1 := hb1.size
  have c1 := (hb1.cell (p := ⟨g, 1, none⟩) hgs).trans H1.out
  clear hx hb1
  go_wp2_with fail
  clear c1
  go_loopw [5, 15] (fun u i wr => ∃ m ch : Nat, m ≤ l.length ∧ i = .int .i64 m ∧ u = .int .i64 ch ∧ ch < l.length ∧ isW tick l[ch]! = true ∧ ch = (bestOf (fun i => isW tick l[i]!) (fun i => rk l[i]!) m).getD f ∧ Below w.heap.size w wr) (fun _ i _ => l.length - (intOf i).toNat)
  case atStart => exact ⟨0, f, Nat.zero_le _, rfl, rfl, hf, HFW.out, rfl, HT1.out⟩
  case round =>
    obtain ⟨m, ch, hm, rfl, rfl, hchl, hchw, hch, hbw⟩ := hrel
    have hsw := hbw.size
    have HT := Lib.hid hbw
    have HCH := Lib.hid hch
    have HCW := Lib.hid hchw
    clear hch hchw
    by_cases hlt : m < l.length
    · have hmi : (m : Int) < (l.length : Int) := by omega
      have hci : (ch : Int) < (l.length : Int) := by omega
      obtain ⟨b9, off9, c9, hv9, _, g0, g1, g2⟩ := HLC.out m hlt
      injection hv9 with hA9 _ hC9
      injection hA9 with hA9
      injection hA9 with hB9 hO9
      subst hB9; subst hO9; subst hC9
      obtain ⟨b9, off9, c9, hv9, _, r0, r1, r2⟩ := HLC.out ch hchl
      injection hv9 with hA9 _ hC9
      injection hA9 with hA9
      injection hA9 with hB9 hO9
      subst hB9; subst hO9; subst hC9
      have y0 := (hbw.cell (p := ⟨b, off + m * 3, none⟩) (by simp; omega)).trans g0
      have y1 := (hbw.cell (p := ⟨b, off + m * 3 + 1, none⟩) (by simp; omega)).trans g1
      have y2 := (hbw.cell (p := ⟨b, off + m * 3 + 2, none⟩) (by simp; omega)).trans g2
      have z0 := (hbw.cell (p := ⟨b, off + ch * 3, none⟩) (by simp; omega)).trans r0
      have z1 := (hbw.cell (p := ⟨b, off + ch * 3 + 1, none⟩) (by simp; omega)).trans r1
      have z2 := (hbw.cell (p := ⟨b, off + ch * 3 + 2, none⟩) (by simp; omega)).trans r2
      have t0 := (hbw.cell (p := ⟨g, 0, none⟩) hgs).trans H0.out
      have x1 := (hbw.cell (p := ⟨g, 1, none⟩) hgs).trans H1.out
      have HST := Lib.hid (bestOf_step (w := fun i => isW tick l[i]!) (r := fun i => rk l[i]!) HFW.out HFL.out HCH.out)
      have HRC : Hid (∀ wx, Below wr.heap.size wr wx → Calls Try.prog 63 #[.pointer (some ⟨g, 0, none⟩), JbV l[ch]!] wx (RetV wx (.int .i64 (rk l[ch]!)))) := fun wx hx => HRK.out ch wx hchl HCW.out (HT.out.trans (hx.mono hsw))
      have HRY : Hid (isW tick l[m]! = true → ∀ wx, Below wr.heap.size wr wx → Calls Try.prog 63 #[.pointer (some ⟨g, 0, none⟩), JbV l[m]!] wx (RetV wx (.int .i64 (rk l[m]!)))) := fun hm wx hx => HRK.out m wx hlt hm (HT.out.trans (hx.mono hsw))
      have HMW : Hid (∀ B, isW tick l[m]! = B → isW tick l[m]! = B) := fun _ h => h
      clear g0 g1 g2 r0 r1 r2 hbw
      have hmw : isW tick l[m]! = isW tick l[m]! := rfl
      obtain ⟨rm, hrm⟩ : ∃ x, rk l[m]! = x := ⟨_, rfl⟩
      obtain ⟨rc, hrc⟩ : ∃ x, rk l[ch]! = x := ⟨_, rfl⟩
      have HYES : Hid (isW tick l[m]! = true → rc < rm → m = (bestOf (fun i => isW tick l[i]!) (fun i => rk l[i]!) (m + 1)).getD f) := fun a b => HST.out.1 ⟨a, by show rk l[ch]! < rk l[m]!; rw [hrm, hrc]; exact b⟩
      have HNO : Hid (¬ (isW tick l[m]! = true ∧ rc < rm) → ch = (bestOf (fun i => isW tick l[i]!) (fun i => rk l[i]!) (m + 1)).getD f) := fun a => HST.out.2 (by show ¬ (isW tick l[m]! = true ∧ rk l[ch]! < rk l[m]!); rw [hrm, hrc]; exact a)
      rw [hrm] at HRY
      rw [hrc] at HRC
      clear hrm hrc hmw HMW
      have HZ := Lib.hid (Nat.lt_succ_self wr.heap.size)
      have HG := Lib.hid (show g < wr.heap.size by omega)
      have HBB := Lib.hid (show b < wr.heap.size by have := HBG.out; omega)
      have HWM : Hid (∀ wx : World, Below wr.heap.size wr wx → wr.heap.size ≤ wx.heap.size → Calls Try.prog 71 #[.pointer (some ⟨g, 0, none⟩), JbV l[m]!] wx (RetV wx (.bool (isW tick l[m]!)))) := fun wx hx hs => waits_any g tick l[m]! wx ((hx.cell (p := ⟨g, 0, none⟩) (by simp; exact HG.out)).trans t0) (Nat.lt_of_lt_of_le HG.out hs)
      generalize l[ch]! = z at z0 z1 z2 HRC
      cases hw : isW tick l[m]!
      · rw [hw] at HWM
        have HNN := Lib.hid (HNO.out (by rw [hw]; rintro ⟨h9, _⟩; cases h9))
        clear hw HRY HNO HYES
        generalize l[m]! = y at y0 y1 y2 HWM
        obtain ⟨yt, yc, yl⟩ := y
        obtain ⟨zt, zc, zl⟩ := z
        simp only [JbV] at y0 y1 y2 HWM z0 z1 z2 HRC
        have hBX := BK.made wr 43 #[.int .i64 yt, .int .i64 yc, .int .i64 yl]
        have lz0 : wr.heap.size < (wr.alloc (.cells #[.int .i64 yt, .int .i64 yc, .int .i64 yl] 43)).heap.size := by simp
        have lg0 : g < (wr.alloc (.cells #[.int .i64 yt, .int .i64 yc, .int .i64 yl] 43)).heap.size := Nat.lt_trans HG.out lz0
        have lb0 : b < (wr.alloc (.cells #[.int .i64 yt, .int .i64 yc, .int .i64 yl] 43)).heap.size := Nat.lt_trans HBB.out lz0
        have hbx : Below wr.heap.size wr (wr.alloc (.cells #[.int .i64 yt, .int .i64 yc, .int .i64 yl] 43)) := (Below.refl _ _).alloc (Nat.le_refl _) _
        have a0 : ∀ s : HW (wr.alloc (.cells #[.int .i64 yt, .int .i64 yc, .int .i64 yl] 43)), s.W.cell? ⟨wr.heap.size, 0, none⟩ = some (.int .i64 yt) := fun s => HW.cellIs (p := ⟨wr.heap.size, 0, none⟩) (hBX.cell 0) lz0 s
        have a1 : ∀ s : HW (wr.alloc (.cells #[.int .i64 yt, .int .i64 yc, .int .i64 yl] 43)), s.W.cell? ⟨wr.heap.size, 1, none⟩ = some (.int .i64 yc) := fun s => HW.cellIs (p := ⟨wr.heap.size, 1, none⟩) (hBX.cell 1) lz0 s
        have a2 : ∀ s : HW (wr.alloc (.cells #[.int .i64 yt, .int .i64 yc, .int .i64 yl] 43)), s.W.cell? ⟨wr.heap.size, 2, none⟩ = some (.int .i64 yl) := fun s => HW.cellIs (p := ⟨wr.heap.size, 2, none⟩) (hBX.cell 2) lz0 s
        have a3 : ∀ s : HW (wr.alloc (.cells #[.int .i64 yt, .int .i64 yc, .int .i64 yl] 43)), s.W.cell? ⟨g, 1, none⟩ = some (.slice (some ⟨b, off, none⟩) l.length c) := fun s => HW.cellIs (p := ⟨g, 1, none⟩) ((World.cell?_alloc_lt wr _ ⟨g, 1, none⟩ HG.out).trans x1) lg0 s
        have a4 : ∀ s : HW (wr.alloc (.cells #[.int .i64 yt, .int .i64 yc, .int .i64 yl] 43)), s.W.cell? ⟨b, off + ch * 3, none⟩ = some (.int .i64 zt) := fun s => HW.cellIs (p := ⟨b, off + ch * 3, none⟩) ((World.cell?_alloc_lt wr _ _ HBB.out).trans z0) lb0 s
        have a5 : ∀ s : HW (wr.alloc (.cells #[.int .i64 yt, .int .i64 yc, .int .i64 yl] 43)), s.W.cell? ⟨b, off + ch * 3 + 1, none⟩ = some (.int .i64 zc) := fun s => HW.cellIs (p := ⟨b, off + ch * 3 + 1, none⟩) ((World.cell?_alloc_lt wr _ _ HBB.out).trans z1) lb0 s
        have a6 : ∀ s : HW (wr.alloc (.cells #[.int .i64 yt, .int .i64 yc, .int .i64 yl] 43)), s.W.cell? ⟨b, off + ch * 3 + 2, none⟩ = some (.int .i64 zl) := fun s => HW.cellIs (p := ⟨b, off + ch * 3 + 2, none⟩) ((World.cell?_alloc_lt wr _ _ HBB.out).trans z2) lb0 s
        have hup := fun (wx : World) (s : HW (wr.alloc (.cells #[.int .i64 yt, .int .i64 yc, .int .i64 yl] 43))) => hbx.trans (s.bel.mono (Nat.le_of_lt lz0))
        have HW5 := Lib.hid (fun (s : HW (wr.alloc (.cells #[.int .i64 yt, .int .i64 yc, .int .i64 yl] 43))) => HWM.out s.W (hup s.W s) (hup s.W s).size)
        have HUP := Lib.hid hup
        clear hBX z0 z1 z2 x1 t0 hbx hup lz0 lg0 lb0
        · go_upto_region 5 with fail
          refine wp_region_held_lit (by kernel_rfl) (by kernel_rfl) ?_
          repeat (go_big_quiet_step ((first | (go_at_call 71; with_reducible exact held_call _ (HW5.out _)))))
          refine wpQuiet_nil ?_
          intro _ hw'
          obtain ⟨s5, hw''⟩ := hw'
          subst hw''
          have HT5 := Lib.hid (HT.out.trans ((HUP.out s5.W s5).mono hsw))
          go_wp2_with fail
          go_roundw
          case rel => exact ⟨m + 1, ch, by omega, by go_num, rfl, hchl, HCW.out, HNN.out, HT5.out⟩
          case measure => simp [intOf]; omega
      · rw [hw] at HWM
        have HMT := Lib.hid hw
        have HMW0 := Lib.hid hw
        have HRY := Lib.hid (HRY.out hw)
        have HYE : Hid (rc < rm → m = (bestOf (fun i => isW tick l[i]!) (fun i => rk l[i]!) (m + 1)).getD f) := fun a => HYES.out HMT.out a
        have HNE : Hid (¬ rc < rm → ch = (bestOf (fun i => isW tick l[i]!) (fun i => rk l[i]!) (m + 1)).getD f) := fun a => HNO.out (fun h9 => a h9.2)
        clear hw HNO HYES
        generalize l[m]! = y at y0 y1 y2 HWM HRY HMT
        obtain ⟨yt, yc, yl⟩ := y
        obtain ⟨zt, zc, zl⟩ := z
        simp only [JbV] at y0 y1 y2 HWM z0 z1 z2 HRC HRY
        have hBX := BK.made wr 43 #[.int .i64 yt, .int .i64 yc, .int .i64 yl]
        have lz0 : wr.heap.size < (wr.alloc (.cells #[.int .i64 yt, .int .i64 yc, .int .i64 yl] 43)).heap.size := by simp
        have lg0 : g < (wr.alloc (.cells #[.int .i64 yt, .int .i64 yc, .int .i64 yl] 43)).heap.size := Nat.lt_trans HG.out lz0
        have lb0 : b < (wr.alloc (.cells #[.int .i64 yt, .int .i64 yc, .int .i64 yl] 43)).heap.size := Nat.lt_trans HBB.out lz0
        have hbx : Below wr.heap.size wr (wr.alloc (.cells #[.int .i64 yt, .int .i64 yc, .int .i64 yl] 43)) := (Below.refl _ _).alloc (Nat.le_refl _) _
        have a0 : ∀ s : HW (wr.alloc (.cells #[.int .i64 yt, .int .i64 yc, .int .i64 yl] 43)), s.W.cell? ⟨wr.heap.size, 0, none⟩ = some (.int .i64 yt) := fun s => HW.cellIs (p := ⟨wr.heap.size, 0, none⟩) (hBX.cell 0) lz0 s
        have a1 : ∀ s : HW (wr.alloc (.cells #[.int .i64 yt, .int .i64 yc, .int .i64 yl] 43)), s.W.cell? ⟨wr.heap.size, 1, none⟩ = some (.int .i64 yc) := fun s => HW.cellIs (p := ⟨wr.heap.size, 1, none⟩) (hBX.cell 1) lz0 s
        have a2 : ∀ s : HW (wr.alloc (.cells #[.int .i64 yt, .int .i64 yc, .int .i64 yl] 43)), s.W.cell? ⟨wr.heap.size, 2, none⟩ = some (.int .i64 yl) := fun s => HW.cellIs (p := ⟨wr.heap.size, 2, none⟩) (hBX.cell 2) lz0 s
        have a3 : ∀ s : HW (wr.alloc (.cells #[.int .i64 yt, .int .i64 yc, .int .i64 yl] 43)), s.W.cell? ⟨g, 1, none⟩ = some (.slice (some ⟨b, off, none⟩) l.length c) := fun s => HW.cellIs (p := ⟨g, 1, none⟩) ((World.cell?_alloc_lt wr _ ⟨g, 1, none⟩ HG.out).trans x1) lg0 s
        have a4 : ∀ s : HW (wr.alloc (.cells #[.int .i64 yt, .int .i64 yc, .int .i64 yl] 43)), s.W.cell? ⟨b, off + ch * 3, none⟩ = some (.int .i64 zt) := fun s => HW.cellIs (p := ⟨b, off + ch * 3, none⟩) ((World.cell?_alloc_lt wr _ _ HBB.out).trans z0) lb0 s
        have a5 : ∀ s : HW (wr.alloc (.cells #[.int .i64 yt, .int .i64 yc, .int .i64 yl] 43)), s.W.cell? ⟨b, off + ch * 3 + 1, none⟩ = some (.int .i64 zc) := fun s => HW.cellIs (p := ⟨b, off + ch * 3 + 1, none⟩) ((World.cell?_alloc_lt wr _ _ HBB.out).trans z1) lb0 s
        have a6 : ∀ s : HW (wr.alloc (.cells #[.int .i64 yt, .int .i64 yc, .int .i64 yl] 43)), s.W.cell? ⟨b, off + ch * 3 + 2, none⟩ = some (.int .i64 zl) := fun s => HW.cellIs (p := ⟨b, off + ch * 3 + 2, none⟩) ((World.cell?_alloc_lt wr _ _ HBB.out).trans z2) lb0 s
        have hup := fun (wx : World) (s : HW (wr.alloc (.cells #[.int .i64 yt, .int .i64 yc, .int .i64 yl] 43))) => hbx.trans (s.bel.mono (Nat.le_of_lt lz0))
        have HW5 := Lib.hid (fun (s : HW (wr.alloc (.cells #[.int .i64 yt, .int .i64 yc, .int .i64 yl] 43))) => HWM.out s.W (hup s.W s) (hup s.W s).size)
        have HRY5 := Lib.hid (fun (s : HW (wr.alloc (.cells #[.int .i64 yt, .int .i64 yc, .int .i64 yl] 43))) => HRY.out s.W (hup s.W s))
        have HRC5 := Lib.hid (fun (s : HW (wr.alloc (.cells #[.int .i64 yt, .int .i64 yc, .int .i64 yl] 43))) => HRC.out s.W (hup s.W s))
        have HUP := Lib.hid hup
        clear hBX z0 z1 z2 x1 t0 hbx hup lz0 lg0 lb0
        have hmch : Hid (isW tick l[m]! = true) := HMW0
        by_cases hrr : rc < rm
        · have HNN := Lib.hid (HYE.out hrr)
          · go_upto_region 5 with fail
            refine wp_region_held_lit (by kernel_rfl) (by kernel_rfl) ?_
            repeat (go_big_quiet_step ((first | (go_at_call 71; with_reducible exact held_call _ (HW5.out _)) | (go_at_call 63; with_reducible exact held_call _ (HRY5.out _)) | (go_at_call 63; with_reducible exact held_call _ (HRC5.out _)))))
            refine wpQuiet_nil ?_
            intro _ hw'
            obtain ⟨s5, hw''⟩ := hw'
            subst hw''
            have HT7 := Lib.hid (HT.out.trans ((HUP.out s5.W s5).mono hsw))
            go_wp2_with fail
            go_roundw
            case rel => exact ⟨m + 1, m, by omega, by go_num, rfl, hlt, hmch.out, HNN.out, HT7.out⟩
            case measure => simp [intOf]; omega
        · have HNN := Lib.hid (HNE.out hrr)
          · go_upto_region 5 with fail
            refine wp_region_held_lit (by kernel_rfl) (by kernel_rfl) ?_
            repeat (go_big_quiet_step ((first | (go_at_call 71; with_reducible exact held_call _ (HW5.out _)) | (go_at_call 63; with_reducible exact held_call _ (HRY5.out _)) | (go_at_call 63; with_reducible exact held_call _ (HRC5.out _)))))
            refine wpQuiet_nil ?_
            intro _ hw'
            obtain ⟨s5, hw''⟩ := hw'
            subst hw''
            have HT7 := Lib.hid (HT.out.trans ((HUP.out s5.W s5).mono hsw))
            go_wp2_with fail
            go_roundw
            case rel => exact ⟨m + 1, ch, by omega, by go_num, rfl, hchl, HCW.out, HNN.out, HT7.out⟩
            case measure => simp [intOf]; omega
    · obtain rfl : m = l.length := by omega
      have HE : Hid (ch = R) := by show _ = _; rw [HR.out]; exact HCH.out
      go_wp2_with fail
      go_ret
      exact ⟨congrArg (fun z : Nat => Ending.returned (.int .i64 z)) HE.out, HT.out⟩

end Go.Proofs.Yteoggoopfjkdkaa
