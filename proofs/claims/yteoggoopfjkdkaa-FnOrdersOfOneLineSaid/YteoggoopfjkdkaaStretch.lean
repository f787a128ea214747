/-
  stretchesOf: the stretches of starts along their order.
-/
import Derived.Test.YteoggoopfjkdkaaSchedI
import Derived.Test.YteoggoopfjkdkaaRowPut
import Derived.Test.YteoggoopfjkdkaaMathBusy
import Derived.Deep.LoopGhost
namespace Go.Proofs.Yteoggoopfjkdkaa
open Go.RowKit
set_option maxRecDepth 100000
set_option linter.unusedVariables false

def RetStr (js : List Jb) (ss : List Int) (w : World) (e : Ending) (w' : World) : Prop :=
  ∃ u d, e = .returned u ∧ Order ss.length d ∧ Srt ss d ss.length ∧ OS 26 3 w' w.heap.size w'.heap.size u (strL js ss d ss.length) ∧ Below w.heap.size w w'
theorem intS_info2 : (Try.prog.info? 26).map (fun i => (i.zero, i.size, i.bytes)) = some (some (.slice none 0 0), 1, 24) := by kernel_rfl
theorem addR_yes {L : List (List Int)} {s e : Int} {K1 : Nat} (hK : L.length = K1 + 1) (h : (L.getD K1 []).getD 1 0 = s) : addR L s e = L.set K1 ((L.getD K1 []).set 1 e) := by
  unfold addR
  have : L.length - 1 = K1 := by omega
  rw [this, if_pos ⟨by omega, h⟩]
theorem addR_no {L : List (List Int)} {s e : Int} {K1 : Nat} (hK : L.length = K1 + 1) (h : ¬ (L.getD K1 []).getD 1 0 = s) : addR L s e = L ++ [[s, e]] := by
  unfold addR
  have : L.length - 1 = K1 := by omega
  rw [this, if_neg (fun h9 => h h9.2)]
theorem addR_nil {L : List (List Int)} {s e : Int} (hK : L.length = 0) : addR L s e = L ++ [[s, e]] := by
  unfold addR
  rw [if_neg (fun h9 => by omega)]
theorem Acc.lit2 {E : TypeId} {w : World} {lo : Nat} {x y : Int} {g : Nat} (hg : g = w.heap.size) (hlo : g = lo := by rfl) : Acc E (w.alloc (.cells #[.int .i64 x, .int .i64 y] E)) lo (.slice (some ⟨g, 0, none⟩) 2 2) [x, y] := by
  subst hg
  subst hlo
  exact ⟨rfl, .inr ⟨_, 2, _, rfl, Nat.le_refl _, heap_alloc_new w _, Nat.le_refl _, by unfold maxLen; omega, rfl, rfl⟩⟩
set_option maxHeartbeats 8000000 in
theorem stretchesOf_any (v u : Value) (js : List Jb) (ss : List Int) (w : World) (h : RJbS w w.heap.size v js) (h' : RI w w.heap.size u ss) (hg : givenB js ss = true) :
    Calls Try.prog 53 #[v, u] w (RetStr js ss w) := by
  obtain ⟨hjl, hn, hsb, hjb⟩ := givenB_in hg
  have HO := Lib.hid (orderOf_any u ss w h' hn)
  have HJ := Lib.hid h
  obtain ⟨A, c, rfl, _⟩ := h
  obtain ⟨A', c', rfl, hlc', hc'⟩ := h'
  obtain ⟨i0, hi, hz0, hz1, hz2⟩ := info_parts intS_info2
  obtain ⟨n, hN⟩ : ∃ n, ss.length = n := ⟨_, rfl⟩
  unfold RetStr
  rw [hjl] at HJ ⊢
  rw [hN] at HJ HO hc' hlc' hn hsb hjb ⊢
  have HN := Lib.hid hN
  have hn' : (n : Int) ≤ 20 := by omega
  have HG := Lib.hid hg
  have HJL := Lib.hid hjl
  have HSB := Lib.hid hsb
  have HJB := Lib.hid hjb
  have HC := Lib.hid hc'
  clear hg hjl hsb hjb hc' hN
  go_enter Try.func53, Try.ntmps53
  go_wp2_with fail
  refine HO.out.mono ?_; rintro e w1 ⟨o, d, rfl, hod, hsd, hoi, hb1⟩
  have hri := hoi.ri
  obtain ⟨A3, c3, rfl, hlc3, hc3⟩ := hri
  have hs1 := hb1.size
  have hdl := hod.len
  rw [HN.out] at hod hsd hdl
  rw [hdl] at hc3 hlc3 ⊢
  have HOD := Lib.hid hod
  have HSD := Lib.hid hsd
  have HC3 := Lib.hid hc3
  have HT := Lib.hid hb1
  clear hod hsd hdl hoi hc3 hb1
  go_wp2_with fail
  go_loopg [5, 13] n (fun f z i wr => ∃ k : Nat, k ≤ n ∧ f = n - k ∧ i = .int .i64 k ∧ OS 26 3 wr w1.heap.size wr.heap.size z (strL js ss d k) ∧ Below w1.heap.size w1 wr)
  case atStart => exact ⟨0, Nat.zero_le _, rfl, rfl, OS.nil _ _ _ _ _, Below.refl _ _⟩
  case round =>
    obtain ⟨k, hk, hgk, rfl, hos, hbw⟩ := hrel
    have HGK := Lib.hid hgk
    have HBW := Lib.hid hbw
    have HOS := Lib.hid hos
    have hs2 := hbw.size
    have HT2 := Lib.hid (HT.out.trans (hbw.mono hs1))
    have hzv : ∃ Az cz, u5 = .slice Az (strL js ss d k).length cz := by obtain ⟨V, A9, c9, hv, _⟩ := hos.rd; exact ⟨A9, c9, hv⟩
    obtain ⟨Az, cz, rfl⟩ := hzv
    have hKl := strL_len js ss d k
    clear hbw hgk hos
    by_cases hlt : k < n
    · have hlt' : (k : Int) < (n : Int) := by omega
      have r1 := HOD.out.rng k hlt
      obtain ⟨X, hX⟩ : ∃ X : Nat, d.getD k 0 = X := ⟨(d.getD k 0).toNat, by omega⟩
      have hXn : X < n := by omega
      have hXn' : (X : Int) < (n : Int) := by omega
      obtain ⟨b3, off3, rfl, hb3, hcell3⟩ := HC3.out (by omega)
      have hc0 := (HBW.out.cell (p := ⟨b3, off3 + k, none⟩) hb3).trans (hcell3 k hlt)
      rw [hX] at hc0
      clear hcell3
      obtain ⟨b2, off2, rfl, hb2, hcell2⟩ := HC.out (by omega)
      have hc1 := (HT2.out.cell (p := ⟨b2, off2 + X, none⟩) hb2).trans (hcell2 X hXn)
      clear hcell2
      obtain ⟨b4, off4, c4, hv4, hb4, hcell4⟩ := job_cells HJ.out (by rw [HJL.out, HN.out]; omega)
      rw [HJL.out, HN.out] at hv4 hcell4
      injection hv4 with hA4 _ hC4
      subst hA4; subst hC4
      obtain ⟨_, _, hd2⟩ := hcell4 X hXn
      have hc4 := (HT2.out.cell (p := ⟨b4, off4 + X * 3 + 2, none⟩) hb4).trans hd2
      clear hcell4 hd2
      have s1 := HSB.out X hXn
      have j1 := HJB.out X hXn
      have HST : Hid (strL js ss d (k + 1) = addR (strL js ss d k) (ss.getD X 0) (ss.getD X 0 + js[X]!.l)) := by
        show _ = _
        rw [strL, hX, sk_nat, Int.toNat_natCast]
      have HRW2 := Lib.hid (strL_rows js ss d k)
      generalize ss.getD X 0 = sx at hc1 s1 HST
      generalize js[X]!.l = yl at hc4 j1 HST
      clear hX
      have e1 : IntKind.i64.wrap (sx + yl) = sx + yl := IntWalk.i64_in _ (by omega)
      have hb3w : b3 < wr.heap.size := by omega
      have hb2w : b2 < wr.heap.size := by have := HT2.out.size; omega
      have hb4w : b4 < wr.heap.size := by have := HT2.out.size; omega
      obtain ⟨L, hL⟩ : ∃ L, strL js ss d k = L := ⟨_, rfl⟩
      rw [hL] at HST HRW2 HOS hKl ⊢
      clear hL
      obtain ⟨K, hK⟩ : ∃ K, L.length = K := ⟨_, rfl⟩
      have HK := Lib.hid hK
      rw [hK] at hKl ⊢
      have HOS2 : Hid (OS 26 3 wr w1.heap.size wr.heap.size (.slice Az K cz) L) := by have := HOS.out; rw [hK] at this; exact this
      clear hK HOS
      have HOSW : Hid (∀ N, OS 26 3 ((wr.drewN N).alloc (.cells #[.int .i64 sx, .int .i64 (sx + yl)] 3)) w1.heap.size wr.heap.size (.slice Az K cz) L) := fun N =>
        (HOS2.out.drewN N).step ((Below.refl _ _).alloc (Nat.le_refl _) _) (Nat.le_refl _)
      have HSZ : Hid (∀ N, ((wr.drewN N).alloc (.cells #[.int .i64 sx, .int .i64 (sx + yl)] 3)).heap.size = wr.heap.size + 1) := fun N => by simp
      have HUW : Hid (∀ N, OI 3 ((wr.drewN N).alloc (.cells #[.int .i64 sx, .int .i64 (sx + yl)] 3)) wr.heap.size (wr.heap.size + 1) (.slice (some ⟨wr.heap.size, 0, none⟩) 2 2) [sx, sx + yl]) := fun N => by
        have h9 := (Acc.lit2 (w := wr.drewN N) (x := sx) (y := sx + yl) (E := 3) rfl).oi
        rw [HSZ.out N] at h9
        exact h9
      have HBW2 : Hid (∀ N, Below w1.heap.size w1 ((wr.drewN N).alloc (.cells #[.int .i64 sx, .int .i64 (sx + yl)] 3))) := fun N => (below_drewN HBW.out N).alloc hs2 _
      have HSZ1 : Hid (∀ N, wr.heap.size + 1 ≤ ((wr.drewN N).alloc (.cells #[.int .i64 sx, .int .i64 (sx + yl)] 3)).heap.size) := fun N => by rw [HSZ.out N]; exact Nat.le_refl _
      have HSZ0 : Hid (∀ N, wr.heap.size ≤ ((wr.drewN N).alloc (.cells #[.int .i64 sx, .int .i64 (sx + yl)] 3)).heap.size) := fun N => by rw [HSZ.out N]; exact Nat.le_succ _
      have hLl : L.length < 1000000 := by rw [HK.out]; omega
      by_cases hK0 : K = 0
      · subst hK0
        have HX : Hid (strL js ss d (k + 1) = L ++ [[sx, sx + yl]]) := by show _ = _; rw [HST.out]; exact addR_nil HK.out
        go_wp2_with fail
        go_quiet (fail)
        go_wp2_with fail
        go_quiet (fail)
        go_wp2_with (at_builtin; refine wpList_pushS rfl (.tmp 51) (.tmp 58) 39 rfl 26 3 (by decide) i0 Try.underlying39 hi hz0 hz1 hz2 _ w1 w1.heap.size wr.heap.size (wr.heap.size + 1) _ _ L [sx, sx + yl] rfl rfl (HOSW.out _) (HUW.out _) hs2 (HSZ1.out _) (HSZ0.out _) (by rw [HSZ.out]; rfl) hLl (HBW2.out _) ?_; intro v9 w9 hos9 hb9)
        rw [← HX.out] at hos9
        go_roundg (n - (k + 1))
        case rel => exact ⟨k + 1, by omega, rfl, by go_num, hos9, hb9⟩
        case measure => have := HGK.out; omega
      · obtain ⟨K1, hK1⟩ : ∃ K1, K = K1 + 1 := ⟨K - 1, by omega⟩
        have eK : IntKind.i64.wrap ((K : Int) - 1) = (K1 : Int) := by rw [IntWalk.i64_in _ (by omega)]; omega
        have hK1i : (K1 : Int) < (K : Int) := by omega
        have hK1p : (0 : Int) ≤ (K1 : Int) := by omega
        have hr2 := HRW2.out K1 (by rw [HK.out]; omega)
        obtain ⟨A9, c9, b9, c8, hv9, _, _, hA9s, xr, _, hb9l, hb9h, hb9s, xcell, xfz, hput⟩ := HOS2.out.row_at (by decide) K1 (by rw [HK.out]; omega) (by intro h9; rw [h9] at hr2; simp at hr2)
        rw [HK.out] at hv9
        injection hv9 with hA8 _ hC8
        subst hA8; subst hC8
        rw [hr2] at xr xcell hput
        have x1 := xcell 1 (by omega)
        have f1 := xfz 1
        have HPUT := Lib.hid (hput 1 (sx + yl) (by omega))
        have HYES := Lib.hid (fun h9 => addR_yes (L := L) (s := sx) (e := sx + yl) (K1 := K1) (by rw [HK.out]; omega) h9)
        have HNO := Lib.hid (fun h9 => addR_no (L := L) (s := sx) (e := sx + yl) (K1 := K1) (by rw [HK.out]; omega) h9)
        clear xcell xfz hput hr2
        generalize (L.getD K1 []).getD 1 0 = E1 at x1 HYES HNO
        clear hK1
        by_cases hq : E1 = sx
        · have HX : Hid (strL js ss d (k + 1) = L.set K1 ((L.getD K1 []).set 1 (sx + yl))) := by show _ = _; rw [HST.out]; exact HYES.out hq
          have hqd : (E1 == sx) = true := by simp [hq]
          clear hq
          have HB5 : Hid (∀ N, Below w1.heap.size w1 ((wr.drewN N).setCell ⟨b9, 1, none⟩ (.int .i64 (sx + yl)))) := fun N => (below_drewN HBW.out N).setCell (p := ⟨b9, 1, none⟩) hb9l _
          go_wp2_with fail
          go_quiet (fail)
          go_wp2_with fail
          go_quiet (fail)
          go_wp2_with fail
          go_roundg (n - (k + 1))
          case rel => exact ⟨k + 1, by omega, rfl, by go_num, by rw [HX.out]; exact HPUT.out.wide (Nat.le_refl _) (by simp [World.setCell]), HB5.out _⟩
          case measure => have := HGK.out; omega
        · have HX : Hid (strL js ss d (k + 1) = L ++ [[sx, sx + yl]]) := by show _ = _; rw [HST.out]; exact HNO.out hq
          have hqd : (E1 == sx) = false := by simp [hq]
          clear hq
          go_wp2_with fail
          go_quiet (fail)
          go_wp2_with fail
          go_quiet (fail)
          go_wp2_with (at_builtin; refine wpList_pushS rfl (.tmp 51) (.tmp 58) 39 rfl 26 3 (by decide) i0 Try.underlying39 hi hz0 hz1 hz2 _ w1 w1.heap.size wr.heap.size (wr.heap.size + 1) _ _ L [sx, sx + yl] rfl rfl (HOSW.out _) (HUW.out _) hs2 (HSZ1.out _) (HSZ0.out _) (by rw [HSZ.out]; rfl) hLl (HBW2.out _) ?_; intro v9 w9 hos9 hb9)
          rw [← HX.out] at hos9
          go_roundg (n - (k + 1))
          case rel => exact ⟨k + 1, by omega, rfl, by go_num, hos9, hb9⟩
          case measure => have := HGK.out; omega
    · obtain rfl : n = k := by omega
      go_wp2_with fail
      go_ret
      exact ⟨_, d, rfl, HOD.out, HSD.out, HOS.out.wide hs1 (Nat.le_refl _), HT2.out⟩
end Go.Proofs.Yteoggoopfjkdkaa
