/-
  Pieces: the contracts of the program's piecesOf and PiecesOf.
-/
import Derived.Test.YtffmpkdkifecpaaPiece
import Derived.Test.YtffmpkdkifecpaaIntSS
import Derived.Test.YtffmpkdkifecpaaIsRing
import Derived.Deep.LoopGhost
import Derived.Deep.RegionHeldLaw
import Derived.WalkMore
namespace Go.Proofs.Ytffmpkdkifecpaa
open Go.RowKit
set_option maxRecDepth 100000
set_option linter.unusedVariables false

theorem ints_info : (Try.prog.info? 22).map (fun i => (i.zero, i.size, i.bytes)) = some (some (.slice none 0 0), 1, 24) := by kernel_rfl
theorem pcsL_has {d : List Int} {K s : Nat} (h : ((pcsL d K s).any fun p => hasI p (s : Int)) = true) : pcsL d K (s + 1) = pcsL d K s := by
  rw [pcsL, if_pos h]
theorem pcsL_new {d : List Int} {K s : Nat} (h : ((pcsL d K s).any fun p => hasI p (s : Int)) = false) : pcsL d K (s + 1) = pcsL d K s ++ [passL d K (firstL d K (s : Int))] := by
  rw [pcsL, if_neg (by rw [h]; simp)]
/-- What a function of lists leaves. -/
def RetS (w : World) (L : List (List Int)) (e : Ending) (w' : World) : Prop := ∃ u, e = .returned u ∧ OS 22 3 w' w.heap.size w'.heap.size u L ∧ Below w.heap.size w w'
/-- .. and a bool. -/
def RetSB (w : World) (L : List (List Int)) (b : Bool) (e : Ending) (w' : World) : Prop := ∃ u, e = .returned (.tuple #[u, .bool b]) ∧ OS 22 3 w' w.heap.size w'.heap.size u L ∧ Below w.heap.size w w'

set_option maxHeartbeats 2000000 in
theorem piecesOf_any (v : Value) (d : List Int) (K : Nat) (w : World) (h : RRg w w.heap.size v ⟨K, d⟩) (hk : 2 ≤ (K : Int) ∧ (K : Int) ≤ 12) (hn : d.length ≤ 1048576) :
    Calls Try.prog 39 #[v] w (RetS w (pcsL d K K)) := by
  obtain ⟨sv, rfl, h⟩ := h
  simp only [RgV] at h ⊢
  have h3 := h
  obtain ⟨A, c, rfl, hlc, hc⟩ := h
  clear hc
  obtain ⟨i0, hi, hz0, hz1, hz2⟩ := info_parts ints_info
  have hB0 := (BK.made w 26 #[.int .i64 K, .slice A d.length c]).alloc (.cells #[] 22)
  have hW : Below w.heap.size w ((w.alloc (.cells #[.int .i64 K, .slice A d.length c] 26)).alloc (.cells #[] 22)) := ((Below.refl _ _).alloc (Nat.le_refl _) _).alloc (by simp) _
  have R0 := h3.below hW
  have hos0 := OS.lit0 (T := 22) (E := 3) (w := w.alloc (.cells #[.int .i64 K, .slice A d.length c] 26)) (lo := w.heap.size + 1) (g := w.heap.size + 1) (by simp) (by simp)
  obtain ⟨w0, hw0⟩ : ∃ w0, w0 = (w.alloc (.cells #[.int .i64 K, .slice A d.length c] 26)).alloc (.cells #[] 22) := ⟨_, rfl⟩
  rw [← hw0] at hB0 hW R0 hos0
  have hs1 : w0.heap.size = w.heap.size + 1 + 1 := by rw [hw0]; simp
  have hs0 := hW.size
  go_enter Try.func39, Try.ntmps39
  go_wp2_with fail
  go_step3
  go_wp2_with fail
  go_step3
  go_wp2_with fail
  rw [← hw0]
  clear hw0
  go_loopg [3, 10] K (fun g s3 s10 wx => ∃ j : Nat, j + g = K ∧ s10 = .int .i64 j ∧ OS 22 3 wx (w.heap.size + 1) wx.heap.size s3 (pcsL d K j) ∧ Below (w.heap.size + 1) w0 wx)
  case atStart => exact ⟨0, by omega, rfl, hos0.wide (Nat.le_refl _) (by omega), Below.refl _ _⟩
  case round =>
    obtain ⟨j, hjg, rfl, hos, hbw⟩ := hrel
    have hsz := hbw.size
    have hq := hB0.under hbw (by omega)
    have q0 := hq.cell 0
    have q1 := hq.cell 1
    simp at q0 q1
    have R1 := (R0.below (hbw.mono (by omega))).more (B' := wr.heap.size) (by omega)
    have HT := Lib.hid (hW.trans (hbw.mono (by omega)))
    obtain ⟨V, VA, vc, rfl, hV, hlc2, hcells, hrows⟩ := hos.rd
    have hpl := pcsL_len d K j
    have hprow := pcsL_row d K j (by omega)
    have HOS := Lib.hid hos
    have HBW := Lib.hid hbw
    have HQ := Lib.hid hq
    have HR := Lib.hid R1
    clear hos hbw hq R1
    cases gk with
    | zero =>
      obtain rfl : j = K := by omega
      have hkz : ¬ ((j : Int) < (j : Int)) := by omega
      clear hcells hrows hprow hV
      go_wp2_with fail
      try rw [Exit.noGoto_ret]
      go_ret
      exact ⟨_, rfl, HOS.out.wide (by omega) (Nat.le_refl _), HT.out⟩
    | succ g =>
      have hkz : (j : Int) < (K : Int) := by omega
      have HN1 : Hid (((pcsL d K j).any fun p => hasI p (j : Int)) = true → pcsL d K (j + 1) = pcsL d K j) := fun h => pcsL_has h
      have HN2 : Hid (((pcsL d K j).any fun p => hasI p (j : Int)) = false → pcsL d K (j + 1) = pcsL d K j ++ [passL d K (firstL d K (j : Int))]) := fun h => pcsL_new h
      obtain ⟨L, hL⟩ : ∃ L, L = pcsL d K j := ⟨_, rfl⟩
      rw [← hL] at HN1 HN2 HOS hlc2 hcells hrows hpl hprow hV
      rw [← hL]
      clear hL
      have hLi : (L.length : Int) ≤ 12 := by omega
      go_wp2_with fail
      go_loopg [15] L.length (fun g2 s15 wy => ∃ i : Nat, i + g2 = L.length ∧ s15 = .int .i64 i ∧ Hid (((L.drop i).any fun p => hasI p (j : Int)) = L.any fun p => hasI p (j : Int)) ∧ wr = wy)
      case atStart => exact ⟨0, by omega, rfl, rfl, rfl⟩
      case round =>
        obtain ⟨i, hig, rfl, HI, rfl⟩ := hrel
        cases gk with
        | zero =>
          obtain rfl : i = L.length := by omega
          have hiz : ¬ ((L.length : Int) < (L.length : Int)) := by omega
          have hany : (L.any fun p => hasI p (j : Int)) = false := by have := HI.out; rw [List.drop_length] at this; exact this.symm
          have HN := Lib.hid (HN2.out hany)
          obtain ⟨F, hF⟩ : ∃ F, F = firstL d K (j : Int) := ⟨_, rfl⟩
          obtain ⟨PL, hPL⟩ : ∃ PL, PL = passL d K F := ⟨_, rfl⟩
          have hFin := firstL_in d K (j : Int) ⟨by omega, hkz⟩
          rw [← hF] at hFin HN
          rw [← hPL] at HN
          have HC1 : Hid (∀ wz, Below wr.heap.size wr wz → Calls Try.prog 55 #[.agg #[.int .i64 K, .slice A d.length c], .int .i64 j] wz (RetV wz (.int .i64 F))) := by
            show ∀ wz, _
            intro wz hz
            rw [hF]
            exact firstOfPiece_any _ d K j wz ⟨_, rfl, (HR.out.below hz).more hz.size⟩ hk ⟨by omega, hkz⟩ hn
          have HC2 : Hid (∀ wz, Below wr.heap.size wr wz → Calls Try.prog 54 #[.agg #[.int .i64 K, .slice A d.length c], .int .i64 F] wz (RetL 3 wz PL)) := by
            show ∀ wz, _
            intro wz hz
            rw [hPL]
            exact passedFrom_any _ d K F wz ⟨_, rfl, (HR.out.below hz).more hz.size⟩ hk hFin hn
          clear hF hPL hFin hany hcells hrows hprow hV hiz
          go_upto_region 10 with fail
          go_region_held_law (fun w' => w'.cell? ⟨w.heap.size, 0, none⟩ = some (.int .i64 K) ∧ w'.cell? ⟨w.heap.size, 1, none⟩ = some (.slice A d.length c)) (with_reducible first | exact ⟨q0, q1⟩ | exact ⟨d0, d1⟩ | exact ⟨e0, e1⟩ | exact ⟨f0, f1⟩ | go_keep)
            (first
              | (refine step_pushS rfl (.tmp 23) (.tmp 29) 33 rfl 22 3 (by decide) i0 Try.underlying33 hi hz0 hz1 hz2 w4 w0 (w.heap.size + 1) w3.heap.size w4.heap.size _ _ L PL rfl rfl HO4.out HU4.out hz30 (Nat.le_refl _) hz34 rfl (by omega) HB4.out ?_; intro v5 w5 hos5 hb5; have f0 := (hB0.under hb5 (by omega)).cell 0; have f1 := (hB0.under hb5 (by omega)).cell 1; simp at f0 f1)
              | (go_at_call 55; (with_reducible refine (HC1.out _ (Below.refl _ _).drew).mono ?_); rintro e w3 ⟨rfl, hb3⟩; have t3 := (Below.refl wr.heap.size wr).drew.trans hb3; have y3 := HQ.out.step t3; have d0 := y3.cell 0; have d1 := y3.cell 1; simp at d0 d1)
              | (go_at_call 54; (with_reducible refine (HC2.out _ t3).mono ?_); rintro e w4 ⟨u4, rfl, ho4, hb4⟩; have t4 := t3.trans (hb4.mono t3.size); have y4 := HQ.out.step t4; have e0 := y4.cell 0; have e1 := y4.cell 1; simp at e0 e1; obtain ⟨A6, c6, rfl, _, _⟩ := ho4.ri; have HU4 := Lib.hid ho4; have HO4 := Lib.hid ((HOS.out.step t4 (Nat.le_refl _)).wide (Nat.le_refl _) t3.size); have HB4 := Lib.hid (HBW.out.trans (t4.mono (by omega))); have hz30 : w.heap.size + 1 ≤ w3.heap.size := Nat.le_trans (by omega) t3.size; have hz34 := hb4.size))
          · have HO5 := Lib.hid hos5
            have HB5 := Lib.hid hb5
            clear hos5 hb5
            go_wp2_with fail
            go_roundg g
            case measure => omega
            case rel => exact ⟨j + 1, by omega, by go_num, by rw [HN.out]; exact HO5.out, HB5.out⟩
        | succ g2 =>
          have hiz : (i : Int) < (L.length : Int) := by omega
          have hil : i < L.length := by omega
          obtain ⟨b, off, rfl, hbB, hcell⟩ := hcells (by omega)
          have hcx := hcell i hil
          have hrow := hrows i hil
          have hg1 : L.getD i [] = L[i] := by simp [hil]
          have hri := (hprow _ (List.getElem_mem hil)).2.1
          have HC := Lib.hid (contains_any _ _ (j : Int) _ hrow (by rw [hg1]; omega))
          obtain ⟨A9, c9, e9, _⟩ := hrow
          rw [e9] at hcx HC
          have hd : L.drop i = L[i] :: L.drop (i + 1) := List.drop_eq_getElem_cons hil
          rw [hg1] at HC hcx
          clear hcells hrows hcell e9 hprow
          cases hh : hasI L[i] (j : Int)
          · rw [hh] at HC
            have HI2 : Hid (((L.drop (i + 1)).any fun p => hasI p (j : Int)) = L.any fun p => hasI p (j : Int)) := by
              show _ = _
              rw [← HI.out, hd, List.any_cons, hh, Bool.false_or]
            generalize L[i].length = ln at hcx HC
            clear hd hg1 hri hh
            go_wp2_with (go_at_call 53; (with_reducible refine HC.out.mono ?_); rintro e w' ⟨rfl, rfl⟩)
            go_roundg g2
            case measure => omega
            case rel => exact ⟨i + 1, by omega, by go_num, HI2, rfl⟩
          · rw [hh] at HC
            have hany : (L.any fun p => hasI p (j : Int)) = true := by rw [← HI.out, hd, List.any_cons, hh, Bool.true_or]
            have HN := Lib.hid (HN1.out hany)
            generalize L[i].length = ln at hcx HC
            clear hd hg1 hri hh hany
            go_wp2_with (go_at_call 53; (with_reducible refine HC.out.mono ?_); rintro e w' ⟨rfl, rfl⟩)
            go_roundg g
            case measure => omega
            case rel => exact ⟨j + 1, by omega, by go_num, by rw [HN.out]; exact HOS.out, HBW.out⟩

/-- What both sides give. -/
def piecesRg (x : Rg) : List (List Int) × Bool := if isRg x then (pcsL x.d x.k.toNat x.k.toNat, true) else ([], false)
theorem piecesRg_no {x : Rg} (h : isRg x = false) : piecesRg x = ([], false) := by simp [piecesRg, h]
theorem piecesRg_yes {x : Rg} (h : isRg x = true) : piecesRg x = (pcsL x.d x.k.toNat x.k.toNat, true) := by simp [piecesRg, h]
theorem total_rows (L : List (List Int)) (m : Nat) (h : ∀ l ∈ L, l.length ≤ m) : total L ≤ L.length * m := by
  induction L with
  | nil => simp [total]
  | cons l L ih =>
    have h1 := h l (by simp)
    have h2 := ih fun x hx => h x (by simp [hx])
    simp only [total, List.length_cons, Nat.succ_mul]
    omega
theorem piecesRg_len (x : Rg) : (piecesRg x).1.length ≤ 1048576 ∧ total (piecesRg x).1 ≤ 1048576 := by
  cases h : isRg x
  · rw [piecesRg_no h]; simp [total]
  · rw [piecesRg_yes h]
    have hk := isRg_k h
    have h1 := pcsL_len x.d x.k.toNat x.k.toNat
    have h2 := total_rows (pcsL x.d x.k.toNat x.k.toNat) 12 fun l hl => by have := (pcsL_row x.d x.k.toNat x.k.toNat (by omega) l hl).2.1; omega
    simp only
    omega
theorem implPiecesOf_any (v : Value) (x : Rg) (w : World) (h : RRg w w.heap.size v x) (hn : x.d.length ≤ 1048576) :
    Calls Try.prog 15 #[v] w (RetSB w (piecesRg x).1 (piecesRg x).2) := by
  obtain ⟨sv, rfl, h⟩ := h
  obtain ⟨k, d⟩ := x
  have h3 := h
  obtain ⟨A, c, rfl, hlc, hc⟩ := h
  clear hc
  simp only [RgV] at hn h3 hlc ⊢
  have hB0 := BK.made w 26 #[.int .i64 k, .slice A d.length c]
  have hW : Below w.heap.size w (w.alloc (.cells #[.int .i64 k, .slice A d.length c] 26)) := (Below.refl _ _).alloc (Nat.le_refl _) _
  have h4 := (h3.below hW).more hW.size
  cases hg : isRg ⟨k, d⟩
  · rw [piecesRg_no hg]
    go_enter Try.func15, Try.ntmps15
    go_wp2_with fail
    refine (implIsRing_any _ ⟨k, d⟩ _ ⟨_, rfl, h4⟩ hn).mono ?_; rintro e w1 ⟨rfl, hb⟩
    rw [hg]
    go_wp2_with fail
    go_ret2
    exact ⟨_, rfl, OS.nil _ _ _ _ _, hW.trans (hb.mono hW.size)⟩
  · rw [piecesRg_yes hg]
    have hk := isRg_k hg
    simp only at hk ⊢
    obtain ⟨K, rfl⟩ : ∃ K : Nat, k = (K : Int) := ⟨k.toNat, by omega⟩
    rw [Int.toNat_natCast]
    go_enter Try.func15, Try.ntmps15
    go_wp2_with fail
    refine (implIsRing_any _ ⟨K, d⟩ _ ⟨_, rfl, h4⟩ hn).mono ?_; rintro e w1 ⟨rfl, hb⟩
    rw [hg]
    have hB1 := hB0.step hb
    have c0 := hB1.cell 0
    have c1 := hB1.cell 1
    simp at c0 c1
    have T1 := hW.trans (hb.mono hW.size)
    have R1 := (h4.step hb (Nat.le_refl _)).more hb.size
    have HC := Lib.hid (piecesOf_any _ d K _ ⟨_, rfl, R1⟩ hk hn)
    have HT := Lib.hid T1
    simp only [RgV] at HC
    clear hB0 hB1 T1 R1 hb hW h4
    go_wp2_with fail
    refine HC.out.mono ?_; rintro e w2 ⟨u, rfl, ho, hb2⟩
    have HO := Lib.hid (ho.wide (lo' := w.heap.size) HT.out.size (Nat.le_refl _))
    have HT2 := Lib.hid (HT.out.trans (hb2.mono HT.out.size))
    clear ho hb2
    go_wp2_with fail
    go_ret2
    exact ⟨_, rfl, HO.out, HT2.out⟩
end Go.Proofs.Ytffmpkdkifecpaa
