/-
  Pieces: the contract of the model's PiecesOf.
-/
import Derived.Test.YtffmpkdkifecpaaPieces
import Derived.Deep.RegionWith
import Derived.Deep.CutRange
import Derived.Laws.BitsAllLaws
import Derived.Laws.BitsLemmas
namespace Go.Proofs.Ytffmpkdkifecpaa
open Go.RowKit
set_option maxRecDepth 100000
set_option linter.unusedVariables false

theorem isRg_mem2 {x : Rg} (h : isRg x = true) {y : Int} (hy : y ∈ x.d) : 0 ≤ y ∧ y < x.k := by
  obtain ⟨j, hj, e⟩ := List.getElem_of_mem hy
  have := isRg_d h j hj
  have e2 : x.d.getD j 0 = y := by simp [hj, e]
  omega
/-- The bits of n tell who is in one of the lists. -/
def Seen (K n : Nat) (L : List (List Int)) : Prop := n < 2 ^ K ∧ ∀ x : Nat, x < K → n.testBit x = L.any fun p => hasI p (x : Int)

theorem bit_int (n j : Nat) : (((n : Int) / 2 ^ j).tmod 2 == 1) = n.testBit j := by
  have e : (n : Int) / 2 ^ j = ((n / 2 ^ j : Nat) : Int) := by simp
  rw [e, show (2 : Int) = ((2 : Nat) : Int) from rfl, ← Int.ofNat_tmod, Nat.testBit_eq_decide_div_mod_eq, Bool.eq_iff_iff]
  simp only [beq_iff_eq, decide_eq_true_eq]
  omega
theorem or_bit (n X : Nat) (hn : n < 2 ^ 12) (hX : X < 12) : bits BinOp.or IntKind.i64 (n : Int) (wrap64 (2 ^ X)) = ((n ||| 2 ^ X : Nat) : Int) := by
  have h1 : 2 ^ X < 2 ^ 12 := Nat.pow_lt_pow_right (by omega) hX
  have e : wrap64 (2 ^ X) = ((2 ^ X : Nat) : Int) := by
    have h2 : ((2 : Int) ^ X) = ((2 ^ X : Nat) : Int) := by simp
    rw [h2]
    generalize 2 ^ X = m at *
    unfold wrap64
    omega
  rw [e]
  exact (bits_nat .i64 12 (by decide) (fun m h0 h2 => by rw [IntKind.wrap_i64]; omega) n (2 ^ X) hn h1).2
set_option maxHeartbeats 4000000 in
theorem specPiecesOf_any (v : Value) (x : Rg) (w : World) (h : RRg w w.heap.size v x) (hn : x.d.length ≤ 1048576) :
    Calls Try.prog 14 #[v] w (RetSB w (piecesRg x).1 (piecesRg x).2) := by
  obtain ⟨sv, rfl, h⟩ := h
  obtain ⟨k, d⟩ := x
  have h3 := h
  obtain ⟨A, c, rfl, hlc, hc⟩ := h
  clear hc
  simp only [RgV] at hn h3 hlc ⊢
  obtain ⟨i0, hi, hz0, hz1, hz2⟩ := info_parts ints_info
  obtain ⟨i1, hi1, hy0, hy1, hy2⟩ := info_parts int_info
  have hB0 := BK.made w 26 #[.int .i64 k, .slice A d.length c]
  have hW : Below w.heap.size w (w.alloc (.cells #[.int .i64 k, .slice A d.length c] 26)) := (Below.refl _ _).alloc (Nat.le_refl _) _
  have h4 := (h3.below hW).more hW.size
  cases hg : isRg ⟨k, d⟩
  · rw [piecesRg_no hg]
    go_enter Try.func14, Try.ntmps14
    go_wp2_with fail
    refine (riGood_any _ ⟨k, d⟩ _ ⟨_, rfl, h4⟩ hn).mono ?_; rintro e w1 ⟨rfl, hb⟩
    rw [hg]
    go_wp2_with fail
    go_ret2
    exact ⟨_, rfl, OS.nil _ _ _ _ _, hW.trans (hb.mono hW.size)⟩
  rw [piecesRg_yes hg]
  have hk := isRg_k hg
  have hmem : ∀ y ∈ d, 0 ≤ y ∧ y < k := fun y hy => isRg_mem2 hg hy
  simp only at hk ⊢
  obtain ⟨K, rfl⟩ : ∃ K : Nat, k = (K : Int) := ⟨k.toNat, by omega⟩
  rw [Int.toNat_natCast]
  have HMEM := Lib.hid hmem
  clear hmem
  go_enter Try.func14, Try.ntmps14
  go_wp2_with fail
  refine (riGood_any _ ⟨K, d⟩ _ ⟨_, rfl, h4⟩ hn).mono ?_; rintro e w0 ⟨rfl, hb⟩
  rw [hg]
  have hB1 := hB0.step hb
  have T1 := hW.trans (hb.mono hW.size)
  have R1 := h3.below T1
  have hs0 := T1.size
  have hs1 := hB1.1
  clear hB0 hW h4 hb
  go_wp2_with fail
  go_loopg [4, 5, 6] K (fun g s4 s5 s6 wx => ∃ j n : Nat, j + g = K ∧ s6 = .int .i64 j ∧ s4 = .int .i64 n ∧ Seen K n (pcsL d K j) ∧ OS 22 3 wx w0.heap.size wx.heap.size s5 (pcsL d K j) ∧ Below w0.heap.size w0 wx)
  case atStart => exact ⟨0, 0, by omega, rfl, rfl, ⟨Nat.two_pow_pos _, fun x _ => by simp [pcsL]⟩, OS.nil _ _ _ _ _, Below.refl _ _⟩
  case round =>
    obtain ⟨j, n, hjg, rfl, rfl, hseen, hos, hbw⟩ := hrel
    have hsz := hbw.size
    have hq := hB1.under hbw (by omega)
    have q0 := hq.cell 0
    have q1 := hq.cell 1
    simp at q0 q1
    have RW := (R1.below (hbw.mono hs0)).more (B' := wr.heap.size) (by omega)
    have HT := Lib.hid (T1.trans (hbw.mono hs0))
    obtain ⟨_, VA, vc, rfl, _⟩ := hos.rd
    have hpl := pcsL_len d K j
    have HOS := Lib.hid hos
    have HBW := Lib.hid hbw
    have HQ := Lib.hid hq
    have HR := Lib.hid RW
    have HS := Lib.hid hseen
    clear hos hbw hq RW hseen
    cases gk with
    | zero =>
      obtain rfl : j = K := by omega
      have hkz : ¬ ((j : Int) < (j : Int)) := by omega
      go_wp2_with fail
      go_ret2
      exact ⟨_, rfl, HOS.out.wide (by omega) (Nat.le_refl _), HT.out⟩
    | succ g =>
      have hkz : (j : Int) < (K : Int) := by omega
      obtain ⟨wo, rfl⟩ : ∃ wo : World, wo = wr := ⟨_, rfl⟩
      have hbit := bit_int n j
      have hsj := HS.out.2 j (by omega)
      cases hany : (pcsL d K j).any fun p => hasI p (j : Int)
      case true =>
        have hb1 : (((n : Int) / 2 ^ j).tmod 2 == 1) = true := by rw [hbit, hsj, hany]
        have HN := Lib.hid (pcsL_has hany)
        clear hbit hsj hany
        go_wp2_with fail
        go_roundg g
        case measure => omega
        case rel => exact ⟨j + 1, n, by omega, by go_num, rfl, by rw [HN.out]; exact HS.out, by rw [HN.out]; exact HOS.out, HBW.out⟩
      case false =>
        have hb1 : (((n : Int) / 2 ^ j).tmod 2 == 1) = false := by rw [hbit, hsj, hany]
        have HN := Lib.hid (pcsL_new hany)
        obtain ⟨F, hF⟩ : ∃ F, F = firstL d K (j : Int) := ⟨_, rfl⟩
        have hFin := firstL_in d K (j : Int) ⟨by omega, hkz⟩
        rw [← hF] at hFin HN
        obtain ⟨L, hL⟩ : ∃ L, L = pcsL d K j := ⟨_, rfl⟩
        rw [← hL] at HN HOS HS hpl
        rw [← hL]
        have HF : Hid (F = firL d K (j : Int) (K - 1) 0) := hF
        have hs : 0 ≤ (j : Int) ∧ (j : Int) < K := ⟨by omega, hkz⟩
        have HWH : Hid ((∀ i : Nat, 0 < i → i ≤ K → hasI d (stB K j i) = false) → d = []) := fun h => firL_whole hs HMEM.out h
        clear hbit hsj hany hF hL
        go_wp2_with fail
        go_loopg [7] (K - 1) (fun g2 s7 wy => ∃ i : Nat, i + g2 + 1 = K ∧ s7 = .int .i64 (stB K j i) ∧ Hid (F = firL d K (j : Int) g2 i) ∧ Hid (∀ i' : Nat, 0 < i' → i' ≤ i → hasI d (stB K j i') = false) ∧ Below wo.heap.size wo wy)
        case atStart => exact ⟨0, by omega, by rw [stB_zero hs], HF.out, fun i' h1 h2 => by omega, Below.refl _ _⟩
        case round =>
          obtain ⟨wy, rfl⟩ : ∃ wy : World, wy = wr := ⟨_, rfl⟩
          obtain ⟨i, hig, rfl, HFI, HNO, hby⟩ := hrel
          have hq2 := HQ.out.step hby
          have p0 := hq2.cell 0
          have p1 := hq2.cell 1
          simp at p0 p1
          have HR2 := Lib.hid ((HR.out.step hby (Nat.le_refl _)).more hby.size)
          have HQ2 := Lib.hid hq2
          have HBY := Lib.hid hby
          have hst := stB_in (k := (K : Int)) (by omega) j i
          have hst2 := stB_in (k := (K : Int)) (by omega) j (i + 1)
          have hbk := stB_back (k := (K : Int)) hs (j := i + 1) (by omega) (by omega)
          have HC1 : Hid (∀ wz, Below wy.heap.size wy wz → Calls Try.prog 28 #[.agg #[.int .i64 K, .slice A d.length c], .int .i64 (stB K j i)] wz (RetV wz (.int .i64 (stB K j (i + 1))))) := by
            show ∀ wz, _
            intro wz hz
            have h9 := riBefore_any _ ⟨K, d⟩ (stB K j i) wz ⟨_, rfl, (HR2.out.below hz).more hz.size⟩ hk hst
            rw [bf_stB] at h9
            exact h9
          have HC2 : Hid (∀ wz, Below wy.heap.size wy wz → Calls Try.prog 29 #[.slice A d.length c, .int .i64 (stB K j (i + 1))] wz fun e w' => e = .returned (.bool (hasI d (stB K j (i + 1)))) ∧ wz = w') := by
            show ∀ wz, _
            intro wz hz
            exact l1Has_any _ d _ wz ((HR2.out.below hz).more hz.size) hn
          clear hby hq2
          cases hh : hasI d (stB K j (i + 1))
          case true =>
            have HFF : Hid (F = stB K j i) := by show _ = _; rw [HFI.out, firL_yes hh]
            have hd0 : d ≠ [] := fun e => by rw [e] at hh; simp [hasI] at hh
            have hdl : ((d.length : Int) == 0) = false := by have := List.length_pos_iff.2 hd0; simp; omega
            rw [hh] at HC2
            clear hbk hh hd0
            go_upto_region 10 with fail
            go_cut [40] from 27 to 40 (fun s40 wx => s40 = .bool false ∧ Below wy.heap.size wy wx)
            case first =>
              first
                | go_region_with (first
                    | (go_at_call 28; (with_reducible refine (HC1.out _ (Below.refl _ _).drew).mono ?_); rintro e w3 ⟨rfl, hb3⟩; have t3 := (Below.refl wy.heap.size wy).drew.trans hb3; have y3 := HQ2.out.step t3; have d0 := y3.cell 0; have d1 := y3.cell 1; simp at d0 d1)
                    | (go_at_call 29; (with_reducible refine (HC2.out _ t3).mono ?_); rintro e w' ⟨rfl, rfl⟩))
                | fail
              all_goals
                go_wp2_with fail
                go_meet
                exact ⟨rfl, t3⟩
            case rest =>
              obtain ⟨rfl, hbc⟩ := hcut
              have HZ := Lib.hid (HBY.out.trans (hbc.mono HBY.out.size))
              clear hbc
              rw [← HFF.out]
              have hqz := HQ.out.step HZ.out
              have z0 := hqz.cell 0
              have z1 := hqz.cell 1
              simp at z0 z1
              have HQZ := Lib.hid hqz
              have HRZ := Lib.hid ((HR.out.step HZ.out (Nat.le_refl _)).more HZ.out.size)
              obtain ⟨N, hN⟩ : ∃ N, N = runL d K F (K - 1) 0 := ⟨_, rfl⟩
              have HPP : Hid (passL d K F = upL K F N) := by show _ = _; unfold passL; rw [hN]
              have HN0 := Lib.hid hN
              have hNle := runL_le d K F (K - 1) 0
              rw [← hN] at hNle
              have hNK : N ≤ 12 := by omega
              have hN1 : 1 ≤ N := by omega
              clear hN hqz hNle
              obtain ⟨wp, hwp⟩ : ∃ wp, wp = wc.alloc (.cells #[.int .i64 F] 3) := ⟨_, rfl⟩
              have hacc0 := Acc.lit1 (E := 3) (w := wc) (lo := wc.heap.size) (x := F) (g := wc.heap.size) rfl
              have hp0 : Below wc.heap.size wc (wc.alloc (.cells #[.int .i64 F] 3)) := (Below.refl _ _).alloc (Nat.le_refl _) _
              rw [← hwp] at hacc0 hp0
              have HP0 := Lib.hid hp0
              have HA0 := Lib.hid hacc0
              clear hp0 hacc0
              go_wp2_with fail
              rw [← hwp]
              clear hwp
              go_loopg [8, 9] (K - 1) (fun g3 s8 s9 wy3 => ∃ i3 : Nat, i3 + g3 + 1 = K ∧ s9 = .int .i64 (stF K F i3) ∧ Hid (N = runL d K F g3 i3) ∧ Acc 3 wy3 wc.heap.size s8 (upL K F (i3 + 1)) ∧ Below wc.heap.size wc wy3)
              case atStart => exact ⟨0, by omega, by rw [stF_zero hFin], HN0.out, by have := HA0.out; simpa [upL, stF_zero hFin] using this, HP0.out⟩
              case round =>
                obtain ⟨w3_, rfl⟩ : ∃ w3_ : World, w3_ = wr := ⟨_, rfl⟩
                obtain ⟨i3, hi3, rfl, HRN, hacc, hb3_⟩ := hrel
                have hq3 := HQZ.out.step hb3_
                have z0 := hq3.cell 0
                have z1 := hq3.cell 1
                simp at z0 z1
                have HR3 := Lib.hid ((HRZ.out.step hb3_ (Nat.le_refl _)).more hb3_.size)
                have HQ3 := Lib.hid hq3
                have HB3 := Lib.hid hb3_
                have HA3 := Lib.hid hacc
                have hsz3 := hb3_.size
                have hst := stF_in (k := (K : Int)) (by omega) F i3
                have hst2 := stF_in (k := (K : Int)) (by omega) F (i3 + 1)
                have hbk := stF_back (k := (K : Int)) hFin (j := i3 + 1) (by omega) (by omega)
                have hul := upL_len K F (i3 + 1)
                have HD1 : Hid (∀ wq, Below w3_.heap.size w3_ wq → Calls Try.prog 37 #[.agg #[.int .i64 K, .slice A d.length c], .int .i64 (stF K F i3)] wq (RetV wq (.int .i64 (stF K F (i3 + 1))))) := by
                  show ∀ wq, _
                  intro wq hz
                  have h9 := riNext_any _ ⟨K, d⟩ (stF K F i3) wq ⟨_, rfl, (HR3.out.below hz).more hz.size⟩ hk hst
                  rw [nx_stF] at h9
                  exact h9
                have HD2 : Hid (Calls Try.prog 29 #[.slice A d.length c, .int .i64 (stF K F i3)] w3_ fun e w' => e = .returned (.bool (hasI d (stF K F i3))) ∧ w3_ = w') := l1Has_any _ d _ w3_ HR3.out hn
                obtain ⟨A5, c5, rfl⟩ := acc_shape hacc
                rw [hul] at hacc ⊢
                have HA4 := Lib.hid hacc
                clear hacc hb3_ hq3
                cases hh : hasI d (stF K F i3)
                case true =>
                  have HNN : Hid (N = i3 + 1) := by show _ = _; rw [HRN.out, runL_yes hh]
                  rw [hh] at HD2
                  clear hbk hh
                  go_wp2_with (go_at_call 29; (with_reducible refine HD2.out.mono ?_); rintro e w' ⟨rfl, rfl⟩)
                  have HX := Lib.hid (Below.refl w3_.heap.size w3_)
                  have hacc5 := HA4.out.step HX.out
                  have hri5 := hacc5.oi.ri
                  obtain ⟨A6, c6, he6, hlc6, hc6⟩ := hri5
                  rw [hul] at he6 hc6
                  injection he6 with h61 h62 h63
                  subst h61
                  subst h63
                  have HC6 : Hid (∀ i4 : Nat, i4 < i3 + 1 → ∃ b off, A5 = some ⟨b, off, none⟩ ∧ w3_.cell? ⟨b, off + i4, none⟩ = some (.int .i64 (stF K F i4))) := by
                    show ∀ i4 : Nat, _
                    intro i4 hi4
                    obtain ⟨b, off, hA, _, hcell⟩ := hc6 (by omega)
                    have hg4 : (upL K F (i3 + 1)).getD i4 0 = stF K F i4 := by simp [upL, List.getD, hi4]
                    refine ⟨b, off, hA, ?_⟩
                    rw [← hg4]
                    exact hcell i4 hi4
                  have HA6 := Lib.hid hacc5
                  have hi3K : i3 + 1 ≤ K := by first | omega | (have := HI3.out; omega)
                  clear hacc5 hc6 hlc6
                  go_loopg [4, 73] (i3 + 1) (fun g4 s4 s73 wy4 => ∃ i4 n4 : Nat, i4 + g4 = i3 + 1 ∧ s73 = .int .i64 i4 ∧ s4 = .int .i64 n4 ∧ Hid (n4 < 2 ^ K ∧ ∀ x : Nat, x < K → n4.testBit x = ((L.any fun p => hasI p (x : Int)) || (upL K F i4).contains (x : Int))) ∧ w3_ = wy4)
                  case atStart => exact ⟨0, n, by omega, rfl, rfl, ⟨HS.out.1, fun x hx => by rw [HS.out.2 x hx]; simp [upL]⟩, rfl⟩
                  case round =>
                    obtain ⟨i4, n4, hi4, rfl, rfl, HSN, rfl⟩ := hrel
                    cases gk with
                    | zero =>
                      have hi4z : ¬ (i4 : Int) < ((i3 + 1 : Nat) : Int) := by omega
                      have HI4 : Hid (i4 = i3 + 1) := by show _ = _; omega
                      have tq := HZ.out.trans ((HB3.out.trans (HX.out.mono HB3.out.size)).mono HZ.out.size)
                      have hosq := HOS.out.step tq (Nat.le_refl _)
                      have huq : OI 3 w3_ wo.heap.size w3_.heap.size _ (upL K F (i3 + 1)) := HA6.out.oi.wide HZ.out.size (Nat.le_refl _)
                      have hbq := HBW.out.trans (tq.mono hsz)
                      have hszq := tq.size
                      have hLl : L.length < 1000000 := by omega
                      clear tq hi4
                      go_wp2_with (at_builtin; refine wpList_pushS rfl (.tmp 82) (.tmp 84) 33 rfl 22 3 (by decide) i0 Try.underlying33 hi hz0 hz1 hz2 w3_ w0 w0.heap.size wo.heap.size w3_.heap.size _ _ L (upL K F (i3 + 1)) rfl rfl hosq huq hsz (Nat.le_refl _) hszq rfl hLl hbq ?_; intro v9 w9 hos9 hb9)
                      have HO9 := Lib.hid hos9
                      have HB9 := Lib.hid hb9
                      clear hosq huq hbq hos9 hb9
                      all_goals
                        go_roundg g
                        case measure => omega
                        case rel =>
                          refine ⟨j + 1, n4, by omega, by go_num, rfl, ?_, ?_, HB9.out⟩
                          · rw [HN.out, HPP.out, HNN.out]
                            refine ⟨HSN.out.1, fun x hx => ?_⟩
                            rw [HSN.out.2 x hx, HI4.out, List.any_append]
                            simp [hasI]
                          · rw [HN.out, HPP.out, HNN.out]
                            exact HO9.out
                    | succ g4 =>
                      have hi4z : (i4 : Int) < ((i3 + 1 : Nat) : Int) := by omega
                      have hi4y : (i4 : Int) < (i3 : Int) + 1 := by omega
                      obtain ⟨b, off, rfl, hcx⟩ := HC6.out i4 (by omega)
                      have hx4 := stF_in (k := (K : Int)) (by omega) F i4
                      have HU4 : Hid (upL K F (i4 + 1) = upL K F i4 ++ [stF K F i4]) := by show _ = _; rw [upL_succ]
                      obtain ⟨X, hX⟩ : ∃ X : Nat, stF K F i4 = (X : Int) := ⟨(stF K F i4).toNat, by omega⟩
                      rw [hX] at hcx hx4 HU4
                      have hXK : X < 12 := by omega
                      have hXK2 : X < K := by omega
                      have hn4 : n4 < 2 ^ 12 := Nat.lt_of_lt_of_le HSN.out.1 (Nat.pow_le_pow_right (by omega) (by omega))
                      have hbo := or_bit n4 X hn4 hXK
                      have HSN2 : Hid (n4 ||| 2 ^ X < 2 ^ K ∧ ∀ x : Nat, x < K → (n4 ||| 2 ^ X).testBit x = ((L.any fun p => hasI p (x : Int)) || (upL K F (i4 + 1)).contains (x : Int))) := by
                        refine ⟨Nat.or_lt_two_pow HSN.out.1 (Nat.pow_lt_pow_right (by omega) hXK2), fun x hx => ?_⟩
                        rw [Nat.testBit_or, HSN.out.2 x hx, HU4.out, Nat.testBit_two_pow, Bool.or_assoc]
                        congr 1
                        rw [Bool.eq_iff_iff]
                        simp only [Bool.or_eq_true, decide_eq_true_eq, List.contains_iff_mem, List.mem_append, List.mem_singleton]
                        constructor
                        · rintro (h1 | h1)
                          · exact .inl h1
                          · exact .inr (by omega)
                        · rintro (h1 | h1)
                          · exact .inl h1
                          · exact .inr (by omega)
                      generalize n4 ||| 2 ^ X = n5 at hbo HSN2
                      have HIX := Lib.hid hi4
                      clear hX hi4 hn4
                      go_wp2_with fail
                      go_roundg g4
                      case measure => omega
                      case rel => exact ⟨i4 + 1, n5, by have := HIX.out; omega, by go_num, rfl, HSN2, rfl⟩
                case false =>
                  rw [hh] at HD2
                  cases gk with
                  | zero =>
                    have HNN : Hid (N = i3 + 1) := by show _ = _; rw [HRN.out, runL_last]
                    have he : stF K F (i3 + 1) = F := hbk.2 (by omega)
                    have HBE : Hid ((stF K F (i3 + 1) != F) = false) := by show _ = _; rw [he]; simp
                    have HI3 := Lib.hid hi3
                    clear hbk hh he hi3
                    go_wp2_with (first
                      | (go_at_call 29; (with_reducible refine HD2.out.mono ?_); rintro e w' ⟨rfl, rfl⟩)
                      | (go_at_call 37; (with_reducible refine (HD1.out _ (Below.refl _ _)).mono ?_); rintro e w6 ⟨rfl, hb6⟩; have hbe := HBE.out))
                    have HX := Lib.hid hb6
                    clear hb6 hbe
                    have hacc5 := HA4.out.step HX.out
                    have hri5 := hacc5.oi.ri
                    obtain ⟨A6, c6, he6, hlc6, hc6⟩ := hri5
                    rw [hul] at he6 hc6
                    injection he6 with h61 h62 h63
                    subst h61
                    subst h63
                    have HC6 : Hid (∀ i4 : Nat, i4 < i3 + 1 → ∃ b off, A5 = some ⟨b, off, none⟩ ∧ w6.cell? ⟨b, off + i4, none⟩ = some (.int .i64 (stF K F i4))) := by
                      show ∀ i4 : Nat, _
                      intro i4 hi4
                      obtain ⟨b, off, hA, _, hcell⟩ := hc6 (by omega)
                      have hg4 : (upL K F (i3 + 1)).getD i4 0 = stF K F i4 := by simp [upL, List.getD, hi4]
                      refine ⟨b, off, hA, ?_⟩
                      rw [← hg4]
                      exact hcell i4 hi4
                    have HA6 := Lib.hid hacc5
                    have hi3K : i3 + 1 ≤ K := by first | omega | (have := HI3.out; omega)
                    clear hacc5 hc6 hlc6
                    go_loopg [4, 73] (i3 + 1) (fun g4 s4 s73 wy4 => ∃ i4 n4 : Nat, i4 + g4 = i3 + 1 ∧ s73 = .int .i64 i4 ∧ s4 = .int .i64 n4 ∧ Hid (n4 < 2 ^ K ∧ ∀ x : Nat, x < K → n4.testBit x = ((L.any fun p => hasI p (x : Int)) || (upL K F i4).contains (x : Int))) ∧ w6 = wy4)
                    case atStart => exact ⟨0, n, by omega, rfl, rfl, ⟨HS.out.1, fun x hx => by rw [HS.out.2 x hx]; simp [upL]⟩, rfl⟩
                    case round =>
                      obtain ⟨i4, n4, hi4, rfl, rfl, HSN, rfl⟩ := hrel
                      cases gk with
                      | zero =>
                        have hi4z : ¬ (i4 : Int) < ((i3 + 1 : Nat) : Int) := by omega
                        have HI4 : Hid (i4 = i3 + 1) := by show _ = _; omega
                        have tq := HZ.out.trans ((HB3.out.trans (HX.out.mono HB3.out.size)).mono HZ.out.size)
                        have hosq := HOS.out.step tq (Nat.le_refl _)
                        have huq : OI 3 w6 wo.heap.size w6.heap.size _ (upL K F (i3 + 1)) := HA6.out.oi.wide HZ.out.size (Nat.le_refl _)
                        have hbq := HBW.out.trans (tq.mono hsz)
                        have hszq := tq.size
                        have hLl : L.length < 1000000 := by omega
                        clear tq hi4
                        go_wp2_with (at_builtin; refine wpList_pushS rfl (.tmp 82) (.tmp 84) 33 rfl 22 3 (by decide) i0 Try.underlying33 hi hz0 hz1 hz2 w6 w0 w0.heap.size wo.heap.size w6.heap.size _ _ L (upL K F (i3 + 1)) rfl rfl hosq huq hsz (Nat.le_refl _) hszq rfl hLl hbq ?_; intro v9 w9 hos9 hb9)
                        have HO9 := Lib.hid hos9
                        have HB9 := Lib.hid hb9
                        clear hosq huq hbq hos9 hb9
                        all_goals
                          go_roundg g
                          case measure => omega
                          case rel =>
                            refine ⟨j + 1, n4, by omega, by go_num, rfl, ?_, ?_, HB9.out⟩
                            · rw [HN.out, HPP.out, HNN.out]
                              refine ⟨HSN.out.1, fun x hx => ?_⟩
                              rw [HSN.out.2 x hx, HI4.out, List.any_append]
                              simp [hasI]
                            · rw [HN.out, HPP.out, HNN.out]
                              exact HO9.out
                      | succ g4 =>
                        have hi4z : (i4 : Int) < ((i3 + 1 : Nat) : Int) := by omega
                        have hi4y : (i4 : Int) < (i3 : Int) + 1 := by omega
                        obtain ⟨b, off, rfl, hcx⟩ := HC6.out i4 (by omega)
                        have hx4 := stF_in (k := (K : Int)) (by omega) F i4
                        have HU4 : Hid (upL K F (i4 + 1) = upL K F i4 ++ [stF K F i4]) := by show _ = _; rw [upL_succ]
                        obtain ⟨X, hX⟩ : ∃ X : Nat, stF K F i4 = (X : Int) := ⟨(stF K F i4).toNat, by omega⟩
                        rw [hX] at hcx hx4 HU4
                        have hXK : X < 12 := by omega
                        have hXK2 : X < K := by omega
                        have hn4 : n4 < 2 ^ 12 := Nat.lt_of_lt_of_le HSN.out.1 (Nat.pow_le_pow_right (by omega) (by omega))
                        have hbo := or_bit n4 X hn4 hXK
                        have HSN2 : Hid (n4 ||| 2 ^ X < 2 ^ K ∧ ∀ x : Nat, x < K → (n4 ||| 2 ^ X).testBit x = ((L.any fun p => hasI p (x : Int)) || (upL K F (i4 + 1)).contains (x : Int))) := by
                          refine ⟨Nat.or_lt_two_pow HSN.out.1 (Nat.pow_lt_pow_right (by omega) hXK2), fun x hx => ?_⟩
                          rw [Nat.testBit_or, HSN.out.2 x hx, HU4.out, Nat.testBit_two_pow, Bool.or_assoc]
                          congr 1
                          rw [Bool.eq_iff_iff]
                          simp only [Bool.or_eq_true, decide_eq_true_eq, List.contains_iff_mem, List.mem_append, List.mem_singleton]
                          constructor
                          · rintro (h1 | h1)
                            · exact .inl h1
                            · exact .inr (by omega)
                          · rintro (h1 | h1)
                            · exact .inl h1
                            · exact .inr (by omega)
                        generalize n4 ||| 2 ^ X = n5 at hbo HSN2
                        have HIX := Lib.hid hi4
                        clear hX hi4 hn4
                        go_wp2_with fail
                        go_roundg g4
                        case measure => omega
                        case rel => exact ⟨i4 + 1, n5, by have := HIX.out; omega, by go_num, rfl, HSN2, rfl⟩
                  | succ g3 =>
                    have he : stF K F (i3 + 1) ≠ F := fun e => by have := hbk.1 e; omega
                    have HBE : Hid ((stF K F (i3 + 1) != F) = true) := by show _ = _; simpa using he
                    have HRN2 : Hid (N = runL d K F g3 (i3 + 1)) := by show _ = _; rw [HRN.out, runL_next hh]
                    have HU : Hid (upL K F (i3 + 1 + 1) = upL K F (i3 + 1) ++ [stF K F (i3 + 1)]) := by show _ = _; rw [upL_succ]
                    clear hbk hh he
                    go_wp2_with (first
                      | (go_at_call 29; (with_reducible refine HD2.out.mono ?_); rintro e w' ⟨rfl, rfl⟩)
                      | (go_at_call 37; (with_reducible refine (HD1.out _ (Below.refl _ _)).mono ?_); rintro e w6 ⟨rfl, hb6⟩; have hbe := HBE.out; have HX := Lib.hid hb6; have y6 := HQ3.out.step hb6; have z60 := y6.cell 0; have z61 := y6.cell 1; simp at z60 z61)
                      | (go_at_call 37; (with_reducible refine (HD1.out _ HX.out).mono ?_); rintro e w7 ⟨rfl, hb7⟩; have t7 := HX.out.trans (hb7.mono HX.out.size); have hacc7 := HA4.out.step t7; have hbl7 := HB3.out.trans (t7.mono hsz3); have hsz7 := hbl7.size; have hul7 : (upL K F (i3 + 1)).length < 1000000000 := by rw [upL_len]; omega)
                      | (at_builtin; refine wpList_push rfl _ _ 22 rfl 3 i1 Try.underlying22 hi1 hy0 hy1 hy2 w7 wc wc.heap.size _ (upL K F (i3 + 1)) (stF K F (i3 + 1)) rfl rfl hacc7 rfl hul7 hsz7 hbl7 ?_; intro v8 w8 hacc8 hb8))
                    rw [← HU.out] at hacc8
                    go_roundg g3
                    case measure => omega
                    case rel => exact ⟨i3 + 1, by omega, rfl, HRN2, hacc8, hb8⟩
          case false =>
            rw [hh] at HC2
            cases gk with
            | zero =>
              have hi1 : i + 1 = K := by omega
              have he : stB K j (i + 1) = (j : Int) := hbk.2 (by omega)
              have HBE : Hid ((stB K j (i + 1) != (j : Int)) = false) := by show _ = _; rw [he]; simp
              have HFF : Hid (F = (j : Int)) := by show _ = _; rw [HFI.out, firL_last hh]
              have hdn : d = [] := HWH.out fun i' h1 h2 => by
                by_cases h3 : i' ≤ i
                · exact HNO.out i' h1 h3
                · obtain rfl : i' = i + 1 := by omega
                  exact hh
              have HDL : Hid (((d.length : Int) == 0) = true) := by show _ = _; rw [hdn]; rfl
              have HDN := Lib.hid hdn
              have HIG := Lib.hid hig
              clear hbk hh hdn he hi1 hig
              go_upto_region 10 with fail
              go_region_held3 (fun w' => w'.cell? ⟨w.heap.size, 0, none⟩ = some (.int .i64 K) ∧ w'.cell? ⟨w.heap.size, 1, none⟩ = some (.slice A d.length c)) (with_reducible first | exact ⟨p0, p1⟩ | exact ⟨d0, d1⟩ | exact ⟨e0, e1⟩ | go_keep)
                (first
                  | (go_at_call 28; (with_reducible refine (HC1.out _ (Below.refl _ _).drew).mono ?_); rintro e w3 ⟨rfl, hb3⟩; have t3 := (Below.refl wy.heap.size wy).drew.trans hb3; have y3 := HQ2.out.step t3; have d0 := y3.cell 0; have d1 := y3.cell 1; simp at d0 d1)
                  | (go_at_call 29; (with_reducible refine (HC2.out _ t3).mono ?_); rintro e w' ⟨rfl, rfl⟩)
                  | (go_at_call 28; (with_reducible refine (HC1.out _ t3).mono ?_); rintro e w4 ⟨rfl, hb4⟩; have hbe := HBE.out; have t4 := t3.trans (hb4.mono t3.size); have y4 := HQ2.out.step t4; have e0 := y4.cell 0; have e1 := y4.cell 1; simp at e0 e1))
              have HZ := Lib.hid (HBY.out.trans (t4.mono HBY.out.size))
              have hdl := HDL.out
              rw [HFF.out] at HN hFin
              clear hb3 hb4 y3 y4 t3 t4 hbe d0 d1 e0 e1
              have hqz := HQ.out.step HZ.out
              have z0 := hqz.cell 0
              have z1 := hqz.cell 1
              simp at z0 z1
              have HQZ := Lib.hid hqz
              have HRZ := Lib.hid ((HR.out.step HZ.out (Nat.le_refl _)).more HZ.out.size)
              obtain ⟨N, hN⟩ : ∃ N, N = runL d K (j : Int) (K - 1) 0 := ⟨_, rfl⟩
              have HPP : Hid (passL d K (j : Int) = upL K (j : Int) N) := by show _ = _; unfold passL; rw [hN]
              have HN0 := Lib.hid hN
              have hNle := runL_le d K (j : Int) (K - 1) 0
              rw [← hN] at hNle
              have hNK : N ≤ 12 := by omega
              have hN1 : 1 ≤ N := by omega
              clear hN hqz hNle
              obtain ⟨wp, hwp⟩ : ∃ wp, wp = w4.alloc (.cells #[.int .i64 (j : Int)] 3) := ⟨_, rfl⟩
              have hacc0 := Acc.lit1 (E := 3) (w := w4) (lo := w4.heap.size) (x := (j : Int)) (g := w4.heap.size) rfl
              have hp0 : Below w4.heap.size w4 (w4.alloc (.cells #[.int .i64 (j : Int)] 3)) := (Below.refl _ _).alloc (Nat.le_refl _) _
              rw [← hwp] at hacc0 hp0
              have HP0 := Lib.hid hp0
              have HA0 := Lib.hid hacc0
              clear hp0 hacc0
              go_wp2_with fail
              rw [← hwp]
              clear hwp
              go_loopg [8, 9] (K - 1) (fun g3 s8 s9 wy3 => ∃ i3 : Nat, i3 + g3 + 1 = K ∧ s9 = .int .i64 (stF K (j : Int) i3) ∧ Hid (N = runL d K (j : Int) g3 i3) ∧ Acc 3 wy3 w4.heap.size s8 (upL K (j : Int) (i3 + 1)) ∧ Below w4.heap.size w4 wy3)
              case atStart => exact ⟨0, by omega, by rw [stF_zero hFin], HN0.out, by have := HA0.out; simpa [upL, stF_zero hFin] using this, HP0.out⟩
              case round =>
                obtain ⟨w3_, rfl⟩ : ∃ w3_ : World, w3_ = wr := ⟨_, rfl⟩
                obtain ⟨i3, hi3, rfl, HRN, hacc, hb3_⟩ := hrel
                have hq3 := HQZ.out.step hb3_
                have z0 := hq3.cell 0
                have z1 := hq3.cell 1
                simp at z0 z1
                have HR3 := Lib.hid ((HRZ.out.step hb3_ (Nat.le_refl _)).more hb3_.size)
                have HQ3 := Lib.hid hq3
                have HB3 := Lib.hid hb3_
                have HA3 := Lib.hid hacc
                have hsz3 := hb3_.size
                have hst := stF_in (k := (K : Int)) (by omega) (j : Int) i3
                have hst2 := stF_in (k := (K : Int)) (by omega) (j : Int) (i3 + 1)
                have hbk := stF_back (k := (K : Int)) hFin (j := i3 + 1) (by omega) (by omega)
                have hul := upL_len K (j : Int) (i3 + 1)
                have HD1 : Hid (∀ wq, Below w3_.heap.size w3_ wq → Calls Try.prog 37 #[.agg #[.int .i64 K, .slice A d.length c], .int .i64 (stF K (j : Int) i3)] wq (RetV wq (.int .i64 (stF K (j : Int) (i3 + 1))))) := by
                  show ∀ wq, _
                  intro wq hz
                  have h9 := riNext_any _ ⟨K, d⟩ (stF K (j : Int) i3) wq ⟨_, rfl, (HR3.out.below hz).more hz.size⟩ hk hst
                  rw [nx_stF] at h9
                  exact h9
                have HD2 : Hid (Calls Try.prog 29 #[.slice A d.length c, .int .i64 (stF K (j : Int) i3)] w3_ fun e w' => e = .returned (.bool (hasI d (stF K (j : Int) i3))) ∧ w3_ = w') := l1Has_any _ d _ w3_ HR3.out hn
                obtain ⟨A5, c5, rfl⟩ := acc_shape hacc
                rw [hul] at hacc ⊢
                have HA4 := Lib.hid hacc
                clear hacc hb3_ hq3
                cases hh : hasI d (stF K (j : Int) i3)
                case true =>
                  have HNN : Hid (N = i3 + 1) := by show _ = _; rw [HRN.out, runL_yes hh]
                  rw [hh] at HD2
                  clear hbk hh
                  go_wp2_with (go_at_call 29; (with_reducible refine HD2.out.mono ?_); rintro e w' ⟨rfl, rfl⟩)
                  have HX := Lib.hid (Below.refl w3_.heap.size w3_)
                  have hacc5 := HA4.out.step HX.out
                  have hri5 := hacc5.oi.ri
                  obtain ⟨A6, c6, he6, hlc6, hc6⟩ := hri5
                  rw [hul] at he6 hc6
                  injection he6 with h61 h62 h63
                  subst h61
                  subst h63
                  have HC6 : Hid (∀ i4 : Nat, i4 < i3 + 1 → ∃ b off, A5 = some ⟨b, off, none⟩ ∧ w3_.cell? ⟨b, off + i4, none⟩ = some (.int .i64 (stF K (j : Int) i4))) := by
                    show ∀ i4 : Nat, _
                    intro i4 hi4
                    obtain ⟨b, off, hA, _, hcell⟩ := hc6 (by omega)
                    have hg4 : (upL K (j : Int) (i3 + 1)).getD i4 0 = stF K (j : Int) i4 := by simp [upL, List.getD, hi4]
                    refine ⟨b, off, hA, ?_⟩
                    rw [← hg4]
                    exact hcell i4 hi4
                  have HA6 := Lib.hid hacc5
                  have hi3K : i3 + 1 ≤ K := by first | omega | (have := HI3.out; omega)
                  clear hacc5 hc6 hlc6
                  go_loopg [4, 73] (i3 + 1) (fun g4 s4 s73 wy4 => ∃ i4 n4 : Nat, i4 + g4 = i3 + 1 ∧ s73 = .int .i64 i4 ∧ s4 = .int .i64 n4 ∧ Hid (n4 < 2 ^ K ∧ ∀ x : Nat, x < K → n4.testBit x = ((L.any fun p => hasI p (x : Int)) || (upL K (j : Int) i4).contains (x : Int))) ∧ w3_ = wy4)
                  case atStart => exact ⟨0, n, by omega, rfl, rfl, ⟨HS.out.1, fun x hx => by rw [HS.out.2 x hx]; simp [upL]⟩, rfl⟩
                  case round =>
                    obtain ⟨i4, n4, hi4, rfl, rfl, HSN, rfl⟩ := hrel
                    cases gk with
                    | zero =>
                      have hi4z : ¬ (i4 : Int) < ((i3 + 1 : Nat) : Int) := by omega
                      have HI4 : Hid (i4 = i3 + 1) := by show _ = _; omega
                      have tq := HZ.out.trans ((HB3.out.trans (HX.out.mono HB3.out.size)).mono HZ.out.size)
                      have hosq := HOS.out.step tq (Nat.le_refl _)
                      have huq : OI 3 w3_ wo.heap.size w3_.heap.size _ (upL K (j : Int) (i3 + 1)) := HA6.out.oi.wide HZ.out.size (Nat.le_refl _)
                      have hbq := HBW.out.trans (tq.mono hsz)
                      have hszq := tq.size
                      have hLl : L.length < 1000000 := by omega
                      clear tq hi4
                      go_wp2_with (at_builtin; refine wpList_pushS rfl (.tmp 82) (.tmp 84) 33 rfl 22 3 (by decide) i0 Try.underlying33 hi hz0 hz1 hz2 w3_ w0 w0.heap.size wo.heap.size w3_.heap.size _ _ L (upL K (j : Int) (i3 + 1)) rfl rfl hosq huq hsz (Nat.le_refl _) hszq rfl hLl hbq ?_; intro v9 w9 hos9 hb9)
                      have HO9 := Lib.hid hos9
                      have HB9 := Lib.hid hb9
                      clear hosq huq hbq hos9 hb9
                      all_goals
                        go_roundg g
                        case measure => omega
                        case rel =>
                          refine ⟨j + 1, n4, by omega, by go_num, rfl, ?_, ?_, HB9.out⟩
                          · rw [HN.out, HPP.out, HNN.out]
                            refine ⟨HSN.out.1, fun x hx => ?_⟩
                            rw [HSN.out.2 x hx, HI4.out, List.any_append]
                            simp [hasI]
                          · rw [HN.out, HPP.out, HNN.out]
                            exact HO9.out
                    | succ g4 =>
                      have hi4z : (i4 : Int) < ((i3 + 1 : Nat) : Int) := by omega
                      have hi4y : (i4 : Int) < (i3 : Int) + 1 := by omega
                      obtain ⟨b, off, rfl, hcx⟩ := HC6.out i4 (by omega)
                      have hx4 := stF_in (k := (K : Int)) (by omega) (j : Int) i4
                      have HU4 : Hid (upL K (j : Int) (i4 + 1) = upL K (j : Int) i4 ++ [stF K (j : Int) i4]) := by show _ = _; rw [upL_succ]
                      obtain ⟨X, hX⟩ : ∃ X : Nat, stF K (j : Int) i4 = (X : Int) := ⟨(stF K (j : Int) i4).toNat, by omega⟩
                      rw [hX] at hcx hx4 HU4
                      have hXK : X < 12 := by omega
                      have hXK2 : X < K := by omega
                      have hn4 : n4 < 2 ^ 12 := Nat.lt_of_lt_of_le HSN.out.1 (Nat.pow_le_pow_right (by omega) (by omega))
                      have hbo := or_bit n4 X hn4 hXK
                      have HSN2 : Hid (n4 ||| 2 ^ X < 2 ^ K ∧ ∀ x : Nat, x < K → (n4 ||| 2 ^ X).testBit x = ((L.any fun p => hasI p (x : Int)) || (upL K (j : Int) (i4 + 1)).contains (x : Int))) := by
                        refine ⟨Nat.or_lt_two_pow HSN.out.1 (Nat.pow_lt_pow_right (by omega) hXK2), fun x hx => ?_⟩
                        rw [Nat.testBit_or, HSN.out.2 x hx, HU4.out, Nat.testBit_two_pow, Bool.or_assoc]
                        congr 1
                        rw [Bool.eq_iff_iff]
                        simp only [Bool.or_eq_true, decide_eq_true_eq, List.contains_iff_mem, List.mem_append, List.mem_singleton]
                        constructor
                        · rintro (h1 | h1)
                          · exact .inl h1
                          · exact .inr (by omega)
                        · rintro (h1 | h1)
                          · exact .inl h1
                          · exact .inr (by omega)
                      generalize n4 ||| 2 ^ X = n5 at hbo HSN2
                      have HIX := Lib.hid hi4
                      clear hX hi4 hn4
                      go_wp2_with fail
                      go_roundg g4
                      case measure => omega
                      case rel => exact ⟨i4 + 1, n5, by have := HIX.out; omega, by go_num, rfl, HSN2, rfl⟩
                case false =>
                  rw [hh] at HD2
                  cases gk with
                  | zero =>
                    have HNN : Hid (N = i3 + 1) := by show _ = _; rw [HRN.out, runL_last]
                    have he : stF K (j : Int) (i3 + 1) = (j : Int) := hbk.2 (by omega)
                    have HBE : Hid ((stF K (j : Int) (i3 + 1) != (j : Int)) = false) := by show _ = _; rw [he]; simp
                    have HI3 := Lib.hid hi3
                    clear hbk hh he hi3
                    go_wp2_with (first
                      | (go_at_call 29; (with_reducible refine HD2.out.mono ?_); rintro e w' ⟨rfl, rfl⟩)
                      | (go_at_call 37; (with_reducible refine (HD1.out _ (Below.refl _ _)).mono ?_); rintro e w6 ⟨rfl, hb6⟩; have hbe := HBE.out))
                    have HX := Lib.hid hb6
                    clear hb6 hbe
                    have hacc5 := HA4.out.step HX.out
                    have hri5 := hacc5.oi.ri
                    obtain ⟨A6, c6, he6, hlc6, hc6⟩ := hri5
                    rw [hul] at he6 hc6
                    injection he6 with h61 h62 h63
                    subst h61
                    subst h63
                    have HC6 : Hid (∀ i4 : Nat, i4 < i3 + 1 → ∃ b off, A5 = some ⟨b, off, none⟩ ∧ w6.cell? ⟨b, off + i4, none⟩ = some (.int .i64 (stF K (j : Int) i4))) := by
                      show ∀ i4 : Nat, _
                      intro i4 hi4
                      obtain ⟨b, off, hA, _, hcell⟩ := hc6 (by omega)
                      have hg4 : (upL K (j : Int) (i3 + 1)).getD i4 0 = stF K (j : Int) i4 := by simp [upL, List.getD, hi4]
                      refine ⟨b, off, hA, ?_⟩
                      rw [← hg4]
                      exact hcell i4 hi4
                    have HA6 := Lib.hid hacc5
                    have hi3K : i3 + 1 ≤ K := by first | omega | (have := HI3.out; omega)
                    clear hacc5 hc6 hlc6
                    go_loopg [4, 73] (i3 + 1) (fun g4 s4 s73 wy4 => ∃ i4 n4 : Nat, i4 + g4 = i3 + 1 ∧ s73 = .int .i64 i4 ∧ s4 = .int .i64 n4 ∧ Hid (n4 < 2 ^ K ∧ ∀ x : Nat, x < K → n4.testBit x = ((L.any fun p => hasI p (x : Int)) || (upL K (j : Int) i4).contains (x : Int))) ∧ w6 = wy4)
                    case atStart => exact ⟨0, n, by omega, rfl, rfl, ⟨HS.out.1, fun x hx => by rw [HS.out.2 x hx]; simp [upL]⟩, rfl⟩
                    case round =>
                      obtain ⟨i4, n4, hi4, rfl, rfl, HSN, rfl⟩ := hrel
                      cases gk with
                      | zero =>
                        have hi4z : ¬ (i4 : Int) < ((i3 + 1 : Nat) : Int) := by omega
                        have HI4 : Hid (i4 = i3 + 1) := by show _ = _; omega
                        have tq := HZ.out.trans ((HB3.out.trans (HX.out.mono HB3.out.size)).mono HZ.out.size)
                        have hosq := HOS.out.step tq (Nat.le_refl _)
                        have huq : OI 3 w6 wo.heap.size w6.heap.size _ (upL K (j : Int) (i3 + 1)) := HA6.out.oi.wide HZ.out.size (Nat.le_refl _)
                        have hbq := HBW.out.trans (tq.mono hsz)
                        have hszq := tq.size
                        have hLl : L.length < 1000000 := by omega
                        clear tq hi4
                        go_wp2_with (at_builtin; refine wpList_pushS rfl (.tmp 82) (.tmp 84) 33 rfl 22 3 (by decide) i0 Try.underlying33 hi hz0 hz1 hz2 w6 w0 w0.heap.size wo.heap.size w6.heap.size _ _ L (upL K (j : Int) (i3 + 1)) rfl rfl hosq huq hsz (Nat.le_refl _) hszq rfl hLl hbq ?_; intro v9 w9 hos9 hb9)
                        have HO9 := Lib.hid hos9
                        have HB9 := Lib.hid hb9
                        clear hosq huq hbq hos9 hb9
                        all_goals
                          go_roundg g
                          case measure => omega
                          case rel =>
                            refine ⟨j + 1, n4, by omega, by go_num, rfl, ?_, ?_, HB9.out⟩
                            · rw [HN.out, HPP.out, HNN.out]
                              refine ⟨HSN.out.1, fun x hx => ?_⟩
                              rw [HSN.out.2 x hx, HI4.out, List.any_append]
                              simp [hasI]
                            · rw [HN.out, HPP.out, HNN.out]
                              exact HO9.out
                      | succ g4 =>
                        have hi4z : (i4 : Int) < ((i3 + 1 : Nat) : Int) := by omega
                        have hi4y : (i4 : Int) < (i3 : Int) + 1 := by omega
                        obtain ⟨b, off, rfl, hcx⟩ := HC6.out i4 (by omega)
                        have hx4 := stF_in (k := (K : Int)) (by omega) (j : Int) i4
                        have HU4 : Hid (upL K (j : Int) (i4 + 1) = upL K (j : Int) i4 ++ [stF K (j : Int) i4]) := by show _ = _; rw [upL_succ]
                        obtain ⟨X, hX⟩ : ∃ X : Nat, stF K (j : Int) i4 = (X : Int) := ⟨(stF K (j : Int) i4).toNat, by omega⟩
                        rw [hX] at hcx hx4 HU4
                        have hXK : X < 12 := by omega
                        have hXK2 : X < K := by omega
                        have hn4 : n4 < 2 ^ 12 := Nat.lt_of_lt_of_le HSN.out.1 (Nat.pow_le_pow_right (by omega) (by omega))
                        have hbo := or_bit n4 X hn4 hXK
                        have HSN2 : Hid (n4 ||| 2 ^ X < 2 ^ K ∧ ∀ x : Nat, x < K → (n4 ||| 2 ^ X).testBit x = ((L.any fun p => hasI p (x : Int)) || (upL K (j : Int) (i4 + 1)).contains (x : Int))) := by
                          refine ⟨Nat.or_lt_two_pow HSN.out.1 (Nat.pow_lt_pow_right (by omega) hXK2), fun x hx => ?_⟩
                          rw [Nat.testBit_or, HSN.out.2 x hx, HU4.out, Nat.testBit_two_pow, Bool.or_assoc]
                          congr 1
                          rw [Bool.eq_iff_iff]
                          simp only [Bool.or_eq_true, decide_eq_true_eq, List.contains_iff_mem, List.mem_append, List.mem_singleton]
                          constructor
                          · rintro (h1 | h1)
                            · exact .inl h1
                            · exact .inr (by omega)
                          · rintro (h1 | h1)
                            · exact .inl h1
                            · exact .inr (by omega)
                        generalize n4 ||| 2 ^ X = n5 at hbo HSN2
                        have HIX := Lib.hid hi4
                        clear hX hi4 hn4
                        go_wp2_with fail
                        go_roundg g4
                        case measure => omega
                        case rel => exact ⟨i4 + 1, n5, by have := HIX.out; omega, by go_num, rfl, HSN2, rfl⟩
                  | succ g3 =>
                    have he : stF K (j : Int) (i3 + 1) ≠ (j : Int) := fun e => by have := hbk.1 e; omega
                    have HBE : Hid ((stF K (j : Int) (i3 + 1) != (j : Int)) = true) := by show _ = _; simpa using he
                    have HRN2 : Hid (N = runL d K (j : Int) g3 (i3 + 1)) := by show _ = _; rw [HRN.out, runL_next hh]
                    have HU : Hid (upL K (j : Int) (i3 + 1 + 1) = upL K (j : Int) (i3 + 1) ++ [stF K (j : Int) (i3 + 1)]) := by show _ = _; rw [upL_succ]
                    clear hbk hh he
                    go_wp2_with (first
                      | (go_at_call 29; (with_reducible refine HD2.out.mono ?_); rintro e w' ⟨rfl, rfl⟩)
                      | (go_at_call 37; (with_reducible refine (HD1.out _ (Below.refl _ _)).mono ?_); rintro e w6 ⟨rfl, hb6⟩; have hbe := HBE.out; have HX := Lib.hid hb6; have y6 := HQ3.out.step hb6; have z60 := y6.cell 0; have z61 := y6.cell 1; simp at z60 z61)
                      | (go_at_call 37; (with_reducible refine (HD1.out _ HX.out).mono ?_); rintro e w7 ⟨rfl, hb7⟩; have t7 := HX.out.trans (hb7.mono HX.out.size); have hacc7 := HA4.out.step t7; have hbl7 := HB3.out.trans (t7.mono hsz3); have hsz7 := hbl7.size; have hul7 : (upL K (j : Int) (i3 + 1)).length < 1000000000 := by rw [upL_len]; omega)
                      | (at_builtin; refine wpList_push rfl _ _ 22 rfl 3 i1 Try.underlying22 hi1 hy0 hy1 hy2 w7 w4 w4.heap.size _ (upL K (j : Int) (i3 + 1)) (stF K (j : Int) (i3 + 1)) rfl rfl hacc7 rfl hul7 hsz7 hbl7 ?_; intro v8 w8 hacc8 hb8))
                    rw [← HU.out] at hacc8
                    go_roundg g3
                    case measure => omega
                    case rel => exact ⟨i3 + 1, by omega, rfl, HRN2, hacc8, hb8⟩
            | succ g2 =>
              have he : stB K j (i + 1) ≠ (j : Int) := fun e => by have := hbk.1 e; omega
              have HBE : Hid ((stB K j (i + 1) != (j : Int)) = true) := by show _ = _; simpa using he
              have HFF : Hid (F = firL d K (j : Int) g2 (i + 1)) := by show _ = _; rw [HFI.out, firL_next hh]
              have HNO2 : Hid (∀ i' : Nat, 0 < i' → i' ≤ i + 1 → hasI d (stB K j i') = false) := by
                show ∀ i' : Nat, _
                intro i' h1 h2
                by_cases h3 : i' ≤ i
                · exact HNO.out i' h1 h3
                · obtain rfl : i' = i + 1 := by omega
                  exact hh
              clear hbk hh he
              go_upto_region 10 with fail
              go_region_held3 (fun w' => w'.cell? ⟨w.heap.size, 0, none⟩ = some (.int .i64 K) ∧ w'.cell? ⟨w.heap.size, 1, none⟩ = some (.slice A d.length c)) (with_reducible first | exact ⟨p0, p1⟩ | exact ⟨d0, d1⟩ | exact ⟨e0, e1⟩ | go_keep)
                (first
                  | (go_at_call 28; (with_reducible refine (HC1.out _ (Below.refl _ _).drew).mono ?_); rintro e w3 ⟨rfl, hb3⟩; have t3 := (Below.refl wy.heap.size wy).drew.trans hb3; have y3 := HQ2.out.step t3; have d0 := y3.cell 0; have d1 := y3.cell 1; simp at d0 d1)
                  | (go_at_call 29; (with_reducible refine (HC2.out _ t3).mono ?_); rintro e w' ⟨rfl, rfl⟩)
                  | (go_at_call 28; (with_reducible refine (HC1.out _ t3).mono ?_); rintro e w4 ⟨rfl, hb4⟩; have hbe := HBE.out; have t4 := t3.trans (hb4.mono t3.size); have y4 := HQ2.out.step t4; have e0 := y4.cell 0; have e1 := y4.cell 1; simp at e0 e1))
              have HZ := Lib.hid (HBY.out.trans (t4.mono HBY.out.size))
              have HT4 := Lib.hid t4
              clear hb3 hb4 y3 y4 t3 t4 hbe d0 d1
              go_wp2_with fail
              refine (HC1.out _ HT4.out).mono ?_; rintro e w5 ⟨rfl, hb5⟩
              have HB5 := Lib.hid (HZ.out.trans (hb5.mono HZ.out.size))
              clear hb5
              go_wp2_with fail
              go_roundg g2
              case measure => omega
              case rel => exact ⟨i + 1, by omega, rfl, HFF, HNO2, HB5.out⟩
end Go.Proofs.Ytffmpkdkifecpaa
