/-
  Chapter 7: the contract of the model's LongestRepair.
-/
import Derived.Test.YtgmknndmmpoliaaElAD
namespace Go.Proofs.Ytgmknndmmpoliaa
open Go.RowKit
set_option maxRecDepth 100000
set_option linter.unusedVariables false

theorem Acc.put {w : World} {E : TypeId} {lo g n c : Nat} {G : List Int} (h : Acc E w lo (.slice (some ⟨g, 0, none⟩) n c) G) (hn : G.length = n) (k : Nat) (x : Int) : Acc E (w.setCell ⟨g, k, none⟩ (.int .i64 x)) lo (.slice (some ⟨g, 0, none⟩) n c) (G.set k x) := by
  unfold Acc at h ⊢
  rw [List.length_set]
  rw [hn] at h ⊢
  have h1 := (World.ownsRow.stored h k (.int .i64 x)).1
  have e : (ics G).set k (.int .i64 x) = ics (G.set k x) := by simp [ics, List.map_set]
  rw [e] at h1
  exact h1
theorem Acc.cell {w : World} {E : TypeId} {lo g n c : Nat} {G : List Int} (h : Acc E w lo (.slice (some ⟨g, 0, none⟩) n c) G) (hn : G.length = n) (k : Nat) (hk : k < n) : w.cell? ⟨g, k, none⟩ = some (.int .i64 (G.getD k 0)) ∧ w.frozen? ⟨g, k, none⟩ = false := by
  unfold Acc at h
  rw [hn] at h
  refine ⟨?_, World.ownsRow.frozenAt h k⟩
  rw [World.ownsRow.cellAt h k (by omega), ics_get G k (by omega)]
theorem mxN_step (f : Nat → Nat) (j : Nat) : (if ((f j : Nat) : Int) < ((mxN f j : Nat) : Int) then ((mxN f j : Nat) : Int) else ((f j : Nat) : Int)) = ((mxN f (j + 1) : Nat) : Int) := by
  rw [mxN]
  split <;> split <;> omega

set_option maxHeartbeats 16000000 in
theorem specLongestRepair_any (n k : Int) (w : World) (hx : (Lit.int .i64 n).wf = true) (hy : (Lit.int .i64 k).wf = true) :
    Calls Try.prog 27 #[.int .i64 n, .int .i64 k] w (RetV w (.tuple #[.int .i64 (longRg n k).1, .bool (longRg n k).2])) := by
  have HI := Lib.hid (l1In_wi n 2 4 w)
  have HK := Lib.hid (l1In_wi k n 5 w)
  cases hg : wi n 2 4
  · rw [show longRg n k = (0, false) from by simp [longRg, hg]]
    rw [hg] at HI
    clear hg
    go_enter Try.func27, Try.ntmps27
    go_wp2_with fail
    refine HI.out.mono ?_; rintro e w' ⟨rfl, rfl⟩
    go_wp2_with fail
    go_ret2
    exact ⟨rfl, Below.refl _ _⟩
  rw [hg] at HI
  cases hg2 : wi k n 5
  · rw [show longRg n k = (0, false) from by simp [longRg, hg2]]
    rw [hg2] at HK
    clear hg hg2
    go_enter Try.func27, Try.ntmps27
    go_wp2_with fail
    refine HI.out.mono ?_; rintro e w' ⟨rfl, rfl⟩
    go_wp2_with fail
    refine HK.out.mono ?_; rintro e w' ⟨rfl, rfl⟩
    go_wp2_with fail
    go_ret2
    exact ⟨rfl, Below.refl _ _⟩
  rw [hg2] at HK
  obtain ⟨N, rfl, hN⟩ : ∃ N : Nat, n = (N : Int) ∧ 2 ≤ N ∧ N ≤ 4 := by
    simp [wi] at hg
    exact ⟨n.toNat, by omega, by omega⟩
  obtain ⟨K, rfl, hK⟩ : ∃ K : Nat, k = (K : Int) ∧ N ≤ K ∧ K ≤ 5 := by
    simp [wi] at hg2
    exact ⟨k.toNat, by omega, by omega⟩
  rw [show longRg (N : Int) (K : Int) = (((mxN (fun i => (rkL N K).getD i 0) (K ^ N) : Nat) : Int), true) from by simp [longRg, hg, hg2]]
  have R0 := rk_is hN hK
  generalize (fun i => (rkL N K).getD i 0) = f at R0 ⊢
  have R := Lib.hid R0
  clear hg hg2 hx hy R0
  obtain ⟨i0, hi, hz0, hz1, hz2⟩ := info_parts int_info
  have HALL := Lib.hid (elAll_any N K w (by omega) (by omega))
  obtain ⟨M, hM⟩ : ∃ M, M = K ^ N := ⟨_, rfl⟩
  have hM1 : 0 < M := by rw [hM]; exact Nat.pow_pos (by omega)
  have hM9 : M ≤ 3125 := by rw [hM]; exact pow_small (by omega) (by omega)
  have HMP := Lib.hid hM
  have HN := Lib.hid hN
  have HK2 : Hid (2 ≤ K) := by show _ ≤ _; omega
  have HK5 : Hid (K ≤ 5) := hK.2
  rw [← hM]
  clear hM
  have hMi : (1 : Int) ≤ (M : Int) ∧ (M : Int) ≤ 3125 := by omega
  have hNi : (2 : Int) ≤ (N : Int) ∧ (N : Int) ≤ 4 := by omega
  have hKi : (2 : Int) ≤ (K : Int) ∧ (K : Int) ≤ 5 := by omega
  go_enter Try.func27, Try.ntmps27
  go_wp2_with fail
  refine HI.out.mono ?_; rintro e w' ⟨rfl, rfl⟩
  go_wp2_with fail
  refine HK.out.mono ?_; rintro e w' ⟨rfl, rfl⟩
  go_wp2_with fail
  refine HALL.out.mono ?_; rintro e W1 ⟨u, rfl, hos, hb⟩
  obtain ⟨V, VA, vc, rfl, hV, hlc2, hcells, hrows⟩ := hos.rd
  rw [allN_length] at hcells hrows hlc2 ⊢
  rw [← HMP.out] at hcells hrows hlc2 ⊢
  obtain ⟨b, off, rfl, hbB, hcell⟩ := hcells hM1
  have HRO : Hid (∀ i, i < M → RI W1 W1.heap.size (V.getD i undef) (stA N K i)) := hrows
  have HCE := Lib.hid hcell
  have HBB : Hid (b < W1.heap.size) := hbB
  have HB0 := Lib.hid hb
  clear hcells hcell hrows hos hb hV hlc2 hbB
  go_wp2_with (at_make; refine wpList_make_full _ rfl _ _ 22 rfl W1.heap.size 3 i0 _ 1 Try.underlying22 hi hz0 hz1 _ _ _ _ M rfl rfl rfl rfl (by rw [hz2]; omega) (by unfold maxLen; omega) (Nat.le_refl _) ?_; intro w1 hown hg)
  have hacc1 : Acc 3 w1 W1.heap.size (.slice (some ⟨W1.heap.size, 0, none⟩) M M) (List.replicate M 0) := by
    have e : ics (List.replicate M 0) = List.replicate M (.int .i64 0) := by simp [ics]
    have h1 : (Value.int IntKind.i64 0).cells = #[Value.int IntKind.i64 0] := rfl
    have h2 := hown
    rw [Nat.mul_one, h1, toList_madeCells_one, ← e] at h2
    unfold Acc
    rw [List.length_replicate]
    exact h2
  have hb1 : Below W1.heap.size W1 w1 := (Below.refl _ _).grown hg (Nat.le_refl _) (by intro k hk; cases hk)
  have HA1 := Lib.hid hacc1
  have HB1 := Lib.hid hb1
  clear hown hg hacc1 hb1
  try go_wp2_with fail
  go_loopg [8] (M + 1) (fun g s8 wx => ∃ (r : Nat) (G : List Int), r + g = M + 1 ∧ s8 = .int .i64 r ∧ Hid (LI (K ^ N) f r 0 G) ∧ Hid (Acc 3 wx W1.heap.size (.slice (some ⟨W1.heap.size, 0, none⟩) M M) G) ∧ Hid (Below W1.heap.size W1 wx))
  case atStart => exact ⟨0, _, by omega, rfl, by rw [HMP.out]; exact LI.start _ _, HA1.out, HB1.out⟩
  case round =>
    obtain ⟨r, G, hrg, rfl, HLI, HA, HB⟩ := hrel
    rename World => W2
    by_cases hr : r ≤ M
    · have hr' : (r : Int) ≤ (M : Int) := by omega
      go_wp2_with fail
      go_loopg [9, 42] M (fun g s9 s42 wx => ∃ (i : Nat) (G : List Int) (b : Bool), i + g = M ∧ s9 = .bool b ∧ s42 = .int .i64 i ∧ Hid (ML N K f r i G b) ∧ Hid (Acc 3 wx W1.heap.size (.slice (some ⟨W1.heap.size, 0, none⟩) M M) G) ∧ Hid (Below W1.heap.size W1 wx))
      case atStart => exact ⟨0, G, false, by omega, rfl, rfl, ML.start HLI.out, HA.out, HB.out⟩
      case round =>
        clear HA HB HLI
        obtain ⟨i, G, bc, hig, rfl, rfl, HML, HA, HB⟩ := hrel
        rename World => W3
        cases gk with
        | zero =>
          have hiM : i = M := by omega
          rw [hiM] at HML ⊢
          have hz : ¬ ((M : Int) < (M : Int)) := by omega
          clear hig hiM
          cases bc
          · skip
            have HG : Hid (∀ j, j < M → G.getD j 0 = (f j : Int)) := fun j hj => (by have h9 := HML.out; rw [HMP.out] at h9 hj; exact h9.full HN.out.1 HK2.out R.out j hj)
            have HLEN := Lib.hid HML.out.li.len
            go_wp2_with fail
            go_loopw [16, 84] (fun u i wr => ∃ j : Nat, j ≤ M ∧ u = .int .i64 (mxN f j : Nat) ∧ i = .int .i64 j ∧ Hid (Acc 3 wr W1.heap.size (.slice (some ⟨W1.heap.size, 0, none⟩) M M) G) ∧ Hid (Below W1.heap.size W1 wr)) (fun _ i _ => M - (intOf i).toNat)
            case atStart => exact ⟨0, Nat.zero_le _, rfl, rfl, HA.out, HB.out⟩
            case round =>
              obtain ⟨j, hj, rfl, rfl, HA2, HB2⟩ := hrel
              rename World => W9
              by_cases hlt : j < M
              · have hcx := (HA2.out.cell (HLEN.out.trans HMP.out.symm) j hlt).1
                rw [HG.out j hlt] at hcx
                have HMO := Lib.hid (elMost_any ((mxN f j : Nat) : Int) ((f j : Nat) : Int) W9)
                have HN := Lib.hid (mxN_step f j)
                have hlt' : (j : Int) < (M : Int) := by omega
                obtain ⟨X, hX⟩ : ∃ X : Int, X = if ((f j : Nat) : Int) < ((mxN f j : Nat) : Int) then ((mxN f j : Nat) : Int) else ((f j : Nat) : Int) := ⟨_, rfl⟩
                rw [← hX] at HMO HN
                clear hX
                generalize f j = y at hcx HMO
                generalize mxN f j = z at HMO ⊢
                go_wp2_with fail
                refine HMO.out.mono ?_; rintro e w' ⟨rfl, rfl⟩
                go_wp2_with fail
                go_roundw
                case rel => exact ⟨j + 1, by omega, by rw [HN.out], by go_num, HA2.out, HB2.out⟩
                case measure => simp [intOf]; omega
              · have hjM : j = M := by omega
                rw [hjM]
                clear hj hlt
                have hz : ¬ ((M : Int) < (M : Int)) := by omega
                go_wp2_with fail
                go_ret2
                exact ⟨rfl, HB0.out.trans (HB2.out.mono HB0.out.size)⟩
          · have HNX : Hid (LI (K ^ N) f (r + 1) 0 G) := by
              have h9 := HML.out.li
              rw [HMP.out] at h9
              exact h9.round
            go_wp2_with fail
            go_roundg (M - r)
            case measure => omega
            case rel => exact ⟨r + 1, G, by omega, by go_num, HNX.out, HA.out, HB.out⟩
        | succ g2 =>
          have hiM : i < M := by omega
          have hiM' : (i : Int) < (M : Int) := by omega
          have hcx := (HB.out.cell (p := ⟨b, off + i, none⟩) HBB.out).trans (HCE.out i hiM)
          have hr3 := ((HRO.out i hiM).below HB.out).more HB.out.size
          have hiK : i < K ^ N := by rw [← HMP.out]; exact hiM
          have hsl := stA_len hiK
          have hsin := Lib.hid (stA_in hiK)
          have HIK := Lib.hid hiK
          have HC := Lib.hid (specHolders_any _ _ W3 hr3 (by omega))
          have HR3 := Lib.hid hr3
          obtain ⟨A5, c5, e5, _, _⟩ := hr3
          have HVI : Hid (V.getD i undef = .slice A5 N c5) := by show _ = _; rw [e5, hsl]
          rw [e5, hsl] at hcx
          rw [hsl] at HC
          rw [e5, hsl] at HC HR3
          have HLEN : Hid (G.length = M) := by
            show _ = _
            rw [HML.out.li.len, HMP.out]
          have hlong : W1.heap.size < W3.heap.size := ((World.ownsRow.lt HA.out) _ rfl).2
          have HLG := Lib.hid hlong
          have HSL := Lib.hid hsl
          clear e5 hiK hlong
          cases hone : oneB (stA N K i)
          · have HONE0 := Lib.hid hone
            have HPOS := Lib.hid (holdN_pos (stA N K i) (by omega))
            unfold oneB at hone
            rw [hsl] at hone HPOS
            have HONE := Lib.hid hone
            clear hone hsl
            go_wp2_with fail
            refine HC.out.mono ?_; rintro e W5 ⟨u5, rfl, ho5, hb5⟩
            have HA5 := Lib.hid (HA.out.step hb5)
            have HB5 := Lib.hid (HB.out.trans (hb5.mono HB.out.size))
            have HR5 := Lib.hid ((HR3.out.below hb5).more hb5.size)
            have hrow5 : ∃ g c, u5 = .slice (some ⟨g, 0, none⟩) (holdN (stA N K i) N).length c ∧ W3.heap.size ≤ g ∧ g < W5.heap.size ∧ ∀ q, q < (holdN (stA N K i) N).length → W5.cell? ⟨g, q, none⟩ = some (.int .i64 ((holdN (stA N K i) N).getD q 0)) := by
              rcases ho5 with ⟨h1, _⟩ | ⟨g, c, hv, hlo, hhi, hr⟩
              · have := HPOS.out
                rw [h1] at this
                simp at this
              · refine ⟨g, c, hv, hlo, hhi, fun q hq => ?_⟩
                rw [World.ownsRow.cellAt hr q (by omega), ics_get _ q hq]
            obtain ⟨g9, c9, rfl, hg9a, hg9b, hcell9⟩ := hrow5
            have HG9a : Hid (W1.heap.size + 1 ≤ g9) := by
              show _ ≤ _
              have := HLG.out
              omega
            have HG9b := Lib.hid hg9b
            have HCELL := Lib.hid hcell9
            have hone := HONE.out
            have hln := holdN_len (stA N K i) N
            have HH : Hid (∀ q, q < (holdN (stA N K i) N).length → ∃ s : Nat, s < N ∧ (holdN (stA N K i) N).getD q 0 = (s : Int) ∧ nxt N K i q < M ∧ nxt N K i q = idxN (fireL (stA N K i) K s) K) := by
              show ∀ q, _
              intro q hq
              obtain ⟨s, h1, _, h2⟩ := holdN_at (stA N K i) N q hq
              refine ⟨s, h1, h2, ?_, ?_⟩
              · rw [HMP.out]
                exact (nxt_lt HN.out.1 HK2.out HIK.out hq).2.2.1
              · rw [nxt, h2]
                rfl
            have HDONE : Hid (∀ G b, HL N K f r i (holdN (stA N K i) N).length G b → ML N K f r (i + 1) G b) := fun G b h => h.done R.out HIK.out HONE0.out
            have HYES : Hid (∀ G b q, q < (holdN (stA N K i) N).length → HL N K f r i q G b → G.getD i 0 < G.getD (nxt N K i q) 0 + 1 → HL N K f r i (q + 1) (G.set i (G.getD (nxt N K i q) 0 + 1)) true) := fun G b q hq h h2 => h.yes R.out HIK.out HONE0.out hq (nxt_lt HN.out.1 HK2.out HIK.out hq).2.2.1 h2
            have HNOO : Hid (∀ G b q, q < (holdN (stA N K i) N).length → HL N K f r i q G b → G.getD (nxt N K i q) 0 + 1 ≤ G.getD i 0 → HL N K f r i (q + 1) G b) := fun G b q hq h h2 => h.no (nxt_lt HN.out.1 HK2.out HIK.out hq).2.2.1 h2
            clear ho5 hb5 hg9a hg9b hcell9
            obtain ⟨hnn, hhn⟩ : ∃ x, x = (holdN (stA N K i) N).length := ⟨_, rfl⟩
            rw [← hhn] at hone hln HCELL HH HDONE HYES HNOO ⊢
            clear hhn
            go_wp2_with fail
            go_loopg [9, 54] hnn (fun g s9 s54 wx => ∃ (q : Nat) (G : List Int) (bb : Bool), q + g = hnn ∧ s9 = .bool bb ∧ s54 = .int .i64 q ∧ Hid (HL N K f r i q G bb) ∧ Hid (Acc 3 wx W1.heap.size (.slice (some ⟨W1.heap.size, 0, none⟩) M M) G) ∧ Hid (Wr W1.heap.size (W1.heap.size + 1) W5 wx))
            case atStart => exact ⟨0, G, bc, by omega, rfl, rfl, HML.out.hl, HA5.out, Wr.refl _ _ _⟩
            case round =>
              clear HA HB HML HLEN HC
              obtain ⟨q, G, bb, hqg, rfl, rfl, HHL, HA, HW⟩ := hrel
              rename World => W6
              have HB6 : Hid (Below W1.heap.size W1 W6) := HB5.out.trans (HW.out.below (Nat.le_refl _) HB5.out.size)
              cases gk with
              | zero =>
                have hqn : q = hnn := by omega
                rw [hqn] at HHL ⊢
                have hz : ¬ ((hnn : Int) < (hnn : Int)) := by omega
                clear hqg hqn
                go_wp2_with fail
                go_roundg g2
                case measure => omega
                case rel => exact ⟨i + 1, G, bb, by omega, rfl, by go_num, HDONE.out G bb HHL.out, HA.out, HB6.out⟩
              | succ g3 =>
                have hq : q < hnn := by omega
                have hq' : (q : Int) < (hnn : Int) := by omega
                obtain ⟨s, hsN, hse, hnx, hnxe⟩ := HH.out q hq
                have HLEN : Hid (G.length = M) := by
                  show _ = _
                  rw [HHL.out.li.len, HMP.out]
                have cq := (World.cell?_of_block (HW.out.block g9 HG9b.out (.inr HG9a.out))).trans (HCELL.out q hq)
                rw [hse] at cq
                have HRI6 : Hid (RI W6 W6.heap.size (.slice A5 N c5) (stA N K i)) := by
                  have h9 := ((HRO.out i hiM).below HB6.out).more HB6.out.size
                  exact (HVI.out ▸ h9)
                have HFI := Lib.hid (specFire_any _ _ (K : Int) s W6 HRI6.out (by rw [HSL.out]; omega) (by omega) hsin.out (by rw [HSL.out]; exact hsN))
                have hYE := HYES.out G bb q hq HHL.out
                have hNE := HNOO.out G bb q hq HHL.out
                have hpos := HHL.out.li.pos R.out.top _ (by rw [← HMP.out]; exact hnx)
                rw [← HMP.out] at hpos
                have HFIN : Hid (InK (fireL (stA N K i) K s) K) := hsin.out.fire (by omega) s (by rw [HSL.out]; exact hsN)
                have HFL : Hid ((fireL (stA N K i) K s).length = N) := by show _ = _; rw [fireL_length, HSL.out]
                obtain ⟨nx, hnxv⟩ : ∃ x, x = nxt N K i q := ⟨_, rfl⟩
                rw [← hnxv] at hnx hnxe hYE hNE hpos
                have HNE := Lib.hid hNE
                have HYE := Lib.hid hYE
                have HNXE := Lib.hid hnxe
                clear hnxv hse hYE hNE hnxe
                have hnx' : (nx : Int) < (M : Int) := by omega
                obtain ⟨y, hyv⟩ : ∃ y, y = G.getD nx 0 := ⟨_, rfl⟩
                obtain ⟨z, hzv⟩ : ∃ z, z = G.getD i 0 := ⟨_, rfl⟩
                rw [← hyv] at hpos HNE HYE
                rw [← hzv] at HNE HYE
                have HYV := Lib.hid hyv
                have HZV := Lib.hid hzv
                clear hyv hzv
                have hsN' : (s : Int) < (N : Int) := by omega
                go_wp2_with fail
                refine HFI.out.mono ?_; rintro e W7 ⟨u7, rfl, ho7, hb7⟩
                have HX := Lib.hid (elIndex_any u7 _ K W7 ho7.ri (by rw [HFL.out]; omega) HK5.out HFIN.out)
                rw [← HNXE.out] at HX
                have HA7 := Lib.hid (HA.out.step hb7)
                have HW7 : Hid (Wr W1.heap.size (W1.heap.size + 1) W5 W7) := HW.out.trans (Wr.of_below hb7 _ _)
                clear ho7 hb7
                go_wp2_with fail
                refine HX.out.mono ?_; rintro e W8 ⟨rfl, hb8⟩
                have HA8 := Lib.hid (HA7.out.step hb8)
                have HW8 : Hid (Wr W1.heap.size (W1.heap.size + 1) W5 W8) := HW7.out.trans (Wr.of_below hb8 _ _)
                obtain ⟨cn, _⟩ := HA8.out.cell HLEN.out nx hnx
                obtain ⟨ci, fi⟩ := HA8.out.cell HLEN.out i hiM
                rw [← HYV.out] at cn
                rw [← HZV.out] at ci
                clear hb8
                by_cases hyz : z < y + 1
                · have HY := Lib.hid (HYE.out hyz)
                  go_wp2_with fail
                  go_roundg g3
                  case measure => omega
                  case rel => exact ⟨q + 1, _, true, by omega, rfl, by go_num, HY.out, HA8.out.put HLEN.out i (y + 1), HW8.out.setCell (p := ⟨W1.heap.size, i, none⟩) (Nat.le_refl _) (Nat.lt_succ_self _) _⟩
                · have HY := Lib.hid (HNE.out (by omega))
                  go_wp2_with fail
                  go_roundg g3
                  case measure => omega
                  case rel => exact ⟨q + 1, G, bb, by omega, rfl, by go_num, HY.out, HA8.out, HW8.out⟩
          · have HONE0 := Lib.hid hone
            unfold oneB at hone
            rw [hsl] at hone
            have HONE := Lib.hid hone
            have HDONE := Lib.hid (HML.out.one R.out HIK.out HONE0.out)
            clear hone hsl
            go_wp2_with fail
            refine HC.out.mono ?_; rintro e W5 ⟨u5, rfl, ho5, hb5⟩
            have HA5 := Lib.hid (HA.out.step hb5)
            have HB5 := Lib.hid (HB.out.trans (hb5.mono HB.out.size))
            obtain ⟨A9, c9, rfl, _, _⟩ := ho5.ri
            clear hb5 ho5
            have hone := HONE.out
            generalize (holdN (stA N K i) N).length = hnn at hone ⊢
            obtain rfl : hnn = 1 := by simp at hone; omega
            clear hone
            go_wp2_with fail
            go_roundg g2
            case measure => omega
            case rel => exact ⟨i + 1, G, bc, by omega, rfl, by go_num, HDONE.out, HA5.out, HB5.out⟩
    · have hz : ¬ ((r : Int) ≤ (M : Int)) := by omega
      have HG : Hid (∀ j, j < M → G.getD j 0 = (f j : Int)) := fun j hj => (by rw [HMP.out] at hj hr; exact HLI.out.full (by omega) R.out.top j hj)
      have HLEN := Lib.hid HLI.out.len
      go_wp2_with fail
      go_loopw [16, 84] (fun u i wr => ∃ j : Nat, j ≤ M ∧ u = .int .i64 (mxN f j : Nat) ∧ i = .int .i64 j ∧ Hid (Acc 3 wr W1.heap.size (.slice (some ⟨W1.heap.size, 0, none⟩) M M) G) ∧ Hid (Below W1.heap.size W1 wr)) (fun _ i _ => M - (intOf i).toNat)
      case atStart => exact ⟨0, Nat.zero_le _, rfl, rfl, HA.out, HB.out⟩
      case round =>
        obtain ⟨j, hj, rfl, rfl, HA2, HB2⟩ := hrel
        rename World => W9
        by_cases hlt : j < M
        · have hcx := (HA2.out.cell (HLEN.out.trans HMP.out.symm) j hlt).1
          rw [HG.out j hlt] at hcx
          have HMO := Lib.hid (elMost_any ((mxN f j : Nat) : Int) ((f j : Nat) : Int) W9)
          have HN := Lib.hid (mxN_step f j)
          have hlt' : (j : Int) < (M : Int) := by omega
          obtain ⟨X, hX⟩ : ∃ X : Int, X = if ((f j : Nat) : Int) < ((mxN f j : Nat) : Int) then ((mxN f j : Nat) : Int) else ((f j : Nat) : Int) := ⟨_, rfl⟩
          rw [← hX] at HMO HN
          clear hX
          generalize f j = y at hcx HMO
          generalize mxN f j = z at HMO ⊢
          go_wp2_with fail
          refine HMO.out.mono ?_; rintro e w' ⟨rfl, rfl⟩
          go_wp2_with fail
          go_roundw
          case rel => exact ⟨j + 1, by omega, by rw [HN.out], by go_num, HA2.out, HB2.out⟩
          case measure => simp [intOf]; omega
        · have hjM : j = M := by omega
          rw [hjM]
          clear hj hlt
          have hz : ¬ ((M : Int) < (M : Int)) := by omega
          go_wp2_with fail
          go_ret2
          exact ⟨rfl, HB0.out.trans (HB2.out.mono HB0.out.size)⟩

end Go.Proofs.Ytgmknndmmpoliaa
