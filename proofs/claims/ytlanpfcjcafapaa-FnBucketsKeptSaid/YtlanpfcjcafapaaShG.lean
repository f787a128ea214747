/-
  Chapter 8: stretches: the list of all of them, the depth that one needs, and the contracts of FirstBreach, both sides.
-/
import Derived.Test.YtlanpfcjcafapaaShA
import Derived.Test.YtlanpfcjcafapaaSStretch
import Derived.Test.YtlanpfcjcafapaaAcc
import Derived.Test.YtlanpfcjcafapaaHeld
import Derived.Deep.LoopGhost
namespace Go.Proofs.Ytlanpfcjcafapaa
open Go.RowKit
set_option maxRecDepth 100000
set_option linter.unusedVariables false

def StV (x : St) : Value := .agg #[.int .i64 x.f, .int .i64 x.l, .int .i64 x.s]
theorem need_bd {r : Int} {x : St} (hr : 1 ≤ r ∧ r ≤ 100) (hx : StIn x) : 0 ≤ r * (x.l - x.f) ∧ r * (x.l - x.f) ≤ 4000 := by
  obtain ⟨⟨h1, h2, h3⟩, h4, h5⟩ := hx
  have h6 : 0 ≤ r * (x.l - x.f) := Int.mul_nonneg (by omega) (by omega)
  have h7 : r * (x.l - x.f) ≤ 100 * (x.l - x.f) := Int.mul_le_mul_of_nonneg_right hr.2 (by omega)
  omega
theorem neededDepth_any (x : St) (r : Int) (w : World) (hr : 1 ≤ r ∧ r ≤ 100) (hx : StIn x) :
    Calls Try.prog 92 #[StV x, .int .i64 r] w (RetV w (.int .i64 (needS r x))) := by
  have hb := need_bd hr hx
  obtain ⟨f, l, s⟩ := x
  obtain ⟨⟨h1, h2, h3⟩, h4, h5⟩ := hx
  simp only [StV, needS] at *
  have hW : Below w.heap.size w (w.alloc (.cells #[.int .i64 f, .int .i64 l, .int .i64 s] 91)) := (Below.refl _ _).alloc (Nat.le_refl _) _
  go_enter Try.func92, Try.ntmps92
  go_wp2_with fail
  go_ret
  exact ⟨rfl, hW⟩
set_option maxHeartbeats 2000000 in
theorem trafficStretches_any (v : Value) (l : List Int) (w : World) (h : RI w w.heap.size v l) (hl : trOk l = true) :
    Calls Try.prog 91 #[v] w (RetStS w (stA l l.length)) := by
  obtain ⟨A, c, rfl, hlc, hc⟩ := h
  obtain ⟨i0, hi, hz0, hz1, hz2⟩ := info_parts stretch_info
  have hlen := trOk_len hl
  have hn' : (l.length : Int) ≤ 40 := by omega
  have HL : Hid (trOk l = true) := hl
  have HC := Lib.hid hc
  have HAT := Lib.hid fun k => trOk_at hl k
  have HSB := Lib.hid fun t k => sumB_in hl t k
  clear hc hl
  go_enter Try.func91, Try.ntmps91
  go_wp2_with fail
  go_loopg [9, 3] l.length (fun g s9 s3 wx => ∃ t : Nat, t + g = l.length ∧ s9 = .int .i64 t ∧ AccK 3 91 wx w.heap.size s3 (stA l t).length (flatSt (stA l t)) ∧ Below w.heap.size w wx)
  case atStart => exact ⟨0, by omega, rfl, AccK.nil _ _ _ _, Below.refl _ _⟩
  case round =>
    obtain ⟨t, htg, rfl, hacc, hb⟩ := hrel
    have HA := Lib.hid hacc
    have HB := Lib.hid hb
    clear hacc hb
    cases gk with
    | zero =>
      have hte : t = l.length := by omega
      rw [hte] at HA ⊢
      have hz : ¬ ((l.length : Int) < (l.length : Int)) := by omega
      clear htg hte
      go_wp2_with fail
      go_ret
      exact ⟨_, rfl, HA.out.ok, HB.out⟩
    | succ g =>
      have ht : t < l.length := by omega
      have ht' : (t : Int) < (l.length : Int) := by omega
      go_wp2_with fail
      go_loopg [6, 5, 3] (t + 1) (fun g2 s6 s5 s3 wx => ∃ k : Nat, k + g2 = t + 1 ∧ s6 = .int .i64 ((t : Int) - k) ∧ s5 = .int .i64 (sumB l t k) ∧ AccK 3 91 wx w.heap.size s3 (stTo l t k).length (flatSt (stTo l t k)) ∧ Below w.heap.size w wx)
      case atStart => exact ⟨0, by omega, by simp, rfl, by rw [stTo_zero]; exact HA.out, HB.out⟩
      case round =>
        clear HA HB
        obtain ⟨k, hkg, rfl, rfl, hacc, hb⟩ := hrel
        have HA := Lib.hid hacc
        have HB := Lib.hid hb
        clear hacc hb
        cases gk with
        | zero =>
          have hke : k = t + 1 := by omega
          rw [hke, stTo_all] at HA
          have hz : ¬ (0 ≤ (t : Int) - (k : Int)) := by omega
          go_wp2_with fail
          go_roundg g
          case measure => omega
          case rel => exact ⟨t + 1, by omega, by go_num, HA.out, HB.out⟩
        | succ g3 =>
          have hk : k ≤ t := by omega
          have hk0 : 0 ≤ (t : Int) - (k : Int) := by omega
          have hk1 : (t : Int) - (k : Int) < (l.length : Int) := by omega
          obtain ⟨b, off, rfl, hbB, hcell⟩ := HC.out (by omega)
          have hcx := (HB.out.cell (p := ⟨b, off + (t - k), none⟩) hbB).trans (hcell (t - k) (by omega))
          have htn : ((t : Int) - (k : Int)).toNat = t - k := by omega
          have hin := HAT.out (t - k)
          have hs := HSB.out t k
          have hs1 := HSB.out t (k + 1)
          have hsb : (1000 : Int) * (k : Int) ≤ 40000 := by omega
          have HSUM : Hid (sumB l t (k + 1) = sumB l t k + l.getD (t - k) 0) := rfl
          have HSTB : Hid (stB l t k = ⟨(t : Int) - k, t, sumB l t (k + 1)⟩) := rfl
          have HSUC := Lib.hid (stTo_succ l t k)
          have hln := stTo_len (l := l) (show t < 40 by omega) (show k ≤ t + 1 by omega)
          have HLN := Lib.hid hln
          clear hcell hln
          obtain ⟨x, hx⟩ : ∃ x, x = l.getD (t - k) 0 := ⟨_, rfl⟩
          rw [← hx] at hcx hin HSUM
          obtain ⟨s, hs9⟩ : ∃ s, s = sumB l t k := ⟨_, rfl⟩
          rw [← hs9] at hs HSUM ⊢
          have hs2 : 0 ≤ s ∧ s ≤ 40000 := by omega
          clear hx hs9 hs1 hs hsb
          go_wp2_with (at_builtin; refine wpList_pushK rfl (.tmp 23) (.tmp 28) 88 rfl 91 i0 Try.underlying88 hi _ 3 24 hz0 hz1 hz2 rfl (by omega) (by omega) wr w w.heap.size _ (stTo l t k).length (flatSt (stTo l t k)) [(t : Int) - k, (t : Int), s + x] _ rfl rfl rfl rfl HA.out rfl (by have := HLN.out; omega) HB.out.size HB.out ?_; intro v3 w3 ha3 hb3; have HA3 := Lib.hid ha3; have HB3 := Lib.hid hb3; clear ha3 hb3)
          go_roundg g3
          case measure => omega
          case rel =>
            refine ⟨k + 1, by omega, by go_num, by rw [HSUM.out], ?_, HB3.out⟩
            rw [HSUC.out, HSTB.out, HSUM.out]
            simpa [flatSt, StV] using HA3.out

theorem split_at (L : List St) (i : Nat) (hi : i < L.length) : L = L.take i ++ [L[i]!] ++ L.drop (i + 1) := by
  rw [getElem!_pos L i hi, List.append_assoc, List.singleton_append, ← List.drop_eq_getElem_cons hi, List.take_append_drop]
theorem find_hit {p : St → Bool} {L : List St} {i : Nat} (hi : i < L.length) (h : (L.take i).find? p = none) (hx : p L[i]! = true) : L.find? p = some L[i]! := by
  rw [split_at L i hi]
  have e : (L.take i ++ [L[i]!] ++ L.drop (i + 1))[i]! = L[i]! := by rw [← split_at L i hi]
  rw [e]
  exact find_pre h hx
theorem take_at (L : List St) (i : Nat) (hi : i < L.length) : L.take (i + 1) = L.take i ++ [L[i]!] := by
  rw [getElem!_pos L i hi, List.take_succ_eq_append_getElem hi]
theorem find_go {p : St → Bool} {L : List St} {i : Nat} (hi : i < L.length) (h : (L.take i).find? p = none) (hx : p L[i]! = false) : (L.take (i + 1)).find? p = none := by
  rw [take_at L i hi]
  exact find_snoc h hx
theorem at_in {P : St → Prop} {L : List St} {i : Nat} (hi : i < L.length) (h : ∀ x ∈ L, P x) : P L[i]! := by
  rw [getElem!_pos L i hi]
  exact h _ (List.getElem_mem hi)
set_option maxHeartbeats 2000000 in
theorem implFirstBreach_any (v : Value) (x : Bu) (l : List Int) (w : World) (h : RI w w.heap.size v l) (hn : l.length ≤ 1048576) :
    Calls Try.prog 37 #[BuV x, v] w (RetLB 3 w (brSays x l).1 (brSays x l).2) := by
  have H1 : Hid (∀ w', Below w.heap.size w w' → Calls Try.prog 73 #[BuV x, v] w' (RetV w' (.bool (askOk x l)))) := fun w' hb => implAsk_any x v l w' ((h.below hb).more hb.size) hn
  cases hg : askOk x l
  · rw [show brSays x l = ([], false) from by simp [brSays, hg]]
    rw [hg] at H1
    clear h hg
    obtain ⟨r, d⟩ := x
    simp only [BuV] at H1 ⊢
    have hW : Below w.heap.size w (w.alloc (.cells #[.int .i64 r, .int .i64 d] 36)) := (Below.refl _ _).alloc (Nat.le_refl _) _
    go_enter Try.func37, Try.ntmps37
    go_wp2_with fail
    refine (H1.out _ hW).mono ?_; rintro e w1 ⟨rfl, hb⟩
    have hT := hW.trans (hb.mono hW.size)
    go_wp2_with fail
    go_ret2
    exact ⟨_, rfl, .inl ⟨rfl, none, 0, rfl, by simp, fun _ => rfl⟩, hT⟩
  have hq := askOk_in hg
  have hin := buOk_in hq.1
  have H2 : Hid (∀ w', Below w.heap.size w w' → Calls Try.prog 91 #[v] w' (RetStS w' (stA l l.length))) := fun w' hb => trafficStretches_any v l w' ((h.below hb).more hb.size) hq.2
  rw [show brSays x l = optS ((stA l l.length).find? (brP x)) from by simp [brSays, hg]]
  rw [hg] at H1
  have HLIN := Lib.hid (stA_in hq.2 (Nat.le_refl l.length))
  have hll := stA_len (l := l) (trOk_len hq.2)
  obtain ⟨L, hL⟩ : ∃ L, L = stA l l.length := ⟨_, rfl⟩
  rw [← hL] at H2 HLIN hll ⊢
  obtain ⟨R, hR⟩ : ∃ R, R = optS (L.find? (brP x)) := ⟨_, rfl⟩
  rw [← hR]
  have HR := Lib.hid hR
  clear hL hg hq h hR
  obtain ⟨r, d⟩ := x
  simp only [BuV] at H1 H2 hin ⊢
  have hll' : (L.length : Int) ≤ 1640 := by omega
  have hW : Below w.heap.size w (w.alloc (.cells #[.int .i64 r, .int .i64 d] 36)) := (Below.refl _ _).alloc (Nat.le_refl _) _
  have hbk := BK.made w 36 #[.int .i64 r, .int .i64 d]
  go_enter Try.func37, Try.ntmps37
  go_wp2_with fail
  refine (H1.out _ hW).mono ?_; rintro e w1 ⟨rfl, hb⟩
  have hT := hW.trans (hb.mono hW.size)
  have hbk1 := hbk.step hb
  have HT := Lib.hid hT
  clear hbk hb hT
  go_wp2_with fail
  refine (H2.out _ HT.out).mono ?_; rintro e w2 ⟨u, rfl, ho, hb2⟩
  have HT2 : Hid (Below w.heap.size w w2) := HT.out.trans (hb2.mono HT.out.size)
  have HBK := Lib.hid (hbk1.step hb2)
  have hrd : RStS w2 w2.heap.size u L := OK.rk ho
  have h0 := hrd
  obtain ⟨A2, c2, rfl, hfl, hlc2, _⟩ := hrd
  obtain ⟨_, _, _, hcells⟩ := h0.parts
  have HCE := Lib.hid hcells
  clear hbk1 hb2 ho h0 hcells hfl
  go_wp2_with fail
  go_loopg [15] L.length (fun g s15 wx => ∃ i : Nat, i + g = L.length ∧ s15 = .int .i64 i ∧ (L.take i).find? (brP ⟨r, d⟩) = none ∧ Below w2.heap.size w2 wx)
  case atStart => exact ⟨0, by omega, rfl, rfl, Below.refl _ _⟩
  case round =>
    obtain ⟨i, hig, rfl, hnone, hb⟩ := hrel
    have HN := Lib.hid hnone
    have HB := Lib.hid hb
    clear hnone hb
    cases gk with
    | zero =>
      have hie : i = L.length := by omega
      have hz : ¬ ((i : Int) < (L.length : Int)) := by omega
      have HRR : Hid (R = ([], false)) := by
        show _ = _
        rw [HR.out]
        have := HN.out
        rw [hie, List.take_length] at this
        rw [this]
        rfl
      clear hie
      go_wp2_with fail
      go_ret2
      rw [HRR.out]
      exact ⟨_, rfl, .inl ⟨rfl, none, 0, rfl, by simp, fun _ => rfl⟩, HT2.out.trans (HB.out.mono HT2.out.size)⟩
    | succ g =>
      have hi : i < L.length := by omega
      have hi' : (i : Int) < (L.length : Int) := by omega
      obtain ⟨b, off, rfl, hbB, hcell⟩ := HCE.out (by omega)
      obtain ⟨hd0, hd1, hd2⟩ := hcell i hi
      have e0 := (HB.out.cell (p := ⟨b, off + i * 3, none⟩) hbB).trans hd0
      have e1 := (HB.out.cell (p := ⟨b, off + i * 3 + 1, none⟩) hbB).trans hd1
      have e2 := (HB.out.cell (p := ⟨b, off + i * 3 + 2, none⟩) hbB).trans hd2
      have HST := Lib.hid (at_in hi HLIN.out)
      have HHIT := Lib.hid fun hx => find_hit (p := brP ⟨r, d⟩) hi HN.out hx
      have HGO := Lib.hid fun hx => find_go hi HN.out hx
      clear hcell hd0 hd1 hd2
      obtain ⟨y, hy⟩ : ∃ y, y = L[i]! := ⟨_, rfl⟩
      rw [← hy] at e0 e1 e2 HST HHIT HGO
      have HND := Lib.hid fun W => neededDepth_any y r W hin.1 HST.out
      have hnd := needS_in (x := y) hin.1 HST.out
      have hbr : brP ⟨r, d⟩ y = decide (d < needS r y) := rfl
      rw [hbr] at HHIT HGO
      obtain ⟨n, hn9⟩ : ∃ n, n = needS r y := ⟨_, rfl⟩
      rw [← hn9] at HND HHIT HGO hnd
      clear hy hn9 hbr
      obtain ⟨yf, yl, ys⟩ := y
      simp only [StV] at e0 e1 e2 HND HHIT
      have HBW := Lib.hid (HBK.out.step HB.out)
      have hz1 := HBW.out.1
      have HW3 : Hid (Below w.heap.size w (wr.alloc (.cells #[.int .i64 yf, .int .i64 yl, .int .i64 ys] 91))) := (HT2.out.trans (HB.out.mono HT2.out.size)).alloc (by omega) _
      have hbk3 := HBW.out.alloc (.cells #[.int .i64 yf, .int .i64 yl, .int .i64 ys] 91)
      have hs3 := BK.made wr 91 #[.int .i64 yf, .int .i64 yl, .int .i64 ys]
      have hbr2 : Below w2.heap.size w2 (wr.alloc (.cells #[.int .i64 yf, .int .i64 yl, .int .i64 ys] 91)) := HB.out.alloc HB.out.size _
      obtain ⟨W3, hW3⟩ : ∃ W3, W3 = wr.alloc (.cells #[.int .i64 yf, .int .i64 yl, .int .i64 ys] 91) := ⟨_, rfl⟩
      rw [← hW3] at hbk3 hs3 HW3 hbr2
      have q0 := hbk3.cell 0
      have q1 := hbk3.cell 1
      have q2 := hs3.cell 0
      have q3 := hs3.cell 1
      have q4 := hs3.cell 2
      simp at q0 q1 q2 q3 q4
      have lz0 := hbk3.1
      have lz1 := hs3.1
      have HW9 := Lib.hid hW3
      have HBR2 := Lib.hid hbr2
      clear hbk3 hs3 hW3 hbr2
      by_cases hdn : d < n
      · have HRR : Hid (R = ([yf, yl], true)) := by
          show _ = _
          rw [HR.out, HHIT.out (by simpa using hdn)]
          rfl
        go_upto_region 6 with fail
        rw [← HW9.out]
        have a0 := fun (s : HW W3) => HW.cellIs (p := ⟨w.heap.size, 0, none⟩) q0 lz0 s
        have a1 := fun (s : HW W3) => HW.cellIs (p := ⟨w.heap.size, 1, none⟩) q1 lz0 s
        have a2 := fun (s : HW W3) => HW.cellIs (p := ⟨wr.heap.size, 0, none⟩) q2 lz1 s
        have a3 := fun (s : HW W3) => HW.cellIs (p := ⟨wr.heap.size, 1, none⟩) q3 lz1 s
        have a4 := fun (s : HW W3) => HW.cellIs (p := ⟨wr.heap.size, 2, none⟩) q4 lz1 s
        clear q0 q1
        refine wp_region_held_lit (by kernel_rfl) (by kernel_rfl) ?_
        repeat (go_big_quiet_step ((first | (go_at_call 92; with_reducible exact held_call _ (HND.out _)))))
        refine wpQuiet_nil ?_
        intro _ hw'
        obtain ⟨s6, hw''⟩ := hw'
        subst hw''
        have hb6 := s6.bel
        have z0 := a2 s6
        have z1 := a3 s6
        clear a0 a1 a2 a3 a4
        obtain ⟨w6, hw6⟩ : ∃ w6, s6.W = w6 := ⟨_, rfl⟩
        rw [hw6] at hb6 z0 z1 ⊢
        clear hw6 s6
        go_wp2_with fail
        go_ret2
        rw [HRR.out]
        have hT6 := HW3.out.trans (hb6.mono HW3.out.size)
        exact ⟨_, rfl, .inr ⟨_, 2, rfl, hT6.size, by simp, ⟨rfl, .inr ⟨_, 2, _, rfl, hT6.size, heap_alloc_new w6 _, Nat.le_refl _, by unfold maxLen; omega, rfl, rfl⟩⟩⟩, hT6.alloc hT6.size _⟩
      · have HGO2 := Lib.hid (HGO.out (by simpa using hdn))
        have hdn2 : n ≤ d := by omega
        go_upto_region 6 with fail
        rw [← HW9.out]
        have a0 := fun (s : HW W3) => HW.cellIs (p := ⟨w.heap.size, 0, none⟩) q0 lz0 s
        have a1 := fun (s : HW W3) => HW.cellIs (p := ⟨w.heap.size, 1, none⟩) q1 lz0 s
        have a2 := fun (s : HW W3) => HW.cellIs (p := ⟨wr.heap.size, 0, none⟩) q2 lz1 s
        have a3 := fun (s : HW W3) => HW.cellIs (p := ⟨wr.heap.size, 1, none⟩) q3 lz1 s
        have a4 := fun (s : HW W3) => HW.cellIs (p := ⟨wr.heap.size, 2, none⟩) q4 lz1 s
        clear q0 q1
        refine wp_region_held_lit (by kernel_rfl) (by kernel_rfl) ?_
        repeat (go_big_quiet_step ((first | (go_at_call 92; with_reducible exact held_call _ (HND.out _)))))
        refine wpQuiet_nil ?_
        intro _ hw'
        obtain ⟨s6, hw''⟩ := hw'
        subst hw''
        have hb6 := s6.bel
        have z0 := a2 s6
        have z1 := a3 s6
        clear a0 a1 a2 a3 a4
        obtain ⟨w6, hw6⟩ : ∃ w6, s6.W = w6 := ⟨_, rfl⟩
        rw [hw6] at hb6 z0 z1 ⊢
        clear hw6 s6
        go_wp2_with fail
        go_roundg g
        case measure => omega
        case rel => exact ⟨i + 1, by omega, by go_num, HGO2.out, HBR2.out.trans (hb6.mono HBR2.out.size)⟩

end Go.Proofs.Ytlanpfcjcafapaa
