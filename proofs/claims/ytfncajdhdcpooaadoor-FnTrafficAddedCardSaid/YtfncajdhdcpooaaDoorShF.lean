/-
  Chapter 8: the contracts of AddTraffic, both sides.
-/
import Derived.Test.YtfncajdhdcpooaaDoorShA
import Derived.Test.YtfncajdhdcpooaaDoorRow5
import Derived.Deep.LoopGhost
namespace Go.Proofs.YtfncajdhdcpooaaDoor
open Go.RowKit
set_option maxRecDepth 100000
set_option linter.unusedVariables false

theorem getD_end {l : List Int} {k : Nat} (h : ¬ k < l.length) : l.getD k 0 = 0 := by simp [List.getD, Nat.not_lt.1 h]
theorem comingAt_any (k : Nat) (v : Value) (l : List Int) (w : World) (h : RI w w.heap.size v l) (hn : l.length ≤ 1048576) (hk : k ≤ 1048576) :
    Calls Tryd.prog 26 #[.int .i64 (k : Int), v] w fun e w' => e = .returned (.int .i64 (l.getD k 0)) ∧ w = w' := by
  obtain ⟨A, c, rfl, hlc, hc⟩ := h
  have hn' : (l.length : Int) ≤ 1048576 := by omega
  by_cases hlt : k < l.length
  · obtain ⟨b, off, rfl, hbB, hcell⟩ := hc (by omega)
    have hcx := hcell k hlt
    have hlt' : (k : Int) < (l.length : Int) := by omega
    clear hcell hc
    generalize l.getD k 0 = x at hcx ⊢
    go_enter Tryd.func26, Tryd.ntmps26
    go_wp2_with fail
    go_ret
    exact ⟨rfl, rfl⟩
  · rw [getD_end hlt]
    have hlt' : ¬ ((k : Int) < (l.length : Int)) := by omega
    clear hc
    go_enter Tryd.func26, Tryd.ntmps26
    go_wp2_with fail
    go_ret
    exact ⟨rfl, rfl⟩
set_option maxHeartbeats 2000000 in
theorem implAddTraffic_any (v u : Value) (a b : List Int) (w : World) (h : RI w w.heap.size v a) (h' : RI w w.heap.size u b) (hn : a.length ≤ 1048576) (hm : b.length ≤ 1048576) :
    Calls Tryd.prog 6 #[v, u] w (RetLB 3 w (addSays a b).1 (addSays a b).2) := by
  have H1 := Lib.hid (implTraffic_any v a w h hn)
  have H2 := Lib.hid (implTraffic_any u b w h' hm)
  have HR1 := Lib.hid h
  have HR2 := Lib.hid h'
  obtain ⟨A, c, rfl, hlc, hc⟩ := h
  obtain ⟨A', c', rfl, hlc', hc'⟩ := h'
  clear hc hc'
  cases g1 : trOk a
  · rw [show addSays a b = ([], false) from by simp [addSays, g1]]
    rw [g1] at H1
    clear g1
    go_enter Tryd.func6, Tryd.ntmps6
    go_wp2_with fail
    refine H1.out.mono ?_; rintro e w' ⟨rfl, rfl⟩
    go_wp2_with fail
    go_ret2
    exact ⟨_, rfl, .inl ⟨rfl, none, 0, rfl, by simp, fun _ => rfl⟩, Below.refl _ _⟩
  cases g2 : trOk b
  · rw [show addSays a b = ([], false) from by simp [addSays, g2]]
    rw [g1] at H1
    rw [g2] at H2
    clear g1 g2
    go_enter Tryd.func6, Tryd.ntmps6
    go_wp2_with fail
    refine H1.out.mono ?_; rintro e w' ⟨rfl, rfl⟩
    go_wp2_with fail
    refine H2.out.mono ?_; rintro e w' ⟨rfl, rfl⟩
    go_wp2_with fail
    go_ret2
    exact ⟨_, rfl, .inl ⟨rfl, none, 0, rfl, by simp, fun _ => rfl⟩, Below.refl _ _⟩
  have hal := trOk_len g1
  have hbl := trOk_len g2
  have HIA := Lib.hid fun k => trOk_at g1 k
  have HIB := Lib.hid fun k => trOk_at g2 k
  rw [show addSays a b = if trOk (addL a b) = true then (addL a b, true) else ([], false) from by simp [addSays, g1, g2]]
  rw [g1] at H1
  rw [g2] at H2
  obtain ⟨i0, hi, hz0, hz1, hz2⟩ := info_parts int_info
  obtain ⟨M, hM⟩ : ∃ M, M = max a.length b.length := ⟨_, rfl⟩
  have hML : addL a b = addT a b M := by rw [hM]; rfl
  rw [hML]
  have hMI : max (a.length : Int) (b.length : Int) = (M : Int) := by omega
  have hM40 : M ≤ 40 := by omega
  have hM40' : (M : Int) ≤ 40 := by omega
  have hal' : (a.length : Int) ≤ 40 := by omega
  have hbl' : (b.length : Int) ≤ 40 := by omega
  have HM := Lib.hid hM
  obtain ⟨R, hR⟩ : ∃ R, R = (if trOk (addT a b M) = true then (addT a b M, true) else ([], false)) := ⟨_, rfl⟩
  rw [← hR]
  have HRE := Lib.hid hR
  clear g1 g2 hML hM hR
  rcases Nat.lt_or_ge a.length b.length with hab | hab
  · obtain rfl : M = b.length := by have := HM.out; omega
    have hab' : (a.length : Int) < (b.length : Int) := by omega
    clear hMI HM
    go_enter Tryd.func6, Tryd.ntmps6
    go_wp2_with fail
    refine H1.out.mono ?_; rintro e w' ⟨rfl, rfl⟩
    go_wp2_with fail
    refine H2.out.mono ?_; rintro e w' ⟨rfl, rfl⟩
    go_wp2_with (at_make; refine wpList_make_full _ rfl _ _ 24 rfl w.heap.size 3 i0 _ 1 Tryd.underlying24 hi hz0 hz1 _ _ _ _ _ rfl rfl rfl rfl (by rw [hz2]; omega) (by unfold maxLen; omega) (Nat.le_refl _) ?_; intro w2 hown hg)
    have hrc : RC w2 w.heap.size b.length (addP a b b.length 0) := by
      have h1 := RC.made hown
      rw [addP_zero]
      exact h1
    have hb2 : Below w.heap.size w w2 := (Below.refl _ _).grown hg (Nat.le_refl _) (by intro k hk; cases hk)
    have HRC := Lib.hid hrc
    have HB2 := Lib.hid hb2
    clear hown hg hrc hb2
    go_wp2_with fail
    go_loopg [24] b.length (fun g s24 wx => ∃ k : Nat, k + g = b.length ∧ s24 = .int .i64 k ∧ RC wx w.heap.size b.length (addP a b b.length k) ∧ Below w.heap.size w wx)
    case atStart => exact ⟨0, by omega, rfl, HRC.out, HB2.out⟩
    case round =>
      clear HRC HB2
      obtain ⟨k, hkg, rfl, hrc, hb⟩ := hrel
      have HRC := Lib.hid hrc
      have HB := Lib.hid hb
      have HGR : Hid (w.heap.size < wr.heap.size) := hrc.lt
      clear hrc hb
      cases gk with
      | zero =>
        have hke : k = b.length := by omega
        rw [hke] at HRC ⊢
        have hz : ¬ ((b.length : Int) < (b.length : Int)) := by omega
        have HO : Hid (OI 3 wr w.heap.size wr.heap.size (.slice (some ⟨w.heap.size, 0, none⟩) b.length b.length) (addT a b b.length)) := by
          have h9 := HRC.out.oi (lo := w.heap.size) (hi := wr.heap.size) (Nat.le_refl _) (Nat.le_refl _)
          rw [addP_all, addT_length] at h9
          exact h9
        have HT := Lib.hid (implTraffic_any _ _ wr HO.out.ri (by rw [addT_length]; omega))
        clear hkg hke
        cases g3 : trOk (addT a b b.length)
        · rw [g3] at HT
          have HRR : Hid (R = ([], false)) := by show _ = _; rw [HRE.out, g3]; rfl
          clear g3
          go_wp2_with fail
          refine HT.out.mono ?_; rintro e w' ⟨rfl, rfl⟩
          go_wp2_with fail
          go_ret2
          rw [HRR.out]
          exact ⟨_, rfl, .inl ⟨rfl, none, 0, rfl, by simp, fun _ => rfl⟩, HB.out⟩
        · rw [g3] at HT
          have HRR : Hid (R = (addT a b b.length, true)) := by show _ = _; rw [HRE.out, g3]; rfl
          clear g3
          go_wp2_with fail
          refine HT.out.mono ?_; rintro e w' ⟨rfl, rfl⟩
          go_wp2_with fail
          go_ret2
          rw [HRR.out]
          exact ⟨_, rfl, HO.out, HB.out⟩
      | succ g =>
        have hk : k < b.length := by omega
        have hk' : (k : Int) < (b.length : Int) := by omega
        have hr1 := (HR1.out.below HB.out).more HB.out.size
        have hr2 := (HR2.out.below HB.out).more HB.out.size
        have HC1 := Lib.hid (comingAt_any k _ a wr hr1 (by omega) (by omega))
        have HC2 := Lib.hid (comingAt_any k _ b wr hr2 (by omega) (by omega))
        have hia := HIA.out k
        have hib := HIB.out k
        have HSET := Lib.hid (addP_set a b b.length k hk)
        have HLN := Lib.hid (addP_length a b b.length k (by omega))
        have hcx : wr.cell? ⟨w.heap.size, k, none⟩ = some (.int .i64 ((addP a b b.length k).getD k 0)) := HRC.out.cell k (by rw [HLN.out]; exact hk)
        have hfz : wr.frozen? ⟨w.heap.size, k, none⟩ = false := HRC.out.free k
        generalize (addP a b b.length k).getD k 0 = u0 at hcx
        obtain ⟨x, hx⟩ : ∃ x, x = a.getD k 0 := ⟨_, rfl⟩
        obtain ⟨y, hy⟩ : ∃ y, y = b.getD k 0 := ⟨_, rfl⟩
        rw [← hx] at HC1 hia HSET
        rw [← hy] at HC2 hib HSET
        clear hr1 hr2 hx hy
        go_wp2_with fail
        refine HC1.out.mono ?_; rintro e w' ⟨rfl, rfl⟩
        go_wp2_with fail
        refine HC2.out.mono ?_; rintro e w' ⟨rfl, rfl⟩
        go_wp2_with fail
        go_roundg g
        case measure => omega
        case rel =>
          have hs := HRC.out.set k (x + y)
          rw [HSET.out] at hs
          have hw4 : Wr w.heap.size (w.heap.size + 1) wr (wr.setCell ⟨w.heap.size, k, none⟩ (.int .i64 (x + y))) := (Wr.refl w.heap.size (w.heap.size + 1) wr).setCell (p := ⟨w.heap.size, k, none⟩) (Nat.le_refl _) (Nat.lt_succ_self _) _
          exact ⟨k + 1, by omega, by go_num, hs, HB.out.trans (hw4.below (Nat.le_refl _) HB.out.size)⟩
  · obtain rfl : M = a.length := by have := HM.out; omega
    have hab' : ¬ ((a.length : Int) < (b.length : Int)) := by omega
    have hab2 : (b.length : Int) ≤ (a.length : Int) := by omega
    clear hMI HM
    go_enter Tryd.func6, Tryd.ntmps6
    go_wp2_with fail
    refine H1.out.mono ?_; rintro e w' ⟨rfl, rfl⟩
    go_wp2_with fail
    refine H2.out.mono ?_; rintro e w' ⟨rfl, rfl⟩
    go_wp2_with (at_make; refine wpList_make_full _ rfl _ _ 24 rfl w.heap.size 3 i0 _ 1 Tryd.underlying24 hi hz0 hz1 _ _ _ _ _ rfl rfl rfl rfl (by rw [hz2]; omega) (by unfold maxLen; omega) (Nat.le_refl _) ?_; intro w2 hown hg)
    have hrc : RC w2 w.heap.size a.length (addP a b a.length 0) := by
      have h1 := RC.made hown
      rw [addP_zero]
      exact h1
    have hb2 : Below w.heap.size w w2 := (Below.refl _ _).grown hg (Nat.le_refl _) (by intro k hk; cases hk)
    have HRC := Lib.hid hrc
    have HB2 := Lib.hid hb2
    clear hown hg hrc hb2
    go_wp2_with fail
    go_loopg [24] a.length (fun g s24 wx => ∃ k : Nat, k + g = a.length ∧ s24 = .int .i64 k ∧ RC wx w.heap.size a.length (addP a b a.length k) ∧ Below w.heap.size w wx)
    case atStart => exact ⟨0, by omega, rfl, HRC.out, HB2.out⟩
    case round =>
      clear HRC HB2
      obtain ⟨k, hkg, rfl, hrc, hb⟩ := hrel
      have HRC := Lib.hid hrc
      have HB := Lib.hid hb
      have HGR : Hid (w.heap.size < wr.heap.size) := hrc.lt
      clear hrc hb
      cases gk with
      | zero =>
        have hke : k = a.length := by omega
        rw [hke] at HRC ⊢
        have hz : ¬ ((a.length : Int) < (a.length : Int)) := by omega
        have HO : Hid (OI 3 wr w.heap.size wr.heap.size (.slice (some ⟨w.heap.size, 0, none⟩) a.length a.length) (addT a b a.length)) := by
          have h9 := HRC.out.oi (lo := w.heap.size) (hi := wr.heap.size) (Nat.le_refl _) (Nat.le_refl _)
          rw [addP_all, addT_length] at h9
          exact h9
        have HT := Lib.hid (implTraffic_any _ _ wr HO.out.ri (by rw [addT_length]; omega))
        clear hkg hke
        cases g3 : trOk (addT a b a.length)
        · rw [g3] at HT
          have HRR : Hid (R = ([], false)) := by show _ = _; rw [HRE.out, g3]; rfl
          clear g3
          go_wp2_with fail
          refine HT.out.mono ?_; rintro e w' ⟨rfl, rfl⟩
          go_wp2_with fail
          go_ret2
          rw [HRR.out]
          exact ⟨_, rfl, .inl ⟨rfl, none, 0, rfl, by simp, fun _ => rfl⟩, HB.out⟩
        · rw [g3] at HT
          have HRR : Hid (R = (addT a b a.length, true)) := by show _ = _; rw [HRE.out, g3]; rfl
          clear g3
          go_wp2_with fail
          refine HT.out.mono ?_; rintro e w' ⟨rfl, rfl⟩
          go_wp2_with fail
          go_ret2
          rw [HRR.out]
          exact ⟨_, rfl, HO.out, HB.out⟩
      | succ g =>
        have hk : k < a.length := by omega
        have hk' : (k : Int) < (a.length : Int) := by omega
        have hr1 := (HR1.out.below HB.out).more HB.out.size
        have hr2 := (HR2.out.below HB.out).more HB.out.size
        have HC1 := Lib.hid (comingAt_any k _ a wr hr1 (by omega) (by omega))
        have HC2 := Lib.hid (comingAt_any k _ b wr hr2 (by omega) (by omega))
        have hia := HIA.out k
        have hib := HIB.out k
        have HSET := Lib.hid (addP_set a b a.length k hk)
        have HLN := Lib.hid (addP_length a b a.length k (by omega))
        have hcx : wr.cell? ⟨w.heap.size, k, none⟩ = some (.int .i64 ((addP a b a.length k).getD k 0)) := HRC.out.cell k (by rw [HLN.out]; exact hk)
        have hfz : wr.frozen? ⟨w.heap.size, k, none⟩ = false := HRC.out.free k
        generalize (addP a b a.length k).getD k 0 = u0 at hcx
        obtain ⟨x, hx⟩ : ∃ x, x = a.getD k 0 := ⟨_, rfl⟩
        obtain ⟨y, hy⟩ : ∃ y, y = b.getD k 0 := ⟨_, rfl⟩
        rw [← hx] at HC1 hia HSET
        rw [← hy] at HC2 hib HSET
        clear hr1 hr2 hx hy
        go_wp2_with fail
        refine HC1.out.mono ?_; rintro e w' ⟨rfl, rfl⟩
        go_wp2_with fail
        refine HC2.out.mono ?_; rintro e w' ⟨rfl, rfl⟩
        go_wp2_with fail
        go_roundg g
        case measure => omega
        case rel =>
          have hs := HRC.out.set k (x + y)
          rw [HSET.out] at hs
          have hw4 : Wr w.heap.size (w.heap.size + 1) wr (wr.setCell ⟨w.heap.size, k, none⟩ (.int .i64 (x + y))) := (Wr.refl w.heap.size (w.heap.size + 1) wr).setCell (p := ⟨w.heap.size, k, none⟩) (Nat.le_refl _) (Nat.lt_succ_self _) _
          exact ⟨k + 1, by omega, by go_num, hs, HB.out.trans (hw4.below (Nat.le_refl _) HB.out.size)⟩
set_option maxHeartbeats 2000000 in
theorem specAddTraffic_any (v u : Value) (a b : List Int) (w : World) (h : RI w w.heap.size v a) (h' : RI w w.heap.size u b) (hn : a.length ≤ 1048576) (hm : b.length ≤ 1048576) :
    Calls Tryd.prog 7 #[v, u] w (RetLB 3 w (addSays a b).1 (addSays a b).2) := by
  have H1 := Lib.hid (shTraffic_any v a w h hn)
  have H2 := Lib.hid (shTraffic_any u b w h' hm)
  have HR1 := Lib.hid h
  have HR2 := Lib.hid h'
  obtain ⟨A, c, rfl, hlc, hc⟩ := h
  obtain ⟨A', c', rfl, hlc', hc'⟩ := h'
  have HCA := Lib.hid hc
  have HCB := Lib.hid hc'
  clear hc hc'
  cases g1 : trOk a
  · rw [show addSays a b = ([], false) from by simp [addSays, g1]]
    rw [g1] at H1
    clear g1
    go_enter Tryd.func7, Tryd.ntmps7
    go_wp2_with fail
    refine H1.out.mono ?_; rintro e w' ⟨rfl, rfl⟩
    go_wp2_with fail
    go_ret2
    exact ⟨_, rfl, .inl ⟨rfl, none, 0, rfl, by simp, fun _ => rfl⟩, Below.refl _ _⟩
  cases g2 : trOk b
  · rw [show addSays a b = ([], false) from by simp [addSays, g2]]
    rw [g1] at H1
    rw [g2] at H2
    clear g1 g2
    go_enter Tryd.func7, Tryd.ntmps7
    go_wp2_with fail
    refine H1.out.mono ?_; rintro e w' ⟨rfl, rfl⟩
    go_wp2_with fail
    refine H2.out.mono ?_; rintro e w' ⟨rfl, rfl⟩
    go_wp2_with fail
    go_ret2
    exact ⟨_, rfl, .inl ⟨rfl, none, 0, rfl, by simp, fun _ => rfl⟩, Below.refl _ _⟩
  have hal := trOk_len g1
  have hbl := trOk_len g2
  have HIA := Lib.hid fun k => trOk_at g1 k
  have HIB := Lib.hid fun k => trOk_at g2 k
  rw [show addSays a b = if trOk (addL a b) = true then (addL a b, true) else ([], false) from by simp [addSays, g1, g2]]
  rw [g1] at H1
  rw [g2] at H2
  obtain ⟨i0, hi, hz0, hz1, hz2⟩ := info_parts int_info
  obtain ⟨M, hM⟩ : ∃ M, M = max a.length b.length := ⟨_, rfl⟩
  have hML : addL a b = addT a b M := by rw [hM]; rfl
  rw [hML]
  have hMI : max (a.length : Int) (b.length : Int) = (M : Int) := by omega
  have hM40 : M ≤ 40 := by omega
  have hM40' : (M : Int) ≤ 40 := by omega
  have hal' : (a.length : Int) ≤ 40 := by omega
  have hbl' : (b.length : Int) ≤ 40 := by omega
  have HM := Lib.hid hM
  obtain ⟨R, hR⟩ : ∃ R, R = (if trOk (addT a b M) = true then (addT a b M, true) else ([], false)) := ⟨_, rfl⟩
  rw [← hR]
  have HRE := Lib.hid hR
  clear g1 g2 hML hM hR
  clear hMI
  go_enter Tryd.func7, Tryd.ntmps7
  go_wp2_with fail
  refine H1.out.mono ?_; rintro e w' ⟨rfl, rfl⟩
  go_wp2_with fail
  refine H2.out.mono ?_; rintro e w' ⟨rfl, rfl⟩
  go_wp2_with fail
  go_loopg [7, 6] M (fun g s7 s6 wx => ∃ k : Nat, k + g = M ∧ s7 = .int .i64 k ∧ Acc 3 wx w.heap.size s6 (addT a b k) ∧ Below w.heap.size w wx)
  case atStart => exact ⟨0, by omega, rfl, Acc.nil _ _ _, Below.refl _ _⟩
  case round =>
    obtain ⟨k, hkg, rfl, hacc, hb⟩ := hrel
    have HA := Lib.hid hacc
    have HB := Lib.hid hb
    clear hacc hb
    cases gk with
    | zero =>
      obtain rfl : k = M := by omega
      have hm := HM.out
      have hz1' : ¬ ((k : Int) < (a.length : Int)) := by omega
      have hz2' : ¬ ((k : Int) < (b.length : Int)) := by omega
      have HO := Lib.hid HA.out.oi
      have HT := Lib.hid (shTraffic_any _ (addT a b k) wr HO.out.ri (by rw [addT_length]; omega))
      clear hm
      cases g3 : trOk (addT a b k)
      · rw [g3] at HT
        have HRR : Hid (R = ([], false)) := by show _ = _; rw [HRE.out, g3]; rfl
        clear g3
        go_wp2_with fail
        refine HT.out.mono ?_; rintro e w' ⟨rfl, rfl⟩
        go_wp2_with fail
        go_ret2
        rw [HRR.out]
        exact ⟨_, rfl, .inl ⟨rfl, none, 0, rfl, by simp, fun _ => rfl⟩, HB.out⟩
      · rw [g3] at HT
        have HRR : Hid (R = (addT a b k, true)) := by show _ = _; rw [HRE.out, g3]; rfl
        clear g3
        go_wp2_with fail
        refine HT.out.mono ?_; rintro e w' ⟨rfl, rfl⟩
        go_wp2_with fail
        go_ret2
        rw [HRR.out]
        exact ⟨_, rfl, HO.out, HB.out⟩
    | succ g =>
      have hk : k < a.length ∨ k < b.length := by have := HM.out; omega
      have hk40 : k ≤ 40 := by omega
      have hk40' : (k : Int) ≤ 40 := by omega
      have hia := HIA.out k
      have hib := HIB.out k
      have HSUC := Lib.hid (addT_succ a b k)
      have hln : (addT a b k).length < 1000000000 := by rw [addT_length]; omega
      have HLN := Lib.hid hln
      clear hln
      by_cases hka : k < a.length
      · by_cases hkb : k < b.length
        · have hka' : (k : Int) < (a.length : Int) := by omega
          have hkb' : (k : Int) < (b.length : Int) := by omega
          obtain ⟨px, offx, ex, hbx, hcellx⟩ := HCA.out (by omega)
          subst ex
          have hcx := (HB.out.cell (p := ⟨px, offx + k, none⟩) hbx).trans (hcellx k hka)
          clear hcellx
          obtain ⟨x, hx⟩ : ∃ x, x = a.getD k 0 := ⟨_, rfl⟩
          rw [← hx] at hia HSUC hcx
          obtain ⟨py, offy, ey, hby, hcelly⟩ := HCB.out (by omega)
          subst ey
          have hcy := (HB.out.cell (p := ⟨py, offy + k, none⟩) hby).trans (hcelly k hkb)
          clear hcelly
          obtain ⟨y, hy⟩ : ∃ y, y = b.getD k 0 := ⟨_, rfl⟩
          rw [← hy] at hib HSUC hcy
          clear hx hy
          go_wp2_with (at_builtin; refine wpList_push rfl (.tmp 49) (.tmp 51) 24 rfl 3 i0 Tryd.underlying24 hi hz0 hz1 hz2 wr w w.heap.size _ (addT a b k) (x + y) rfl rfl HA.out rfl HLN.out HB.out.size HB.out ?_; intro v2 w2 ha2 hb2; have HA2 := Lib.hid ha2; have HB2 := Lib.hid hb2; clear ha2 hb2)
          go_roundg g
          case measure => omega
          case rel => exact ⟨k + 1, by omega, by go_num, (by rw [HSUC.out]; simpa using HA2.out), HB2.out⟩
        · have hka' : (k : Int) < (a.length : Int) := by omega
          have hkb' : ¬ ((k : Int) < (b.length : Int)) := by omega
          obtain ⟨px, offx, ex, hbx, hcellx⟩ := HCA.out (by omega)
          subst ex
          have hcx := (HB.out.cell (p := ⟨px, offx + k, none⟩) hbx).trans (hcellx k hka)
          clear hcellx
          obtain ⟨x, hx⟩ : ∃ x, x = a.getD k 0 := ⟨_, rfl⟩
          rw [← hx] at hia HSUC hcx
          obtain ⟨y, hy⟩ : ∃ y, y = b.getD k 0 := ⟨_, rfl⟩
          rw [← hy] at hib HSUC
          have zy : y = 0 := by rw [hy]; exact getD_end hkb
          clear hx hy
          subst zy
          go_wp2_with (at_builtin; refine wpList_push rfl (.tmp 49) (.tmp 51) 24 rfl 3 i0 Tryd.underlying24 hi hz0 hz1 hz2 wr w w.heap.size _ (addT a b k) x rfl rfl HA.out rfl HLN.out HB.out.size HB.out ?_; intro v2 w2 ha2 hb2; have HA2 := Lib.hid ha2; have HB2 := Lib.hid hb2; clear ha2 hb2)
          go_roundg g
          case measure => omega
          case rel => exact ⟨k + 1, by omega, by go_num, (by rw [HSUC.out]; simpa using HA2.out), HB2.out⟩
      · have hkb : k < b.length := by omega
        have hka' : ¬ ((k : Int) < (a.length : Int)) := by omega
        have hkb' : (k : Int) < (b.length : Int) := by omega
        obtain ⟨x, hx⟩ : ∃ x, x = a.getD k 0 := ⟨_, rfl⟩
        rw [← hx] at hia HSUC
        have zx : x = 0 := by rw [hx]; exact getD_end hka
        obtain ⟨py, offy, ey, hby, hcelly⟩ := HCB.out (by omega)
        subst ey
        have hcy := (HB.out.cell (p := ⟨py, offy + k, none⟩) hby).trans (hcelly k hkb)
        clear hcelly
        obtain ⟨y, hy⟩ : ∃ y, y = b.getD k 0 := ⟨_, rfl⟩
        rw [← hy] at hib HSUC hcy
        clear hx hy
        subst zx
        go_wp2_with (at_builtin; refine wpList_push rfl (.tmp 49) (.tmp 51) 24 rfl 3 i0 Tryd.underlying24 hi hz0 hz1 hz2 wr w w.heap.size _ (addT a b k) y rfl rfl HA.out rfl HLN.out HB.out.size HB.out ?_; intro v2 w2 ha2 hb2; have HA2 := Lib.hid ha2; have HB2 := Lib.hid hb2; clear ha2 hb2)
        go_roundg g
        case measure => omega
        case rel => exact ⟨k + 1, by omega, by go_num, (by rw [HSUC.out]; simpa using HA2.out), HB2.out⟩
end Go.Proofs.YtfncajdhdcpooaaDoor
