/-
  Chapter 9: RotationsOf, GreatestRotation, both sides; the model's TimedVisits.
-/
import Derived.Test.YtgkpdlicgllcoaaBpG
import Derived.Test.YtgkpdlicgllcoaaCat
import Derived.Deep.QuietTactic
namespace Go.Proofs.Ytgkpdlicgllcoaa
open Go.RowKit
set_option maxRecDepth 100000
set_option linter.unusedVariables false
theorem tmOwn_any (v : Value) (l : List Int) (w : World) (h : RI w w.heap.size v l) (hn : l.length ≤ 1048576) :
    Calls Try.prog 89 #[v] w (RetL 3 w l) := by
  have h0 := h
  have hsh := Lib.hid h.shape
  obtain ⟨A, c, rfl, hlc, hc⟩ := h
  clear hc
  obtain ⟨i0, hi, hz0, hz1, hz2⟩ := info_parts int_info
  have hb0 : Below w.heap.size w (w.alloc (.cells #[] 3)) := (Below.refl _ _).alloc (Nat.le_refl _) _
  have ha : Acc 3 (w.alloc (.cells #[] 3)) w.heap.size (.slice (some ⟨w.heap.size, 0, none⟩) 0 0) [] := World.ownsRow_made w #[] 0 (Nat.le_refl _) (by simp) rfl
  go_enter Try.func89, Try.ntmps89
  go_wp2_with (at_builtin; refine wpList_cat rfl (.tmp 3) (.tmp 4) 22 rfl 3 i0 Try.underlying22 hi hz0 hz1 hz2 w w.heap.size w.heap.size _ _ _ l rfl ha rfl (h0.below hb0) hsh.out (by simp; omega) hb0 hb0.size ?_; intro v2 w2 ha2 hb2)
  go_ret
  exact ⟨_, rfl, by simpa using ha2.oi, hb2⟩


theorem tmMax_any (v : Value) (l : List Int) (w : World) (h : RI w w.heap.size v l) (hn : l.length ≤ 1048576) (h0 : 0 < l.length) :
    Calls Try.prog 82 #[v] w fun e w' => ∃ m : Int, e = .returned (.int .i64 m) ∧ (∀ j, j < l.length → l.getD j 0 ≤ m) ∧ (∃ j, j < l.length ∧ l.getD j 0 = m) ∧ w = w' := by
  obtain ⟨A, c, rfl, hlc, hc⟩ := h
  have hn' : (l.length : Int) ≤ 1048576 := by omega
  obtain ⟨b, off, rfl, hbB, hcell⟩ := hc h0
  have hc0 := hcell 0 h0
  rw [Nat.add_zero] at hc0
  have HC := Lib.hid hcell
  clear hcell hc
  have h1 : ¬ ((l.length : Int) < 1) := by omega
  have h2 : (0 : Int) < (l.length : Int) := by omega
  obtain ⟨x0, hx0⟩ : ∃ x, x = l.getD 0 0 := ⟨_, rfl⟩
  rw [← hx0] at hc0
  have HX := Lib.hid hx0
  clear hx0
  go_enter Try.func82, Try.ntmps82
  go_wp2
  go_loop [3, 4] (fun u i => ∃ k : Nat, 1 ≤ k ∧ k ≤ l.length ∧ i = .int .i64 k ∧ ∃ m : Int, u = .int .i64 m ∧ (∀ j, j < k → l.getD j 0 ≤ m) ∧ ∃ j, j < l.length ∧ l.getD j 0 = m) (fun _ i => l.length - (intOf i).toNat)
  case atStart => exact ⟨1, Nat.le_refl _, h0, rfl, x0, rfl, fun j hj => by obtain rfl : j = 0 := by omega
                                                                            rw [HX.out]; exact Int.le_refl _, 0, h0, HX.out.symm⟩
  case round =>
    obtain ⟨k, hk1, hk, rfl, m, rfl, hall, hmem⟩ := hrel
    have HA := Lib.hid hall
    have HM := Lib.hid hmem
    clear hall hmem
    by_cases hlt : k < l.length
    · have hcx : w.cell? ⟨b, off + k, none⟩ = some (.int .i64 (l.getD k 0)) := HC.out k hlt
      obtain ⟨x, hx⟩ : ∃ x, x = l.getD k 0 := ⟨_, rfl⟩
      rw [← hx] at hcx
      have HX := Lib.hid hx
      clear hx
      by_cases hmx : m < x
      · go_wp2
        go_round
        case rel =>
          refine ⟨k + 1, by omega, by omega, by go_num, _, by go_num, fun j hj => ?_, k, hlt, HX.out.symm⟩
          by_cases hjk : j = k
          · subst hjk; rw [← HX.out]; first | exact Int.le_refl _ | omega
          · have := HA.out j (by omega); omega
        case measure => simp [intOf]; omega
      · go_wp2
        go_round
        case rel =>
          refine ⟨k + 1, by omega, by omega, by go_num, _, by go_num, fun j hj => ?_, HM.out⟩
          by_cases hjk : j = k
          · subst hjk; rw [← HX.out]; first | exact Int.le_refl _ | omega
          · have := HA.out j (by omega); omega
        case measure => simp [intOf]; omega
    · obtain rfl : k = l.length := by omega
      go_wp2
      go_ret
      exact ⟨_, rfl, HA.out, HM.out, rfl⟩
theorem RI.tail9 {w : World} {B : Nat} {A : Option Addr} {n c : Nat} {l : List Int} (h : RI w B (.slice A n c) l) (k : Nat) (hk : k ≤ l.length) : RI w B (.slice (if c = k then A else Option.map (fun x => x.add k) A) (l.length - k) (c - k)) (l.drop k) := by
  obtain ⟨A', c', hv, hlc, hc⟩ := h
  injection hv with h1 h2 h3
  subst h1; subst h2; subst h3
  refine ⟨_, c - k, by rw [List.length_drop], ⟨by rw [List.length_drop]; omega, by omega, fun hA => ?_⟩, fun h0 => ?_⟩
  · have h5 : A = none := by
      split at hA
      · exact hA
      · cases A with
        | none => rfl
        | some a => cases hA
    have := hlc.2.2 h5
    omega
  · rw [List.length_drop] at h0
    obtain ⟨b, off, hA, hb, hcell⟩ := hc (by omega)
    refine ⟨b, off + k, ?_, hb, fun j hj => ?_⟩
    · rw [if_neg (by omega), hA]
      simp [addr_add]
    · rw [List.length_drop] at hj
      rw [Nat.add_assoc, hcell (k + j) (by omega)]
      congr 2
      simp [List.getD]
theorem rotT_none {x : Tm} {L : List (List Int)} (h : (goR x L L.length).length < x.d.length) : rotT x L = [] := by
  unfold rotT
  rw [List.drop_eq_nil_iff]
  omega
theorem max_is (l : List Int) (m : Int) (h1 : ∀ j, j < (l ++ [0]).length → (l ++ [0]).getD j 0 ≤ m) (h2 : ∃ j, j < (l ++ [0]).length ∧ (l ++ [0]).getD j 0 = m) : m = l.foldl max 0 := by
  have key : ∀ (l : List Int) (a : Int), (∀ y ∈ l, y ≤ l.foldl max a) ∧ a ≤ l.foldl max a ∧ (l.foldl max a = a ∨ l.foldl max a ∈ l) := by
    intro l
    induction l with
    | nil => intro a; simp
    | cons b l ih =>
      intro a
      have h := ih (max a b)
      rw [List.foldl_cons]
      refine ⟨fun y hy => ?_, by omega, ?_⟩
      · rcases List.mem_cons.1 hy with rfl | hy
        · omega
        · exact h.1 y hy
      · rcases h.2.2 with e | e
        · by_cases hab : a ≤ b
          · right; rw [e, show max a b = b by omega]; simp
          · left; rw [e]; omega
        · right; simp [e]
  have k := key l 0
  have hmem : m ∈ l ++ [0] := by
    obtain ⟨j, hj, rfl⟩ := h2
    rw [List.getD_eq_getElem?_getD, List.getElem?_eq_getElem hj]
    exact List.getElem_mem hj
  have hall : ∀ y ∈ l ++ [0], y ≤ m := by
    intro y hy
    obtain ⟨j, hj, rfl⟩ := List.getElem_of_mem hy
    have := h1 j hj
    rw [List.getD_eq_getElem?_getD, List.getElem?_eq_getElem hj] at this
    exact this
  have h0 : 0 ≤ m := hall 0 (by simp)
  have hm1 : m ≤ l.foldl max 0 := by
    rcases List.mem_append.1 hmem with h | h
    · exact k.1 m h
    · simp at h; omega
  have hm2 : l.foldl max 0 ≤ m := by
    rcases k.2.2 with e | e
    · omega
    · exact hall _ (by simp [e])
  omega
theorem foldl_take (l : List Int) (k : Nat) (hk : k < l.length) : (l.take (k + 1)).foldl max 0 = max ((l.take k).foldl max 0) (l.getD k 0) := by
  rw [List.take_add_one, List.foldl_append]
  simp [List.getD, hk]
theorem tvSays_len (x : Tm) (L : List (List Int)) : (tvSays x L).1.length ≤ 1048576 ∧ total (tvSays x L).1 ≤ 1048576 := by
  unfold tvSays
  split
  · rename_i h
    simp only [askT, Bool.and_eq_true] at h
    have hin := tmOk_in h.1
    have hL := wishOk_len h.2
    have h1 : L.length * x.d.length ≤ 20 * 12 := Nat.mul_le_mul hL hin.1.2
    have h3 : ∀ (A : List (List Int)), (∀ l ∈ A, l.length = 3) → total A = A.length * 3 := by
      intro A
      induction A with
      | nil => intro _; rfl
      | cons a A ih =>
        intro h
        simp only [total, h a (by simp), ih fun l hl => h l (by simp [hl]), List.length_cons]
        omega
    simp only
    rw [h3 _ (vrR_three x L _), vrR_length]
    omega
  · simp [total]
theorem rotSays_len (x : Tm) (L : List (List Int)) : (rotSays x L).1.length ≤ 1048576 := by
  unfold rotSays
  split
  · rename_i h
    simp only [askT, Bool.and_eq_true] at h
    have hin := tmOk_in h.1
    have hL := wishOk_len h.2
    have h1 : L.length * x.d.length ≤ 20 * 12 := Nat.mul_le_mul hL hin.1.2
    simp only
    rw [rotT_length]
    omega
  · simp
set_option maxHeartbeats 2000000 in
theorem boRotations_any (s0 v : Value) (x : Tm) (L : List (List Int)) (w : World) (h : RI w w.heap.size s0 x.d) (h2 : RS w w.heap.size v L) (hask : askT x L = true) :
    Calls Try.prog 79 #[TmV x s0, v] w (RetL 3 w (rotT x L)) := by
  have HV := Lib.hid fun W (hb : Below w.heap.size w W) => boVisits_any s0 v x L W ((h.below hb).more hb.size) ((h2.below hb).more hb.size) hask
  have HGL := Lib.hid (goR_length x L L.length)
  have HNO := Lib.hid fun hh => rotT_none (x := x) (L := L) hh
  have HYE : Hid (rotT x L = (goR x L L.length).drop x.d.length) := rfl
  have hask2 := hask
  simp only [askT, Bool.and_eq_true] at hask2
  have hin := tmOk_in hask2.1
  have hL20 := wishOk_len hask2.2
  generalize rotT x L = RO at *
  generalize goR x L L.length = GO at *
  generalize vrR x L L.length = VR at *
  clear hask hask2
  obtain ⟨VV, VA, vc, rfl, hV, hvl, hvc, hvr⟩ := h2
  obtain ⟨t, k, d⟩ := x
  simp only [TmV] at *
  obtain ⟨A, c, rfl, hlc, hc⟩ := h
  clear hc
  clear hvc hvr
  obtain ⟨N, hN⟩ : ∃ N, N = L.length * d.length := ⟨_, rfl⟩
  have hN2 : N ≤ 20 * 12 := by rw [hN]; exact Nat.mul_le_mul (by omega) (by omega)
  rw [← hN] at HGL
  clear hN
  have p0 := BK.made w 27 #[.int .i64 t, .int .i64 k, .slice A d.length c]
  have hW : Below w.heap.size w (w.alloc (.cells #[.int .i64 t, .int .i64 k, .slice A d.length c] 27)) := (Below.refl _ _).alloc (Nat.le_refl _) _
  go_enter Try.func79, Try.ntmps79
  go_wp2_with fail
  refine (HV.out _ hW).mono ?_; rintro e w1 ⟨u1, u2, rfl, ho1, ho2, hb1⟩
  have p1 := p0.step hb1
  have c2 := p1.cell 2
  simp at c2
  have HT1 := Lib.hid (hW.trans (hb1.mono hW.size))
  have hr2 := ho2.ri
  have HR2 := Lib.hid hr2
  obtain ⟨UA, uc, rfl, hulc, hucell⟩ := hr2
  have hgl := HGL.out
  rw [hgl] at hulc hucell ⊢
  clear p0 p1 ho1 ho2 hb1 hW hucell
  by_cases hlt : N < d.length
  · have hlt' : (N : Int) < (d.length : Int) := by omega
    have HB := Lib.hid (HNO.out (by rw [hgl]; exact hlt))
    rw [hgl] at HR2
    clear hlt hgl
    go_wp2_with fail
    go_ret
    rw [HB.out]
    exact ⟨_, rfl, .inl ⟨rfl, none, 0, rfl, by simp, fun _ => rfl⟩, HT1.out⟩
  · have hlt' : ¬ ((N : Int) < (d.length : Int)) := by omega
    have hdn : (d.length : Int) ≤ (N : Int) := by omega
    have hdc : (d.length : Int) ≤ (uc : Int) := by omega
    have ht9 := HR2.out.tail9 d.length (by rw [hgl]; omega)
    have HOW := Lib.hid (tmOwn_any _ _ w1 ht9 (by rw [List.length_drop, hgl]; omega))
    rw [← HYE.out, hgl] at HOW
    have hcz : uc ≤ maxLen := hulc.2.1
    unfold maxLen at hcz
    clear ht9 hgl
    cases UA with
    | none => have := hulc.2.2 rfl; omega
    | some ad =>
      by_cases hc9 : uc = d.length
      · rw [if_pos hc9, hc9, Nat.sub_self] at HOW
        go_wp2_with fail
        refine HOW.out.mono ?_; rintro e w3 ⟨u3, rfl, ho3, hb3⟩
        have HO3 := Lib.hid (ho3.wide HT1.out.size (Nat.le_refl _))
        have HT3 := Lib.hid (HT1.out.trans (hb3.mono HT1.out.size))
        clear ho3 hb3
        go_wp2_with fail
        go_ret
        exact ⟨_, rfl, HO3.out, HT3.out⟩
      · rw [if_neg hc9] at HOW
        simp only [Option.map_some] at HOW
        go_wp2_with fail
        refine HOW.out.mono ?_; rintro e w3 ⟨u3, rfl, ho3, hb3⟩
        have HO3 := Lib.hid (ho3.wide HT1.out.size (Nat.le_refl _))
        have HT3 := Lib.hid (HT1.out.trans (hb3.mono HT1.out.size))
        clear ho3 hb3
        go_wp2_with fail
        go_ret
        exact ⟨_, rfl, HO3.out, HT3.out⟩
set_option maxHeartbeats 2000000 in
theorem implRotationsOf_any (v0 v : Value) (x : Tm) (L : List (List Int)) (w : World) (h : RTm w w.heap.size v0 x) (h2 : RS w w.heap.size v L) (hd : x.d.length ≤ 1048576) (hn : L.length ≤ 1048576) (ht : total L ≤ 1048576) :
    Calls Try.prog 55 #[v0, v] w (RetLB 3 w (rotSays x L).1 (rotSays x L).2) := by
  obtain ⟨s0, rfl, h⟩ := h
  have H1 := Lib.hid fun W (hb : Below w.heap.size w W) => implAskT_any s0 v x L W ((h.below hb).more hb.size) ((h2.below hb).more hb.size) hn ht hd
  have H2 := Lib.hid fun (ha : askT x L = true) W (hb : Below w.heap.size w W) => rotationsOf_any s0 v x L W ((h.below hb).more hb.size) ((h2.below hb).more hb.size) ha
  cases hg : askT x L
  · rw [show rotSays x L = ([], false) from by simp [rotSays, hg]]
    rw [hg] at H1
    clear hg H2
    obtain ⟨VV, VA, vc, rfl, hV, hvl, hvc, hvr⟩ := h2
    obtain ⟨t, k, d⟩ := x
    simp only [TmV] at *
    obtain ⟨A, c, rfl, hlc, hc⟩ := h
    clear hc
    have hW : Below w.heap.size w (w.alloc (.cells #[.int .i64 t, .int .i64 k, .slice A d.length c] 27)) := (Below.refl _ _).alloc (Nat.le_refl _) _
    go_enter Try.func55, Try.ntmps55
    go_wp2_with fail
    refine (H1.out _ hW).mono ?_; rintro e w1 ⟨rfl, hb⟩
    go_wp2_with fail
    go_ret2
    exact ⟨_, rfl, .inl ⟨rfl, none, 0, rfl, by simp, fun _ => rfl⟩, hW.trans (hb.mono hW.size)⟩
  have H2 := Lib.hid (H2.out hg)
  rw [hg] at H1
  rw [show rotSays x L = (rotT x L, true) from by simp [rotSays, hg]]
  generalize rotT x L = RO at *
  clear hg
  obtain ⟨VV, VA, vc, rfl, hV, hvl, hvc, hvr⟩ := h2
  obtain ⟨t, k, d⟩ := x
  simp only [TmV] at *
  obtain ⟨A, c, rfl, hlc, hc⟩ := h
  clear hc
  clear hvc hvr
  have p0 := BK.made w 27 #[.int .i64 t, .int .i64 k, .slice A d.length c]
  have hW : Below w.heap.size w (w.alloc (.cells #[.int .i64 t, .int .i64 k, .slice A d.length c] 27)) := (Below.refl _ _).alloc (Nat.le_refl _) _
  go_enter Try.func55, Try.ntmps55
  go_wp2_with fail
  refine (H1.out _ hW).mono ?_; rintro e w1 ⟨rfl, hb⟩
  have p1 := p0.step hb
  have c0 := p1.cell 0
  have c1 := p1.cell 1
  have c2 := p1.cell 2
  simp at c0 c1 c2
  have HT1 := Lib.hid (hW.trans (hb.mono hW.size))
  have HP1 := Lib.hid p1
  clear p0 p1 hW hb
  go_wp2_with fail
  refine (H2.out _ HT1.out).mono ?_; rintro e w2 ⟨u2, rfl, ho2, hb2⟩
  have HO2 := Lib.hid (ho2.wide HT1.out.size (Nat.le_refl _))
  have HT2 := Lib.hid (HT1.out.trans (hb2.mono HT1.out.size))
  clear ho2 hb2
  go_wp2_with fail
  go_ret2
  exact ⟨_, rfl, HO2.out, HT2.out⟩
set_option maxHeartbeats 2000000 in
theorem specRotationsOf_any (v0 v : Value) (x : Tm) (L : List (List Int)) (w : World) (h : RTm w w.heap.size v0 x) (h2 : RS w w.heap.size v L) (hd : x.d.length ≤ 1048576) (hn : L.length ≤ 1048576) (ht : total L ≤ 1048576) :
    Calls Try.prog 54 #[v0, v] w (RetLB 3 w (rotSays x L).1 (rotSays x L).2) := by
  obtain ⟨s0, rfl, h⟩ := h
  have H1 := Lib.hid fun W (hb : Below w.heap.size w W) => boWishes_any s0 v x L W ((h.below hb).more hb.size) ((h2.below hb).more hb.size) hn ht hd
  have H2 := Lib.hid fun (ha : askT x L = true) W (hb : Below w.heap.size w W) => boRotations_any s0 v x L W ((h.below hb).more hb.size) ((h2.below hb).more hb.size) ha
  cases hg : askT x L
  · rw [show rotSays x L = ([], false) from by simp [rotSays, hg]]
    rw [hg] at H1
    clear hg H2
    obtain ⟨VV, VA, vc, rfl, hV, hvl, hvc, hvr⟩ := h2
    obtain ⟨t, k, d⟩ := x
    simp only [TmV] at *
    obtain ⟨A, c, rfl, hlc, hc⟩ := h
    clear hc
    have hW : Below w.heap.size w (w.alloc (.cells #[.int .i64 t, .int .i64 k, .slice A d.length c] 27)) := (Below.refl _ _).alloc (Nat.le_refl _) _
    go_enter Try.func54, Try.ntmps54
    go_wp2_with fail
    refine (H1.out _ hW).mono ?_; rintro e w1 ⟨rfl, hb⟩
    go_wp2_with fail
    go_ret2
    exact ⟨_, rfl, .inl ⟨rfl, none, 0, rfl, by simp, fun _ => rfl⟩, hW.trans (hb.mono hW.size)⟩
  have H2 := Lib.hid (H2.out hg)
  rw [hg] at H1
  rw [show rotSays x L = (rotT x L, true) from by simp [rotSays, hg]]
  generalize rotT x L = RO at *
  clear hg
  obtain ⟨VV, VA, vc, rfl, hV, hvl, hvc, hvr⟩ := h2
  obtain ⟨t, k, d⟩ := x
  simp only [TmV] at *
  obtain ⟨A, c, rfl, hlc, hc⟩ := h
  clear hc
  clear hvc hvr
  have p0 := BK.made w 27 #[.int .i64 t, .int .i64 k, .slice A d.length c]
  have hW : Below w.heap.size w (w.alloc (.cells #[.int .i64 t, .int .i64 k, .slice A d.length c] 27)) := (Below.refl _ _).alloc (Nat.le_refl _) _
  go_enter Try.func54, Try.ntmps54
  go_wp2_with fail
  refine (H1.out _ hW).mono ?_; rintro e w1 ⟨rfl, hb⟩
  have p1 := p0.step hb
  have c0 := p1.cell 0
  have c1 := p1.cell 1
  have c2 := p1.cell 2
  simp at c0 c1 c2
  have HT1 := Lib.hid (hW.trans (hb.mono hW.size))
  have HP1 := Lib.hid p1
  clear p0 p1 hW hb
  go_wp2_with fail
  refine (H2.out _ HT1.out).mono ?_; rintro e w2 ⟨u2, rfl, ho2, hb2⟩
  have HO2 := Lib.hid (ho2.wide HT1.out.size (Nat.le_refl _))
  have HT2 := Lib.hid (HT1.out.trans (hb2.mono HT1.out.size))
  clear ho2 hb2
  go_wp2_with fail
  go_ret2
  exact ⟨_, rfl, HO2.out, HT2.out⟩
set_option maxHeartbeats 2000000 in
theorem specTimedVisits_any (v0 v : Value) (x : Tm) (L : List (List Int)) (w : World) (h : RTm w w.heap.size v0 x) (h2 : RS w w.heap.size v L) (hd : x.d.length ≤ 1048576) (hn : L.length ≤ 1048576) (ht : total L ≤ 1048576) :
    Calls Try.prog 47 #[v0, v] w (RetSB w (tvSays x L).1 (tvSays x L).2) := by
  obtain ⟨s0, rfl, h⟩ := h
  have H1 := Lib.hid fun W (hb : Below w.heap.size w W) => boWishes_any s0 v x L W ((h.below hb).more hb.size) ((h2.below hb).more hb.size) hn ht hd
  have H2 := Lib.hid fun (ha : askT x L = true) W (hb : Below w.heap.size w W) => boVisits_any s0 v x L W ((h.below hb).more hb.size) ((h2.below hb).more hb.size) ha
  cases hg : askT x L
  · rw [show tvSays x L = ([], false) from by simp [tvSays, hg]]
    rw [hg] at H1
    clear hg H2
    obtain ⟨VV, VA, vc, rfl, hV, hvl, hvc, hvr⟩ := h2
    obtain ⟨t, k, d⟩ := x
    simp only [TmV] at *
    obtain ⟨A, c, rfl, hlc, hc⟩ := h
    clear hc
    have hW : Below w.heap.size w (w.alloc (.cells #[.int .i64 t, .int .i64 k, .slice A d.length c] 27)) := (Below.refl _ _).alloc (Nat.le_refl _) _
    go_enter Try.func47, Try.ntmps47
    go_wp2_with fail
    refine (H1.out _ hW).mono ?_; rintro e w1 ⟨rfl, hb⟩
    go_wp2_with fail
    go_ret2
    exact ⟨_, rfl, OS.nil _ _ _ _ _, hW.trans (hb.mono hW.size)⟩
  have H2 := Lib.hid (H2.out hg)
  rw [hg] at H1
  rw [show tvSays x L = (vrR x L L.length, true) from by simp [tvSays, hg]]
  generalize vrR x L L.length = VR at *
  generalize goR x L L.length = GO at *
  clear hg
  obtain ⟨VV, VA, vc, rfl, hV, hvl, hvc, hvr⟩ := h2
  obtain ⟨t, k, d⟩ := x
  simp only [TmV] at *
  obtain ⟨A, c, rfl, hlc, hc⟩ := h
  clear hc
  clear hvc hvr
  have p0 := BK.made w 27 #[.int .i64 t, .int .i64 k, .slice A d.length c]
  have hW : Below w.heap.size w (w.alloc (.cells #[.int .i64 t, .int .i64 k, .slice A d.length c] 27)) := (Below.refl _ _).alloc (Nat.le_refl _) _
  go_enter Try.func47, Try.ntmps47
  go_wp2_with fail
  refine (H1.out _ hW).mono ?_; rintro e w1 ⟨rfl, hb⟩
  have p1 := p0.step hb
  have c0 := p1.cell 0
  have c1 := p1.cell 1
  have c2 := p1.cell 2
  simp at c0 c1 c2
  have HT1 := Lib.hid (hW.trans (hb.mono hW.size))
  have HP1 := Lib.hid p1
  clear p0 p1 hW hb
  go_wp2_with fail
  refine (H2.out _ HT1.out).mono ?_; rintro e w2 ⟨u1, u2, rfl, ho1, ho2, hb2⟩
  have HO1 := Lib.hid (ho1.wide HT1.out.size (Nat.le_refl _))
  have HT2 := Lib.hid (HT1.out.trans (hb2.mono HT1.out.size))
  clear ho1 ho2 hb2
  go_wp2_with fail
  go_ret2
  exact ⟨_, rfl, HO1.out, HT2.out⟩
set_option maxHeartbeats 2000000 in
theorem specGreatestRotation_any (v0 v : Value) (x : Tm) (L : List (List Int)) (w : World) (h : RTm w w.heap.size v0 x) (h2 : RS w w.heap.size v L) (hd : x.d.length ≤ 1048576) (hn : L.length ≤ 1048576) (ht : total L ≤ 1048576) :
    Calls Try.prog 56 #[v0, v] w (RetV w (.tuple #[.int .i64 (grSays x L).1, .bool (grSays x L).2])) := by
  obtain ⟨s0, rfl, h⟩ := h
  have H1 := Lib.hid fun W (hb : Below w.heap.size w W) => boWishes_any s0 v x L W ((h.below hb).more hb.size) ((h2.below hb).more hb.size) hn ht hd
  have H2 := Lib.hid fun (ha : askT x L = true) W (hb : Below w.heap.size w W) => boRotations_any s0 v x L W ((h.below hb).more hb.size) ((h2.below hb).more hb.size) ha
  have HFT := Lib.hid fun k hk => foldl_take (rotT x L) k hk
  have HLN := Lib.hid fun (ha : askT x L = true) => (show (rotT x L).length ≤ 1048576 from by have h9 := rotSays_len x L; rw [show rotSays x L = (rotT x L, true) from by simp [rotSays, ha]] at h9; exact h9)
  cases hg : askT x L
  · rw [show grSays x L = (0, false) from by simp [grSays, hg]]
    rw [hg] at H1
    clear hg H2
    obtain ⟨VV, VA, vc, rfl, hV, hvl, hvc, hvr⟩ := h2
    obtain ⟨t, k, d⟩ := x
    simp only [TmV] at *
    obtain ⟨A, c, rfl, hlc, hc⟩ := h
    clear hc
    have hW : Below w.heap.size w (w.alloc (.cells #[.int .i64 t, .int .i64 k, .slice A d.length c] 27)) := (Below.refl _ _).alloc (Nat.le_refl _) _
    go_enter Try.func56, Try.ntmps56
    go_wp2_with fail
    refine (H1.out _ hW).mono ?_; rintro e w1 ⟨rfl, hb⟩
    go_wp2_with fail
    go_ret2
    exact ⟨rfl, hW.trans (hb.mono hW.size)⟩
  have H2 := Lib.hid (H2.out hg)
  rw [hg] at H1
  rw [show grSays x L = ((rotT x L).foldl max 0, true) from by simp [grSays, hg]]
  have hlen := HLN.out hg
  generalize rotT x L = RO at *
  clear HLN
  clear hg
  obtain ⟨VV, VA, vc, rfl, hV, hvl, hvc, hvr⟩ := h2
  obtain ⟨t, k, d⟩ := x
  simp only [TmV] at *
  obtain ⟨A, c, rfl, hlc, hc⟩ := h
  clear hc
  clear hvc hvr
  have p0 := BK.made w 27 #[.int .i64 t, .int .i64 k, .slice A d.length c]
  have hW : Below w.heap.size w (w.alloc (.cells #[.int .i64 t, .int .i64 k, .slice A d.length c] 27)) := (Below.refl _ _).alloc (Nat.le_refl _) _
  go_enter Try.func56, Try.ntmps56
  go_wp2_with fail
  refine (H1.out _ hW).mono ?_; rintro e w1 ⟨rfl, hb⟩
  have p1 := p0.step hb
  have c0 := p1.cell 0
  have c1 := p1.cell 1
  have c2 := p1.cell 2
  simp at c0 c1 c2
  have HT1 := Lib.hid (hW.trans (hb.mono hW.size))
  have HP1 := Lib.hid p1
  clear p0 p1 hW hb
  go_wp2_with fail
  refine (H2.out _ HT1.out).mono ?_; rintro e w2 ⟨u2, rfl, ho2, hb2⟩
  have hr2 := ho2.ri
  obtain ⟨UA, uc, rfl, hulc, hucell⟩ := hr2
  have HUC := Lib.hid hucell
  have HT2 := Lib.hid (HT1.out.trans (hb2.mono HT1.out.size))
  have hl9 : (RO.length : Int) ≤ 1048576 := by omega
  clear ho2 hb2 hucell c0 c1 c2
  go_wp2_with fail
  go_loopg [17, 6] RO.length (fun g s17 s6 wx => ∃ k : Nat, k + g = RO.length ∧ s17 = .int .i64 (k : Int) ∧ s6 = .int .i64 ((RO.take k).foldl max 0) ∧ wx = w2)
  case atStart => exact ⟨0, by omega, rfl, rfl, rfl⟩
  case round =>
    obtain ⟨k9, hkg, rfl, rfl, rfl⟩ := hrel
    cases gk with
    | zero =>
      have hke : k9 = RO.length := by omega
      have hz : ¬ ((RO.length : Int) < (RO.length : Int)) := by omega
      rw [hke, List.take_length]
      clear hke hkg
      go_wp2_with fail
      go_ret2
      exact ⟨rfl, HT2.out⟩
    | succ g =>
      have hk : k9 < RO.length := by omega
      have hk' : (k9 : Int) < (RO.length : Int) := by omega
      obtain ⟨b, off, rfl, hbB, hcell⟩ := HUC.out (by omega)
      have hcx := hcell k9 hk
      have HFK := Lib.hid (HFT.out k9 hk)
      generalize (RO.take k9).foldl max 0 = M at *
      generalize RO.getD k9 0 = y at *
      have HMX := Lib.hid fun W => shMost_any M y W
      rw [← HFK.out] at HMX
      clear hcell
      go_wp2_with fail
      refine (HMX.out _).mono ?_; rintro e w' ⟨rfl, rfl⟩
      go_wp2_with fail
      go_roundg g
      case measure => omega
      case rel => exact ⟨k9 + 1, by omega, by go_num, rfl, rfl⟩
end Go.Proofs.Ytgkpdlicgllcoaa
