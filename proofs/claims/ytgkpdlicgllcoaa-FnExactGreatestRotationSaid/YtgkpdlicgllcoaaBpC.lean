/-
  Chapter 9: wishes, both sides; the visits ahead of the first round.
-/
import Derived.Test.YtgkpdlicgllcoaaBpB
import Derived.Test.YtgkpdlicgllcoaaIntSS2
namespace Go.Proofs.Ytgkpdlicgllcoaa
open Go.RowKit
set_option maxRecDepth 100000
set_option linter.unusedVariables false
/-- Is a round of wishes one? -/
def ok1 (n : Nat) (l : List Int) : Bool := decide (l.length = n) && okAll 0 200 l
theorem wishOk_is (n : Nat) (L : List (List Int)) : wishOk n L = (decide (L.length ≤ 20) && L.all (ok1 n)) := rfl
theorem wish_no {n k : Nat} {L : List (List Int)} (hk : k < L.length) (h : ok1 n (L.getD k []) = false) : wishOk n L = false := by
  rw [wishOk_is]
  have h2 : L.all (ok1 n) = false := by
    rw [List.all_eq_false]
    exact ⟨L.getD k [], by simp [List.getD, hk], by rw [h]; simp⟩
  rw [h2, Bool.and_false]
theorem wish_yes {n : Nat} {L : List (List Int)} (hl : L.length ≤ 20) (h : ∀ j, j < L.length → ok1 n (L.getD j []) = true) : wishOk n L = true := by
  rw [wishOk_is, Bool.and_eq_true]
  refine ⟨by simpa using hl, ?_⟩
  rw [List.all_eq_true]
  intro l hm
  obtain ⟨j, hj, rfl⟩ := List.getElem_of_mem hm
  have := h j hj
  simpa [List.getD, hj] using this
theorem wish_long {n : Nat} {L : List (List Int)} (hl : ¬ L.length ≤ 20) : wishOk n L = false := by rw [wishOk_is]; simp [hl]
set_option maxHeartbeats 1000000 in
theorem areWishes_any (s v : Value) (x : Tm) (L : List (List Int)) (w : World) (h : RI w w.heap.size s x.d) (h2 : RS w w.heap.size v L) (hn : L.length ≤ 1048576) (ht : total L ≤ 1048576) (hd : x.d.length ≤ 1048576) :
    Calls Try.prog 87 #[TmV x s, v] w (RetV w (.bool (wishOk x.d.length L))) := by
  have hn1 : L.length ≤ 1048576 := hn
  have hn' : (L.length : Int) ≤ 1048576 := by omega
  have HY : Hid (L.length ≤ 20 → (∀ j, j < L.length → ok1 x.d.length (L.getD j []) = true) → wishOk x.d.length L = true) := fun h1 h2 => wish_yes h1 h2
  have HNL : Hid (¬ L.length ≤ 20 → wishOk x.d.length L = false) := fun h1 => wish_long h1
  have HN : Hid (∀ j, j < L.length → ok1 x.d.length (L.getD j []) = false → wishOk x.d.length L = false) := fun j hj h1 => wish_no hj h1
  obtain ⟨bb, hbb⟩ : ∃ bb, bb = wishOk x.d.length L := ⟨_, rfl⟩
  rw [← hbb] at HY HNL HN ⊢
  clear hbb
  obtain ⟨t, k, d⟩ := x
  simp only [TmV] at *
  obtain ⟨A, c, rfl, hlc, hc⟩ := h
  obtain ⟨V, VA, vc, rfl, hV, hvl, hvc, hvr⟩ := h2
  have HC := Lib.hid hvc
  have HR := Lib.hid hvr
  have hW : Below w.heap.size w (w.alloc (.cells #[.int .i64 t, .int .i64 k, .slice A d.length c] 27)) := (Below.refl _ _).alloc (Nat.le_refl _) _
  have HWB := Lib.hid hW
  have hp0 := BK.made w 27 #[.int .i64 t, .int .i64 k, .slice A d.length c]
  have c2 := hp0.cell 2
  simp at c2
  clear hc hvc hvr hW hp0
  by_cases h20 : L.length ≤ 20
  · have h20I : ¬ ((20 : Int) < (L.length : Int)) := by omega
    have HY := Lib.hid (HY.out h20)
    clear HNL h20
    go_enter Try.func87, Try.ntmps87
    go_wp2_with fail
    go_loopg [12] L.length (fun g s9 wx => ∃ j : Nat, j + g = L.length ∧ s9 = .int .i64 (j : Int) ∧ (∀ i, i < j → ok1 d.length (L.getD i []) = true) ∧ wx = (w.alloc (.cells #[.int .i64 t, .int .i64 k, .slice A d.length c] 27)))
    case atStart => exact ⟨0, by omega, rfl, fun i hi => absurd hi (by omega), rfl⟩
    case round =>
      obtain ⟨j, hjg, rfl, hall, rfl⟩ := hrel
      cases gk with
      | zero =>
        have hje : j = L.length := by omega
        have hz : ¬ ((L.length : Int) < (L.length : Int)) := by omega
        have HB := Lib.hid (HY.out (by rw [← hje]; exact hall))
        rw [hje]
        clear hje hjg hall
        go_wp2_with fail
        go_ret
        exact ⟨by rw [HB.out]; rfl, HWB.out⟩
      | succ g =>
        have hj : j < L.length := by omega
        have hj' : (j : Int) < (L.length : Int) := by omega
        obtain ⟨b, off, rfl, hbB, hcell⟩ := HC.out (by omega)
        have hcx := (HWB.out.cell (p := ⟨b, off + j, none⟩) hbB).trans (hcell j hj)
        have hrk := HR.out j hj
        have htl := total_at hj
        have HALL := Lib.hid hall
        have HNN := Lib.hid (HN.out j hj)
        have hrk1 := (hrk.below HWB.out).more HWB.out.size
        have HIA := Lib.hid (areAllUpTo_any _ (L.getD j []) 200 _ hrk1 (by omega))
        obtain ⟨ra, rc, hvr, hrc1, _⟩ := hrk1
        rw [hvr] at hcx HIA
        have hlb : ((L.getD j []).length : Int) ≤ 1048576 := by omega
        have HOK : Hid (ok1 d.length (L.getD j []) = (decide ((L.getD j []).length = d.length) && okAll 0 200 (L.getD j []))) := rfl
        generalize hl9 : L.getD j [] = lj at *
        clear hcell hall hrk hvr
        by_cases hle : lj.length = d.length
        · have hle1 : (lj.length : Int) = (d.length : Int) := by omega
          have hle2 : ((lj.length : Int) != (d.length : Int)) = false := by simp [hle1]
          cases ho : okAll 0 200 lj
          · rw [ho] at HIA
            have HB := Lib.hid (HNN.out (by rw [HOK.out, ho, Bool.and_false]))
            clear hle hle1 ho
            go_wp2_with fail
            refine HIA.out.mono ?_; rintro e w_ ⟨rfl, rfl⟩
            go_wp2_with fail
            go_ret
            exact ⟨by rw [HB.out]; rfl, HWB.out⟩
          · rw [ho] at HIA
            have HK1 : Hid (ok1 d.length lj = true) := by show _ = _; rw [HOK.out, ho, hle]; simp
            clear hle hle1 ho
            go_wp2_with fail
            refine HIA.out.mono ?_; rintro e w_ ⟨rfl, rfl⟩
            go_wp2_with fail
            go_roundg g
            case measure => omega
            case rel => exact ⟨j + 1, by omega, by go_num, (fun i hi => by
              by_cases he : i = j
              · rw [he, hl9]; exact HK1.out
              · exact HALL.out i (by omega)), rfl⟩
        · have hle2 : ((lj.length : Int) != (d.length : Int)) = true := by simp; omega
          have HB := Lib.hid (HNN.out (by rw [HOK.out]; simp [hle]))
          clear hle
          go_wp2_with fail
          go_ret
          exact ⟨by rw [HB.out]; rfl, HWB.out⟩
  · have h20I : (20 : Int) < (L.length : Int) := by omega
    have HB := Lib.hid (HNL.out h20)
    clear HN HY h20
    go_enter Try.func87, Try.ntmps87
    go_wp2_with fail
    go_ret
    exact ⟨by rw [HB.out]; rfl, HWB.out⟩
set_option maxHeartbeats 1000000 in
theorem implAskT_any (s v : Value) (x : Tm) (L : List (List Int)) (w : World) (h : RI w w.heap.size s x.d) (h2 : RS w w.heap.size v L) (hn : L.length ≤ 1048576) (ht : total L ≤ 1048576) (hd : x.d.length ≤ 1048576) :
    Calls Try.prog 77 #[TmV x s, v] w (RetV w (.bool (askT x L))) := by
  have H1 := Lib.hid fun W (hb : Below w.heap.size w W) => implTimed_any s x W ((h.below hb).more hb.size) hd
  have H2 := Lib.hid fun W (hb : Below w.heap.size w W) => areWishes_any s v x L W ((h.below hb).more hb.size) ((h2.below hb).more hb.size) hn ht hd
  cases hg : tmOk x
  · rw [show askT x L = false from by simp [askT, hg]]
    rw [hg] at H1
    clear hg H2
    obtain ⟨t, k, d⟩ := x
    simp only [TmV] at *
    obtain ⟨A, c, rfl, hlc, hc⟩ := h
    clear hc
    have hW : Below w.heap.size w (w.alloc (.cells #[.int .i64 t, .int .i64 k, .slice A d.length c] 27)) := (Below.refl _ _).alloc (Nat.le_refl _) _
    go_enter Try.func77, Try.ntmps77
    go_wp2_with fail
    refine (H1.out _ hW).mono ?_; rintro e w1 ⟨rfl, hb⟩
    go_wp2_with fail
    go_ret
    exact ⟨rfl, hW.trans (hb.mono hW.size)⟩
  · rw [show askT x L = wishOk x.d.length L from by simp [askT, hg]]
    rw [hg] at H1
    generalize wishOk x.d.length L = bb at *
    clear hg
    obtain ⟨t, k, d⟩ := x
    simp only [TmV] at *
    obtain ⟨A, c, rfl, hlc, hc⟩ := h
    clear hc
    have hp0 := BK.made w 27 #[.int .i64 t, .int .i64 k, .slice A d.length c]
    have hW : Below w.heap.size w (w.alloc (.cells #[.int .i64 t, .int .i64 k, .slice A d.length c] 27)) := (Below.refl _ _).alloc (Nat.le_refl _) _
    go_enter Try.func77, Try.ntmps77
    go_wp2_with fail
    refine (H1.out _ hW).mono ?_; rintro e w1 ⟨rfl, hb⟩
    have hp1 := hp0.step hb
    have c0 := hp1.cell 0
    have c1 := hp1.cell 1
    have c2 := hp1.cell 2
    simp at c0 c1 c2
    have HT1 := Lib.hid (hW.trans (hb.mono hW.size))
    clear hp0 hp1 hW hb
    go_wp2_with fail
    refine (H2.out _ HT1.out).mono ?_; rintro e w2 ⟨rfl, hb2⟩
    go_wp2_with fail
    go_ret
    exact ⟨rfl, HT1.out.trans (hb2.mono HT1.out.size)⟩
set_option maxHeartbeats 1000000 in
theorem boWishes_any (s v : Value) (x : Tm) (L : List (List Int)) (w : World) (h : RI w w.heap.size s x.d) (h2 : RS w w.heap.size v L) (hn : L.length ≤ 1048576) (ht : total L ≤ 1048576) (hd : x.d.length ≤ 1048576) :
    Calls Try.prog 75 #[TmV x s, v] w (RetV w (.bool (askT x L))) := by
  have H1 := Lib.hid fun W (hb : Below w.heap.size w W) => boTimed_any s x W ((h.below hb).more hb.size) hd
  cases hg : tmOk x
  · rw [show askT x L = false from by simp [askT, hg]]
    rw [hg] at H1
    clear hg
    obtain ⟨t, k, d⟩ := x
    simp only [TmV] at *
    obtain ⟨A, c, rfl, hlc, hc⟩ := h
    clear hc
    have hW : Below w.heap.size w (w.alloc (.cells #[.int .i64 t, .int .i64 k, .slice A d.length c] 27)) := (Below.refl _ _).alloc (Nat.le_refl _) _
    obtain ⟨V, VA, vc, rfl, hV, hvl, hvc, hvr⟩ := h2
    go_enter Try.func75, Try.ntmps75
    go_wp2_with fail
    refine (H1.out _ hW).mono ?_; rintro e w1 ⟨rfl, hb⟩
    go_wp2_with fail
    go_ret
    exact ⟨rfl, hW.trans (hb.mono hW.size)⟩
  rw [show askT x L = wishOk x.d.length L from by simp [askT, hg]]
  rw [hg] at H1
  clear hg
  have hn1 : L.length ≤ 1048576 := hn
  have hn' : (L.length : Int) ≤ 1048576 := by omega
  have HY : Hid (L.length ≤ 20 → (∀ j, j < L.length → ok1 x.d.length (L.getD j []) = true) → wishOk x.d.length L = true) := fun h1 h2 => wish_yes h1 h2
  have HNL : Hid (¬ L.length ≤ 20 → wishOk x.d.length L = false) := fun h1 => wish_long h1
  have HN : Hid (∀ j, j < L.length → ok1 x.d.length (L.getD j []) = false → wishOk x.d.length L = false) := fun j hj h1 => wish_no hj h1
  obtain ⟨bb, hbb⟩ : ∃ bb, bb = wishOk x.d.length L := ⟨_, rfl⟩
  rw [← hbb] at HY HNL HN ⊢
  clear hbb
  obtain ⟨t, k, d⟩ := x
  simp only [TmV] at *
  obtain ⟨A, c, rfl, hlc, hc⟩ := h
  obtain ⟨V, VA, vc, rfl, hV, hvl, hvc, hvr⟩ := h2
  have HC := Lib.hid hvc
  have HR := Lib.hid hvr
  have hW : Below w.heap.size w (w.alloc (.cells #[.int .i64 t, .int .i64 k, .slice A d.length c] 27)) := (Below.refl _ _).alloc (Nat.le_refl _) _
  have hp0 := BK.made w 27 #[.int .i64 t, .int .i64 k, .slice A d.length c]
  clear hc hvc hvr
  by_cases h20 : L.length ≤ 20
  · have h20I : ¬ ((20 : Int) < (L.length : Int)) := by omega
    have HY := Lib.hid (HY.out h20)
    clear HNL h20
    go_enter Try.func75, Try.ntmps75
    go_wp2_with fail
    refine (H1.out _ hW).mono ?_; rintro e w1 ⟨rfl, hb⟩
    have hp1 := hp0.step hb
    have c2 := hp1.cell 2
    simp at c2
    have HWB := Lib.hid (hW.trans (hb.mono hW.size))
    clear hp0 hp1 hW hb
    go_wp2_with fail
    go_loopg [17] L.length (fun g s9 wx => ∃ j : Nat, j + g = L.length ∧ s9 = .int .i64 (j : Int) ∧ (∀ i, i < j → ok1 d.length (L.getD i []) = true) ∧ wx = w1)
    case atStart => exact ⟨0, by omega, rfl, fun i hi => absurd hi (by omega), rfl⟩
    case round =>
      obtain ⟨j, hjg, rfl, hall, rfl⟩ := hrel
      cases gk with
      | zero =>
        have hje : j = L.length := by omega
        have hz : ¬ ((L.length : Int) < (L.length : Int)) := by omega
        have HB := Lib.hid (HY.out (by rw [← hje]; exact hall))
        rw [hje]
        clear hje hjg hall
        go_wp2_with fail
        go_ret
        exact ⟨by rw [HB.out]; rfl, HWB.out⟩
      | succ g =>
        have hj : j < L.length := by omega
        have hj' : (j : Int) < (L.length : Int) := by omega
        obtain ⟨b, off, rfl, hbB, hcell⟩ := HC.out (by omega)
        have hcx := (HWB.out.cell (p := ⟨b, off + j, none⟩) hbB).trans (hcell j hj)
        have hrk := HR.out j hj
        have htl := total_at hj
        have HALL := Lib.hid hall
        have HNN := Lib.hid (HN.out j hj)
        have hrk1 := (hrk.below HWB.out).more HWB.out.size
        have HIA := Lib.hid (shAll_any _ (L.getD j []) 0 200 _ hrk1 (by omega))
        obtain ⟨ra, rc, hvr, hrc1, _⟩ := hrk1
        rw [hvr] at hcx HIA
        have hlb : ((L.getD j []).length : Int) ≤ 1048576 := by omega
        have HOK : Hid (ok1 d.length (L.getD j []) = (decide ((L.getD j []).length = d.length) && okAll 0 200 (L.getD j []))) := rfl
        generalize hl9 : L.getD j [] = lj at *
        clear hcell hall hrk hvr
        by_cases hle : lj.length = d.length
        · have hle1 : (lj.length : Int) = (d.length : Int) := by omega
          have hle2 : ((lj.length : Int) != (d.length : Int)) = false := by simp [hle1]
          cases ho : okAll 0 200 lj
          · rw [ho] at HIA
            have HB := Lib.hid (HNN.out (by rw [HOK.out, ho, Bool.and_false]))
            clear hle hle1 ho
            go_wp2_with fail
            refine HIA.out.mono ?_; rintro e w_ ⟨rfl, rfl⟩
            go_wp2_with fail
            go_ret
            exact ⟨by rw [HB.out]; rfl, HWB.out⟩
          · rw [ho] at HIA
            have HK1 : Hid (ok1 d.length lj = true) := by show _ = _; rw [HOK.out, ho, hle]; simp
            clear hle hle1 ho
            go_wp2_with fail
            refine HIA.out.mono ?_; rintro e w_ ⟨rfl, rfl⟩
            go_wp2_with fail
            go_roundg g
            case measure => omega
            case rel => exact ⟨j + 1, by omega, by go_num, (fun i hi => by
              by_cases he : i = j
              · rw [he, hl9]; exact HK1.out
              · exact HALL.out i (by omega)), rfl⟩
        · have hle2 : ((lj.length : Int) != (d.length : Int)) = true := by simp; omega
          have HB := Lib.hid (HNN.out (by rw [HOK.out]; simp [hle]))
          clear hle
          go_wp2_with fail
          go_ret
          exact ⟨by rw [HB.out]; rfl, HWB.out⟩
  · have h20I : (20 : Int) < (L.length : Int) := by omega
    have HB := Lib.hid (HNL.out h20)
    clear HN HY h20
    go_enter Try.func75, Try.ntmps75
    go_wp2_with fail
    refine (H1.out _ hW).mono ?_; rintro e w1 ⟨rfl, hb⟩
    go_wp2_with fail
    go_ret
    exact ⟨by rw [HB.out]; rfl, hW.trans (hb.mono hW.size)⟩
end Go.Proofs.Ytgkpdlicgllcoaa
