/-
  The contracts of RingText, both sides.
-/
import Derived.Test.YtdpccmpongcioaaDoorTxC
import Derived.Test.YtdpccmpongcioaaDoorIsRing
import Derived.Deep.QuietTactic
import Derived.BigQuiet
namespace Go.Proofs.YtdpccmpongcioaaDoor
open Go.RowKit Go.Conc
set_option maxRecDepth 100000
set_option linter.unusedVariables false

/-- A ring's text. -/
def rtL (x : Rg) : List UInt8 := Lib.itoa x.k ++ [58] ++ txJ x.d
def rtSays (x : Rg) : ByteArray × Bool := if isRg x = true then (⟨(rtL x).toArray⟩, true) else (⟨#[]⟩, false)
theorem isRg_all {x : Rg} (h : isRg x = true) : ∀ y ∈ x.d, 0 ≤ y ∧ y ≤ 1000 := by
  intro y hy
  obtain ⟨j, hj, rfl⟩ := List.getElem_of_mem hy
  have h1 := isRg_d h j hj
  have e : x.d.getD j 0 = x.d[j] := by simp [List.getD, hj]
  rw [e] at h1
  have h2 := isRg_k h
  exact ⟨h1.1, by have := h1.2.1; omega⟩
set_option maxHeartbeats 2000000 in
theorem riText_any (v : Value) (x : Rg) (w : World) (h : RRg w w.heap.size v x) (hg : isRg x = true) :
    Calls Tryd.prog 16 #[v] w (RetV w (.string ⟨(rtL x).toArray⟩)) := by
  have hk := isRg_k hg
  have hl12 := isRg_len hg
  have hmem := isRg_all hg
  clear hg
  obtain ⟨s, rfl, h⟩ := h
  obtain ⟨k, l⟩ := x
  simp only [RgV] at h hk hl12 hmem ⊢
  obtain ⟨A, c, rfl, hlc, hc⟩ := h
  have hW : Below w.heap.size w (w.alloc (.cells #[.int .i64 k, .slice A l.length c] 28)) := (Below.refl _ _).alloc (Nat.le_refl _) _
  have hB := BK.made w 28 #[.int .i64 k, .slice A l.length c]
  have hlI : (l.length : Int) ≤ 12 := by omega
  have HIN : Hid (∀ j, j < l.length → 0 ≤ l.getD j 0 ∧ l.getD j 0 ≤ 1000) := by
    show ∀ _, _
    intro j hj
    have e : l.getD j 0 = l[j] := by simp [List.getD, hj]
    rw [e]
    exact hmem _ (List.getElem_mem hj)
  have HLN := Lib.hid (fun j => Nat.le_trans (txJ_len (l.take j) fun x hx => hmem x (List.mem_of_mem_take hx)) (show 22 * (l.take j).length ≤ 880 from by simp; omega))
  have HNU := Lib.hid (fun x w h => numOf_any x w h)
  have HNK := Lib.hid (fun w => numOf_any k w ⟨by omega, by omega⟩)
  have hkl := itoa_short (x := k) ⟨by omega, by omega⟩
  have HCC : Hid (∀ j, j < l.length → ∃ b off, A = some ⟨b, off, none⟩ ∧ b < w.heap.size ∧ w.cell? ⟨b, off + j, none⟩ = some (.int .i64 (l.getD j 0))) := by
    show ∀ _, _
    intro j hj
    obtain ⟨b, off, h1, h2, h3⟩ := hc (by omega)
    exact ⟨b, off, h1, h2, h3 j hj⟩
  unfold rtL
  obtain ⟨K, hK⟩ : ∃ K, K = Lib.itoa k := ⟨_, rfl⟩
  rw [← hK] at HNK hkl ⊢
  obtain ⟨S, hS⟩ : ∃ S : Nat → List UInt8, S = fun j => K ++ [58] ++ txJ (l.take j) := ⟨_, rfl⟩
  have HS0 : Hid (S 0 = K ++ [58]) := by show _ = _; rw [hS]; simp [txJ_nil]
  have HSN : Hid (S l.length = K ++ [58] ++ txJ l) := by show _ = _; rw [hS]; simp only [List.take_length]
  have HSL : Hid (∀ j, (S j).length ≤ 902) := by show ∀ _, _; intro j; rw [hS]; have := HLN.out j; simp only [List.length_append, List.length_cons, List.length_nil]; omega
  have HSS : Hid (∀ j, 0 < j → j < l.length → S (j + 1) = S j ++ [44] ++ Lib.itoa (l.getD j 0)) := by show ∀ _, _; intro j h1 h2; rw [hS]; simp only [txJ_succ l j h1 h2, List.append_assoc]
  have HSF : Hid (0 < l.length → S 1 = S 0 ++ Lib.itoa (l.getD 0 0)) := by show _ → _; intro h1; rw [hS]; simp only [txJ_first l h1]; simp [txJ_nil]
  rw [← HSN.out]
  have hap0 := app_str K [58]
  clear hc hmem HLN hS hK
  go_enter Tryd.func16, Tryd.ntmps16
  go_wp2_with fail
  refine (HNK.out _).mono ?_; rintro e w1 ⟨rfl, hb1⟩
  have hB1 := hB.step hb1
  have c0 := hB1.cell 0
  have c1 := hB1.cell 1
  simp only [List.getElem?_toArray, List.getElem?_cons_zero, List.getElem?_cons_succ] at c0 c1
  have HB1 := Lib.hid (hW.trans (hb1.mono hW.size))
  clear hW hB hb1 hB1
  go_wp2_with fail
  go_loopg [13, 3] l.length (fun g s13 s3 wx => ∃ j : Nat, j + g = l.length ∧ s13 = .int .i64 (j : Int) ∧ s3 = .string ⟨(S j).toArray⟩ ∧ Below w.heap.size w wx)
  case atStart => exact ⟨0, by omega, rfl, by rw [HS0.out], HB1.out⟩
  case round =>
    obtain ⟨j, hjg, rfl, rfl, hb⟩ := hrel
    have HB := Lib.hid hb
    cases gk with
    | zero =>
      have hje : j = l.length := by omega
      have hz : ¬ ((l.length : Int) < (l.length : Int)) := by omega
      rw [hje]
      clear hje hjg hb
      go_wp2_with fail
      go_ret
      exact ⟨rfl, HB.out⟩
    | succ g =>
      have hj : j < l.length := by omega
      have hjI : (j : Int) < (l.length : Int) := by omega
      obtain ⟨b, off, hA, hbl, hcl⟩ := HCC.out j hj
      subst hA
      have d0 := (hb.cell (p := ⟨b, off + j, none⟩) hbl).trans hcl
      have hin := HIN.out j hj
      have hsl := HSL.out j
      have HN := Lib.hid (fun w => HNU.out (l.getD j 0) w hin)
      have hil := itoa_short hin
      rcases Nat.eq_zero_or_pos j with hj0 | hj0
      · have hj0I : ¬ (0 : Int) < (j : Int) := by omega
        have HX : Hid (S (j + 1) = S j ++ Lib.itoa (l.getD j 0)) := by
          show _ = _
          rw [hj0]
          exact HSF.out (by omega)
        have HJ := Lib.hid hj0
        clear hb hcl hj0
        generalize l.getD j 0 = x at d0 HN HX hin hil
        generalize Lib.itoa x = I at HN HX hil
        obtain ⟨T, hT⟩ : ∃ T, T = S j := ⟨_, rfl⟩
        rw [← hT] at HX hsl ⊢
        clear hT
        have hap := app_str T I
        go_wp2_with fail
        refine (HN.out _).mono ?_; rintro e w5 ⟨rfl, hb5⟩
        have HB5 := Lib.hid (HB.out.trans (hb5.mono HB.out.size))
        clear hb5
        go_wp2_with fail
        go_roundg g
        case measure => omega
        case rel => exact ⟨j + 1, by omega, by go_num, by rw [HX.out], HB5.out⟩
      · have HX := Lib.hid (HSS.out j hj0 hj)
        have hj0I : (0 : Int) < (j : Int) := by omega
        clear hb hcl
        generalize l.getD j 0 = x at d0 HN HX hin hil
        generalize Lib.itoa x = I at HN HX hil
        obtain ⟨T, hT⟩ : ∃ T, T = S j := ⟨_, rfl⟩
        rw [← hT] at HX hsl ⊢
        clear hT
        have hap1 := app_str T [44]
        have hap2 := app_str (T ++ [44]) I
        have hl1 : (T ++ [44]).length ≤ 920 := by simp; omega
        go_wp2_with fail
        refine (HN.out _).mono ?_; rintro e w5 ⟨rfl, hb5⟩
        have HB5 := Lib.hid (HB.out.trans (hb5.mono HB.out.size))
        clear hb5
        go_wp2_with fail
        go_roundg g
        case measure => omega
        case rel => exact ⟨j + 1, by omega, by go_num, by rw [HX.out]; simp, HB5.out⟩
set_option maxHeartbeats 2000000 in
theorem specRingText_any (v : Value) (x : Rg) (w : World) (h : RRg w w.heap.size v x) (hn : x.d.length ≤ 1048576) :
    Calls Tryd.prog 6 #[v] w (RetV w (.tuple #[.string (rtSays x).1, .bool (rtSays x).2])) := by
  have HG := Lib.hid (fun v w h => riGood_any v x w h hn)
  have HX := Lib.hid (fun v w h hg => riText_any v x w h hg)
  have hr := h
  obtain ⟨s, rfl, h⟩ := h
  have hrr : RRg w w.heap.size (RgV x s) x := hr
  obtain ⟨A, c, rfl, _⟩ := h
  have hW : Below w.heap.size w (w.alloc (.cells #[.int .i64 x.k, .slice A x.d.length c] 28)) := (Below.refl _ _).alloc (Nat.le_refl _) _
  have hB := BK.made w 28 #[.int .i64 x.k, .slice A x.d.length c]
  have HR1 := Lib.hid ((hrr.step hW (Nat.le_refl _)).more hW.size)
  have HG1 := Lib.hid (HG.out _ _ HR1.out)
  cases hg : isRg x
  · rw [hg] at HG1
    rw [show rtSays x = (⟨#[]⟩, false) from by simp [rtSays, hg]]
    unfold RgV at HG1 ⊢
    clear hg hB
    go_enter Tryd.func6, Tryd.ntmps6
    go_wp2_with fail
    refine HG1.out.mono ?_; rintro e w1 ⟨rfl, hb⟩
    go_wp2_with fail
    go_ret2
    exact ⟨rfl, hW.trans (hb.mono hW.size)⟩
  rw [hg] at HG1
  rw [show rtSays x = (⟨(rtL x).toArray⟩, true) from by simp [rtSays, hg]]
  have HX1 := Lib.hid (fun w1 (hb : Below (w.alloc (.cells #[.int .i64 x.k, .slice A x.d.length c] 28)).heap.size (w.alloc (.cells #[.int .i64 x.k, .slice A x.d.length c] 28)) w1) => HX.out (RgV x (.slice A x.d.length c)) w1 ((HR1.out.step hb (Nat.le_refl _)).more hb.size) hg)
  unfold RgV at HG1 HX1 ⊢
  clear hg
  go_enter Tryd.func6, Tryd.ntmps6
  go_wp2_with fail
  refine HG1.out.mono ?_; rintro e w1 ⟨rfl, hb⟩
  have hB1 := hB.step hb
  have c0 := hB1.cell 0
  have c1 := hB1.cell 1
  simp only [List.getElem?_toArray, List.getElem?_cons_zero, List.getElem?_cons_succ] at c0 c1
  have HX2 := Lib.hid (HX1.out w1 hb)
  have HT := Lib.hid (hW.trans (hb.mono hW.size))
  clear hB hB1 hb
  go_wp2_with fail
  refine HX2.out.mono ?_; rintro e w2 ⟨rfl, hb2⟩
  have HT2 := Lib.hid (HT.out.trans (hb2.mono HT.out.size))
  clear hb2
  go_wp2_with fail
  go_ret2
  exact ⟨rfl, HT2.out⟩
set_option maxHeartbeats 2000000 in
theorem implRingText_any (v : Value) (x : Rg) (w : World) (h : RRg w w.heap.size v x) (hn : x.d.length ≤ 1048576) (ht : Lib.TabIs Tryd.prog w "internal/strconv.uint64pow10" .u64 Lib.pow10Tab) :
    Calls Tryd.prog 8 #[v] w (RetV w (.tuple #[.string (rtSays x).1, .bool (rtSays x).2])) := by
  have HTB := Lib.hid (Lib.tabBelow_of_tabIs ht)
  have HG := Lib.hid (fun v w h => implIsRing_any v x w h hn)
  have hr := h
  obtain ⟨s, rfl, h⟩ := h
  have hrr : RRg w w.heap.size (RgV x s) x := hr
  have hri := h
  obtain ⟨A, c, rfl, _⟩ := h
  have hW : Below w.heap.size w (w.alloc (.cells #[.int .i64 x.k, .slice A x.d.length c] 28)) := (Below.refl _ _).alloc (Nat.le_refl _) _
  have hB := BK.made w 28 #[.int .i64 x.k, .slice A x.d.length c]
  have HR1 := Lib.hid ((hrr.step hW (Nat.le_refl _)).more hW.size)
  have HG1 := Lib.hid (HG.out _ _ HR1.out)
  cases hg : isRg x
  · rw [hg] at HG1
    rw [show rtSays x = (⟨#[]⟩, false) from by simp [rtSays, hg]]
    unfold RgV at HG1 ⊢
    clear hg hB
    go_enter Tryd.func8, Tryd.ntmps8
    go_wp2_with fail
    refine HG1.out.mono ?_; rintro e w1 ⟨rfl, hb⟩
    go_wp2_with fail
    go_ret2
    exact ⟨rfl, hW.trans (hb.mono hW.size)⟩
  have hk := isRg_k hg
  have hl12 := isRg_len hg
  have hmem := isRg_all hg
  rw [hg] at HG1
  rw [show rtSays x = (⟨(rtL x).toArray⟩, true) from by simp [rtSays, hg]]
  have HRI := Lib.hid hri
  have hkl := itoa_short (x := x.k) ⟨by omega, by omega⟩
  have hjl := txJ_len x.d hmem
  have HTX := Lib.hid (fun w h t => textOf_any (.slice A x.d.length c) x.d w h (by omega) hmem t)
  have HIT := Lib.hid (fun w t => itoa_below x.k w ⟨by omega, by omega⟩ t)
  unfold nV at HIT
  unfold rtL
  unfold RgV at HG1 ⊢
  generalize Lib.itoa x.k = K at HIT hkl ⊢
  generalize txJ x.d = J at HTX hjl ⊢
  have hjl2 : J.length ≤ 300 := by omega
  have hap1 := app_str K [58]
  have hap2 := app_str (K ++ [58]) J
  have hl1 : (K ++ [58]).length ≤ 30 := by simp; omega
  rw [show K ++ [58] ++ J = K ++ 58 :: J from by simp]
  clear hg hmem hri hr hrr hjl
  go_enter Tryd.func8, Tryd.ntmps8
  go_wp2_with fail
  refine HG1.out.mono ?_; rintro e w1 ⟨rfl, hb⟩
  have hB1 := hB.step hb
  have e0 := hB1.cell 0
  have e1 := hB1.cell 1
  simp only [List.getElem?_toArray, List.getElem?_cons_zero, List.getElem?_cons_succ] at e0 e1
  have HT := Lib.hid (hW.trans (hb.mono hW.size))
  have hlt := hB1.1
  have HIS : Hid (∀ s : HW w1, Calls Tryd.prog 18 #[.int .i64 x.k] s.W (RetV s.W (.string ⟨K.toArray⟩))) := by
    show ∀ _, _
    intro s
    exact HIT.out s.W (HTB.out s.W (HT.out.trans (s.bel.mono HT.out.size)))
  have HXS : Hid (∀ s : HW w1, Calls Tryd.prog 19 #[.slice A x.d.length c] s.W (RetV s.W (.string ⟨J.toArray⟩))) := by
    show ∀ _, _
    intro s
    have hb9 := HT.out.trans (s.bel.mono HT.out.size)
    exact HTX.out s.W ((HRI.out.below hb9).more hb9.size) (HTB.out s.W hb9)
  have a0 := fun (s : HW w1) => HW.cellIs (p := ⟨w.heap.size, 0, none⟩) e0 (show w.heap.size < _ from hlt) s
  have a1 := fun (s : HW w1) => HW.cellIs (p := ⟨w.heap.size, 1, none⟩) e1 (show w.heap.size < _ from hlt) s
  clear hW hB hb hB1 e0 e1
  go_upto_region 3 with fail
  refine wp_region_held_lit (by kernel_rfl) (by kernel_rfl) ?_
  repeat (go_big_quiet_step ((first | (go_at_call 18; with_reducible exact held_call _ (HIS.out _)) | (go_at_call 19; with_reducible exact held_call _ (HXS.out _)))))
  refine wpQuiet_nil ?_
  intro _ hw'
  obtain ⟨s5, hw''⟩ := hw'
  subst hw''
  have HB5 := Lib.hid (HT.out.trans (s5.bel.mono HT.out.size))
  clear a0 a1
  go_wp2_with fail
  go_ret2
  exact ⟨rfl, HB5.out⟩
end Go.Proofs.YtdpccmpongcioaaDoor
