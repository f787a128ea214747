/-
  The contracts of the program's textOfNumbers and TrafficText.
-/
import Derived.Test.YtfncajdhdcpooaaDoorTxB
import Derived.Test.YtfncajdhdcpooaaDoorHeld
import Derived.Test.YtfncajdhdcpooaaDoorRow5
import Derived.Lib.AppendZeros
namespace Go.Proofs.YtfncajdhdcpooaaDoor
open Go.RowKit Go.Conc
set_option maxRecDepth 100000
set_option linter.unusedVariables false

theorem string_info : (Tryd.prog.info? 9).map (fun i => (i.zero, i.size, i.bytes)) = some (some (.string ⟨#[]⟩), 1, 16) := by kernel_rfl
/-- The row of the first j texts. -/
def wsP (l : List Int) (j : Nat) : List Value := (List.range l.length).map fun i => if i < j then nV (l.getD i 0) else .string ⟨#[]⟩
theorem wsP_len (l : List Int) (j : Nat) : (wsP l j).length = l.length := by simp [wsP]
theorem wsP_zero (l : List Int) : wsP l 0 = List.replicate l.length (.string ⟨#[]⟩) := by
  apply List.ext_getElem (by simp [wsP])
  intro i h1 h2
  simp [wsP]
theorem wsP_set (l : List Int) (j : Nat) : (wsP l j).set j (nV (l.getD j 0)) = wsP l (j + 1) := by
  apply List.ext_getElem (by simp [wsP])
  intro i h1 h2
  rw [List.getElem_set]
  simp only [wsP, List.getElem_map, List.getElem_range]
  by_cases e : j = i
  · subst e; simp
  · have e2 : (i < j + 1) ↔ (i < j) := by omega
    simp only [e, if_false, e2]
theorem wsP_at (l : List Int) (i : Nat) (hi : i < l.length) : (wsP l l.length)[i]? = some (nV (l.getD i 0)) := by
  rw [List.getElem?_eq_getElem (by rw [wsP_len]; exact hi)]
  simp only [wsP, List.getElem_map, List.getElem_range, if_pos hi]
theorem join_words (l : List Int) (bk n : Nat) (w : World) (hn : l.length = n) (hl : l.length ≤ 40) (hm : ∀ x ∈ l, 0 ≤ x ∧ x ≤ 1000) (h : ∀ i, i < l.length → w.cell? ⟨bk, i, none⟩ = some (nV (l.getD i 0))) (hbk : bk < w.heap.size) :
    Calls Tryd.prog 50 #[.slice (some ⟨bk, 0, none⟩) n n, .string ⟨#[44]⟩] w (RetV w (.string ⟨(txJ l).toArray⟩)) := by
  have e1 : ((l.map fun x => (⟨(Lib.itoa x).toArray⟩ : ByteArray)).map (·.data.toList)) = l.map Lib.itoa := by
    rw [List.map_map]
    apply List.map_congr_left
    intro x _
    rfl
  have e2 : (⟨#[44]⟩ : ByteArray).data.toList = [44] := rfl
  have h3 := txJ_len l hm
  have h1 := Tryd.strings_Join bk 0 n (l.map fun x => ⟨(Lib.itoa x).toArray⟩) ⟨#[44]⟩ w (fun j x hx => by
    rw [List.getElem?_map] at hx
    rw [Nat.zero_add]
    have hj : j < l.length := by
      rcases Nat.lt_or_ge j l.length with h9 | h9
      · exact h9
      · rw [List.getElem?_eq_none h9] at hx
        cases hx
    rw [List.getElem?_eq_getElem hj] at hx
    obtain rfl := Option.some.inj hx
    rw [h j hj]
    simp [nV, List.getD, hj]) hbk (by rw [List.length_map]; omega) (by rw [List.length_map]; omega) (by rw [e1, e2]; show (txJ l).length ≤ _; omega)
  rw [e1, e2, List.length_map, hn] at h1
  exact h1
set_option maxHeartbeats 2000000 in
theorem textOf_any (v : Value) (l : List Int) (w : World) (h : RI w w.heap.size v l) (hl : l.length ≤ 40) (hm : ∀ x ∈ l, 0 ≤ x ∧ x ≤ 1000) (ht : Lib.TabIs Tryd.prog w "internal/strconv.uint64pow10" .u64 Lib.pow10Tab) :
    Calls Tryd.prog 37 #[v] w (RetV w (.string ⟨(txJ l).toArray⟩)) := by
  have HTB := Lib.hid (Lib.tabBelow_of_tabIs ht)
  have hr := h
  obtain ⟨A, c, rfl, hlc, hc⟩ := h
  have hlI : (l.length : Int) ≤ 40 := by omega
  obtain ⟨i0, hi, hz0, hz1, hz2⟩ := info_parts string_info
  have HIN : Hid (∀ j, j < l.length → 0 ≤ l.getD j 0 ∧ l.getD j 0 ≤ 1000) := by
    show ∀ _, _
    intro j hj
    have e : l.getD j 0 = l[j] := by simp [List.getD, hj]
    rw [e]
    exact hm _ (List.getElem_mem hj)
  have HCC : Hid (∀ j, j < l.length → ∃ b off, A = some ⟨b, off, none⟩ ∧ b < w.heap.size ∧ w.cell? ⟨b, off + j, none⟩ = some (.int .i64 (l.getD j 0))) := by
    show ∀ _, _
    intro j hj
    obtain ⟨b, off, h1, h2, h3⟩ := hc (by omega)
    exact ⟨b, off, h1, h2, h3 j hj⟩
  have HIT := Lib.hid (fun x w h ht => itoa_below x w h ht)
  have HJN := Lib.hid (fun bk n w h1 h2 h3 => join_words l bk n w h1 hl hm h2 h3)
  have HWS := Lib.hid (fun j => wsP_set l j)
  have HWA := Lib.hid (fun i hi => wsP_at l i hi)
  have HWL := Lib.hid (fun j => wsP_len l j)
  have HW0 := Lib.hid (wsP_zero l)
  clear hc hm ht hr
  go_enter Tryd.func37, Tryd.ntmps37
  go_wp2_with (at_make; refine wpList_make_full _ rfl _ _ 67 rfl w.heap.size 9 i0 _ 1 Tryd.underlying67 hi hz0 hz1 _ _ _ _ l.length rfl rfl rfl rfl (by rw [hz2]; omega) (by unfold maxLen; omega) (Nat.le_refl _) ?_; intro w2 hown hg)
  have hrow : w2.ownsRow w.heap.size 9 1 (.slice (some ⟨w.heap.size, 0, none⟩) l.length l.length) l.length (wsP l 0) := by
    rw [HW0.out]
    have h1 : (Value.string ⟨#[]⟩).cells = #[Value.string ⟨#[]⟩] := rfl
    rw [Nat.mul_one, h1, toList_madeCells_one] at hown
    exact hown
  have hb2 : Below w.heap.size w w2 := (Below.refl _ _).grown hg (Nat.le_refl _) (by intro k hk; cases hk)
  have HR2 := Lib.hid hrow
  have HB2 := Lib.hid hb2
  clear hown hg hrow hb2 HW0
  go_wp2_with fail
  go_loopg [11] l.length (fun g sI wx => ∃ j : Nat, j + g = l.length ∧ sI = .int .i64 (j : Int) ∧ wx.ownsRow w.heap.size 9 1 (.slice (some ⟨w.heap.size, 0, none⟩) l.length l.length) l.length (wsP l j) ∧ Below w.heap.size w wx)
  case atStart => exact ⟨0, by omega, rfl, HR2.out, HB2.out⟩
  case round =>
    clear HR2 HB2
    obtain ⟨j, hjg, rfl, hrow, hb⟩ := hrel
    have HB := Lib.hid hb
    have htl := (row_parts hrow).2.1
    cases gk with
    | zero =>
      have hje : j = l.length := by omega
      have hz : ¬ ((l.length : Int) < (l.length : Int)) := by omega
      have HJ := Lib.hid (HJN.out w.heap.size l.length wr rfl (fun i hi => by
        rw [hje] at hrow
        rw [World.ownsRow.cellAt hrow i (by omega)]
        exact HWA.out i hi) htl)
      rw [hje]
      clear hje hjg hb hrow
      go_wp2_with fail
      refine HJ.out.mono ?_; rintro e w5 ⟨rfl, hb5⟩
      have HB5 := Lib.hid (HB.out.trans (hb5.mono HB.out.size))
      clear hb5
      go_wp2_with fail
      go_ret
      exact ⟨rfl, HB5.out⟩
    | succ g =>
      have hj : j < l.length := by omega
      have hjI : (j : Int) < (l.length : Int) := by omega
      obtain ⟨b, off, hA, hbl, hcl⟩ := HCC.out j hj
      subst hA
      have d0 := (hb.cell (p := ⟨b, off + j, none⟩) hbl).trans hcl
      have HI := Lib.hid (HIT.out (l.getD j 0) wr (HIN.out j hj) (HTB.out wr hb))
      have HX := Lib.hid (HWS.out j)
      have HROW := Lib.hid hrow
      have hwl := HWL.out j
      clear hcl hb hrow
      generalize l.getD j 0 = x at d0 HI HX
      go_wp2_with fail
      refine HI.out.mono ?_; rintro e w5 ⟨rfl, hb5⟩
      have hrow5 := row_far HROW.out (Wr.of_below hb5 wr.heap.size wr.heap.size) (.inl htl)
      have hcx : ∃ u0, w5.cell? ⟨w.heap.size, j, none⟩ = some u0 := by
        rw [World.ownsRow.cellAt hrow5 j (by omega)]
        exact ⟨_, List.getElem?_eq_getElem (by omega)⟩
      obtain ⟨u0, hu0⟩ := hcx
      have hfz := World.ownsRow.frozenAt hrow5 j
      have hst := (World.ownsRow.stored hrow5 j (nV x)).1
      rw [HX.out] at hst
      have HST := Lib.hid hst
      have HB6 : Hid (Below w.heap.size w (w5.setCell ⟨w.heap.size, j, none⟩ (nV x))) := (HB.out.trans (hb5.mono HB.out.size)).setCell (p := ⟨w.heap.size, j, none⟩) (Nat.le_refl _) _
      clear hrow5 hb5 hst hwl
      unfold nV at HST HB6 ⊢
      go_wp2_with fail
      go_roundg g
      case measure => omega
      case rel => exact ⟨j + 1, by omega, by go_num, HST.out, HB6.out⟩
set_option maxHeartbeats 2000000 in
theorem implTrafficText_any (v : Value) (l : List Int) (w : World) (h : RI w w.heap.size v l) (hn : l.length ≤ 1048576) (ht : Lib.TabIs Tryd.prog w "internal/strconv.uint64pow10" .u64 Lib.pow10Tab) :
    Calls Tryd.prog 17 #[v] w (RetV w (.tuple #[.string (txSays l).1, .bool (txSays l).2])) := by
  have HT := Lib.hid (implTraffic_any v l w h hn)
  have hr := h
  obtain ⟨A, c, rfl, hlc, hc⟩ := h
  clear hc
  cases hg : trOk l
  · rw [hg] at HT
    rw [show txSays l = (⟨#[]⟩, false) from by simp [txSays, hg]]
    clear hg hr ht
    go_enter Tryd.func17, Tryd.ntmps17
    go_wp2_with fail
    refine HT.out.mono ?_; rintro e w' ⟨rfl, rfl⟩
    go_wp2_with fail
    go_ret2
    exact ⟨rfl, Below.refl _ _⟩
  have hl40 := trOk_len hg
  have hmem := trOk_mem hg
  rcases Nat.eq_zero_or_pos l.length with h0 | h0
  · rw [show txSays l = (⟨#[45]⟩, true) from by simp [txSays, hg, h0]]
    rw [hg] at HT
    clear hg hmem hr hl40 hlc hn ht
    obtain rfl := List.eq_nil_of_length_eq_zero h0
    simp only [List.length_nil] at HT ⊢
    clear h0
    go_enter Tryd.func17, Tryd.ntmps17
    go_wp2_with fail
    refine HT.out.mono ?_; rintro e w' ⟨rfl, rfl⟩
    go_wp2_with fail
    go_ret2
    exact ⟨rfl, Below.refl _ _⟩
  rw [show txSays l = (⟨(txJ l).toArray⟩, true) from by simp only [txSays, hg, if_true]; rw [if_neg (by omega)]]
  rw [hg] at HT
  have hI : ((l.length : Int) == 0) = false := by rw [beq_eq_false_iff_ne]; omega
  have HX := Lib.hid (textOf_any _ l w hr hl40 hmem ht)
  clear hg hmem hr ht
  go_enter Tryd.func17, Tryd.ntmps17
  go_wp2_with fail
  refine HT.out.mono ?_; rintro e w' ⟨rfl, rfl⟩
  go_wp2_with fail
  refine HX.out.mono ?_; rintro e w5 ⟨rfl, hb5⟩
  go_wp2_with fail
  go_ret2
  exact ⟨rfl, hb5⟩
end Go.Proofs.YtfncajdhdcpooaaDoor
