/-
  The contracts of the laws' helpers on an argument that is a slice of slices of ints: its measure, its copy.
-/
import Derived.Test.YtgkpdlicgllcoaaIntSS
import Derived.Test.YtgkpdlicgllcoaaRowPut
import Derived.Test.YtgkpdlicgllcoaaSz
import Derived.Test.YtgkpdlicgllcoaaRow5
import Derived.Deep.LoopGhost
import Derived.Deep.DeepCutAuto
namespace Go.Proofs.Ytgkpdlicgllcoaa
open Go.RowKit
set_option maxRecDepth 100000
set_option linter.unusedVariables false

def RetSB (w : World) (L : List (List Int)) (b : Bool) (e : Ending) (w' : World) : Prop := ∃ u, e = .returned (.tuple #[u, .bool b]) ∧ OS 22 3 w' w.heap.size w'.heap.size u L ∧ Below w.heap.size w w'
def RetS (w : World) (L : List (List Int)) (e : Ending) (w' : World) : Prop := ∃ u, e = .returned u ∧ OS 22 3 w' w.heap.size w'.heap.size u L ∧ Below w.heap.size w w'
theorem intSS_info : (Try.prog.info? 22).map (fun i => (i.zero, i.size, i.bytes)) = some (some (.slice none 0 0), 1, 24) := by kernel_rfl
theorem Wr.then9 {a b : Nat} {w w1 w2 : World} (h : Wr a b w w1) (hb : Below w1.heap.size w1 w2) : Wr a b w w2 :=
  ⟨hb.os.trans h.os, hb.tape.trans h.tape, hb.output.trans h.output, Nat.le_trans h.size hb.size, fun k hk hn => (hb.block k (Nat.lt_of_lt_of_le hk h.size)).trans (h.block k hk hn)⟩
theorem OS.made {T E : TypeId} {w : World} {lo g n c : Nat} (h : w.ownsRow lo T 1 (.slice (some ⟨g, 0, none⟩) n c) n (madeCells (Value.slice none 0 0).cells (n * 1)).toList) :
    OS T E w lo w.heap.size (.slice (some ⟨g, 0, none⟩) n c) (List.replicate n []) := by
  have h1 : (Value.slice none 0 0).cells = #[Value.slice none 0 0] := rfl
  rw [Nat.mul_one, h1, toList_madeCells_one] at h
  have hlt := (row_parts h).2.1
  refine ⟨List.replicate n ⟨.slice none 0 0, 0, []⟩, by simp, by rw [List.length_replicate, List.map_replicate]; exact h, fun k hk => ?_, fun r hm => ?_, ?_⟩
  · simp [Value.ownBlock] at hk
    omega
  · obtain ⟨_, rfl⟩ := List.mem_replicate.1 hm
    exact ⟨.inl ⟨rfl, none, 0, rfl, by simp, fun _ => rfl⟩, fun h => absurd rfl h⟩
  · rw [List.pairwise_iff_getElem]
    intro p q hp hq _ hne
    simp at hne
/-- A row made behind all is put in the place of another: it may be empty. -/
theorem OS.set_row2 {T E : TypeId} {w : World} {lo hi A c n : Nat} {L : List (List Int)} (hTE : T ≠ E) (h : OS T E w lo hi (.slice (some ⟨A, 0, none⟩) n c) L) (hln : L.length = n) (j : Nat) (hj : j < n) {u : Value} {l : List Int} {h1 : Nat} (hu : OI E w hi h1 u l) (hlh : lo ≤ hi) (h12 : hi ≤ h1) :
    w.frozen? ⟨A, j, none⟩ = false ∧ (∃ u0, w.cell? ⟨A, j, none⟩ = some u0) ∧ OS T E (w.setCell ⟨A, j, none⟩ u) lo h1 (.slice (some ⟨A, 0, none⟩) n c) (L.set j l) := by
  subst hln
  by_cases hl : l = []
  · subst hl
    obtain ⟨rows, hL, hown, hhi, hr, hp⟩ := h
    have hn : rows.length = L.length := by rw [← hL, List.length_map]
    have hjr : j < rows.length := by omega
    have hown0 := hown
    have hwr := (Wr.refl A (A + 1) w).setCell (p := ⟨A, j, none⟩) (Nat.le_refl A) (Nat.lt_succ_self A) u
    refine ⟨World.ownsRow.frozenAt hown0 j, ?_, rows.set j ⟨u, 0, []⟩, by rw [List.map_set, hL], ?_, fun k hk => by have := hhi k hk; omega, ?_, ?_⟩
    · rw [World.ownsRow.cellAt hown0 j (by omega)]
      exact ⟨_, List.getElem?_eq_getElem (by simp; exact hjr)⟩
    · rw [List.length_set, List.map_set]
      exact (World.ownsRow.stored hown0 j u).1
    · intro r hm
      obtain ⟨q, hq, rfl⟩ := List.getElem_of_mem hm
      rw [List.length_set] at hq
      rw [List.getElem_set]
      by_cases e : j = q
      · rw [if_pos e]
        exact ⟨hu.empty_far, fun h => absurd rfl h⟩
      · rw [if_neg e]
        have hq2 := hr _ (List.getElem_mem hq)
        have hf := hq2.far hwr fun hl2 => by
          have hap := OS.apart (lo2 := 0) (hi2 := 0) hTE hown0 hq2.1 hl2
          have : rows[q].g ≠ A := fun h9 => hap (by rw [h9]; rfl)
          omega
        exact ⟨hf.1, fun hl2 => by have := hf.2 hl2; omega⟩
    · rw [List.pairwise_iff_getElem] at hp ⊢
      intro p q hpp hqq hlt
      rw [List.length_set] at hpp hqq
      simp only [List.getElem_set]
      by_cases e1 : j = p
      · rw [if_pos e1]
        intro hl2
        exact absurd rfl hl2
      · rw [if_neg e1]
        by_cases e2 : j = q
        · rw [if_pos e2]
          intro _ hl2
          exact absurd rfl hl2
        · rw [if_neg e2]
          exact hp p q hpp hqq hlt
  · obtain ⟨A', c', hv, _, _, _, h5, h6, h7⟩ := OS.set_row hTE h j hj hu hl hlh h12
    injection hv with hA _ hc
    injection hA with hA
    injection hA with hA
    subst hA
    subst hc
    exact ⟨h5, h6, h7⟩
theorem own_of_row {E : TypeId} {w : World} {lo : Nat} {v : Value} {l : List Int} (h : w.ownsRow lo E 1 v l.length (ics l)) (hl : l ≠ []) : ∃ b, v.ownBlock = some b ∧ lo ≤ b ∧ b < w.heap.size ∧ OI E w b (b + 1) v l := by
  rcases h.2 with ⟨_, h0⟩ | ⟨b, c, cur, rfl, h1, h2, h3⟩
  · exact absurd (List.eq_nil_of_length_eq_zero h0) hl
  · exact ⟨b, rfl, h1, (Array.getElem?_eq_some_iff.1 h2).1, .inr ⟨b, c, rfl, Nat.le_refl _, Nat.lt_succ_self _, h.1, .inr ⟨b, c, cur, rfl, Nat.le_refl _, h2, h3⟩⟩⟩
/-- What the measure leaves. -/
def szL (n : Int) (L : List (List Int)) : Int := if n < (L.length : Int) + total L then -1 else n - L.length - total L
theorem total_take (L : List (List Int)) (k : Nat) (hk : k < L.length) : total (L.take (k + 1)) = total (L.take k) + (L.getD k []).length := by
  rw [List.take_add_one, total_append]
  simp [List.getD, hk, total]
theorem total_take_le (L : List (List Int)) (k : Nat) : total (L.take k) ≤ total L := by
  have h := total_append (L.take k) (L.drop k)
  rw [List.take_append_drop] at h
  omega
set_option maxHeartbeats 1000000 in
theorem szIntSS_any (v : Value) (L : List (List Int)) (n : Int) (w : World) (h : RS w w.heap.size v L) (h0 : 0 ≤ n) (h1 : n ≤ 1048576) :
    Calls Try.prog 46 #[v, .int .i64 n] w (RetV w (.int .i64 (szL n L))) := by
  obtain ⟨V, A, c, rfl, hV, hlc, hc, hr⟩ := h
  have hmx : L.length ≤ 9223372036854775807 := by have := hlc.2.1; have := hlc.1; unfold maxLen at *; omega
  have h3 : (L.length : Int) ≤ 9223372036854775807 := by omega
  rcases Int.lt_or_le n L.length with hlt | hlt
  · have e : szL n L = -1 := if_pos (by omega)
    rw [e]
    have hneg : n - (L.length : Int) < 0 := by omega
    clear hc hr
    go_enter Try.func46, Try.ntmps46
    go_wp2
    go_ret
    exact ⟨rfl, Below.refl _ _⟩
  have hneg : ¬ (n - (L.length : Int) < 0) := by omega
  have HC := Lib.hid hc
  have HR := Lib.hid hr
  clear hc hr
  obtain ⟨S, hS⟩ : ∃ S, S = szL n L := ⟨_, rfl⟩
  have HSN : Hid (n < (L.length : Int) + total L → S = -1) := fun h => by rw [hS]; exact if_pos h
  have HSY : Hid (¬ n < (L.length : Int) + total L → S = n - L.length - total L) := fun h => by rw [hS]; exact if_neg h
  rw [← hS]
  clear hS
  go_enter Try.func46, Try.ntmps46
  go_wp2_with fail
  go_loopg [5, 1] L.length (fun g s5 s1 wx => ∃ k : Nat, k + g = L.length ∧ s5 = .int .i64 (k : Int) ∧ s1 = .int .i64 (n - L.length - total (L.take k)) ∧ 0 ≤ n - L.length - total (L.take k) ∧ wx = w)
  case atStart => exact ⟨0, by omega, rfl, by simp [total], by simp [total]; omega, rfl⟩
  case round =>
    obtain ⟨k, hkg, rfl, rfl, hnn, rfl⟩ := hrel
    cases gk with
    | zero =>
      have hke : k = L.length := by omega
      have hz : ¬ ((L.length : Int) < (L.length : Int)) := by omega
      rw [hke, List.take_length] at hnn ⊢
      have HS := Lib.hid (HSY.out (by omega))
      clear hke hkg
      go_wp2_with fail
      go_ret
      exact ⟨by rw [HS.out]; rfl, Below.refl _ _⟩
    | succ g =>
      have hk : k < L.length := by omega
      have hk' : (k : Int) < (L.length : Int) := by omega
      obtain ⟨b, off, rfl, hbB, hcell⟩ := HC.out (by omega)
      have hcx := hcell k hk
      have hrk := HR.out k hk
      have htt := total_take L k hk
      have hml : (L.getD k []).length ≤ maxLen := by obtain ⟨_, _, _, hx, _⟩ := hrk; omega
      have HZ := Lib.hid (szIntS_any _ (L.getD k []) (n - L.length - total (L.take k)) wr hrk hnn (by omega) hml)
      have hle := total_take_le L (k + 1)
      generalize V.getD k undef = vk at hcx HZ
      obtain ⟨m, hm⟩ : ∃ m, m = n - (L.length : Int) - total (L.take k) := ⟨_, rfl⟩
      have HM := Lib.hid hm
      rw [← hm] at HZ hnn ⊢
      clear hm hcell hrk
      by_cases hlr : m < ((L.getD k []).length : Int)
      · rw [if_pos hlr] at HZ
        have HS := Lib.hid (HSN.out (by have := HM.out; omega))
        clear hlr htt hle hml
        go_wp2_with fail
        refine HZ.out.mono ?_; rintro e w' ⟨rfl, rfl⟩
        go_wp2_with fail
        go_ret
        exact ⟨by rw [HS.out]; rfl, Below.refl _ _⟩
      · rw [if_neg hlr] at HZ
        obtain ⟨q, hq⟩ : ∃ q, q = m - ((L.getD k []).length : Int) := ⟨_, rfl⟩
        rw [← hq] at HZ
        have hq0 : ¬ (q < 0) := by omega
        have HQ : Hid (n - L.length - total (L.take (k + 1)) = q) := by show _ = _; have := HM.out; rw [htt]; push_cast; omega
        clear hlr htt hle hml hq
        go_wp2_with fail
        refine HZ.out.mono ?_; rintro e w' ⟨rfl, rfl⟩
        go_wp2_with fail
        go_roundg g
        case measure => omega
        case rel => exact ⟨k + 1, by omega, by go_num, by rw [HQ.out], by rw [HQ.out]; omega, rfl⟩
/-- The rows so far, and none behind them. -/
def cpSS (L : List (List Int)) (k : Nat) : List (List Int) := L.take k ++ List.replicate (L.length - k) []
theorem cpSS_zero (L : List (List Int)) : cpSS L 0 = List.replicate L.length [] := by simp [cpSS]
theorem cpSS_all (L : List (List Int)) : cpSS L L.length = L := by simp [cpSS]
theorem cpSS_length (L : List (List Int)) (k : Nat) (hk : k ≤ L.length) : (cpSS L k).length = L.length := by simp [cpSS]; omega
theorem cpSS_set (L : List (List Int)) (k : Nat) (hk : k < L.length) : (cpSS L k).set k (L.getD k []) = cpSS L (k + 1) := by
  have e : L.length - k = (L.length - (k + 1)) + 1 := by omega
  have e2 : L.take (k + 1) = L.take k ++ [L[k]] := by rw [List.take_add_one]; simp [hk]
  have e3 : L.getD k [] = L[k] := by simp [List.getD, hk]
  unfold cpSS
  rw [e, List.replicate_succ, List.set_append_right k _ (by simp; omega), List.length_take, show k - min k L.length = 0 by omega, List.set_cons_zero, e2, e3, List.append_assoc]
  rfl
set_option maxHeartbeats 1000000 in
theorem toIntSS_any (v : Value) (L : List (List Int)) (w : World) (h : RS w w.heap.size v L) (hn : L.length ≤ 1048576) (ht : total L ≤ 1048576) : Calls Try.prog 48 #[v] w (RetS w L) := by
  obtain ⟨V, A, c, rfl, hV, hlc, hc, hr⟩ := h
  have HC := Lib.hid hc
  have HR := Lib.hid hr
  have hn' : (L.length : Int) ≤ 1048576 := by omega
  obtain ⟨i0, hi, hz0, hz1, hz2⟩ := info_parts intSS_info
  clear hc hr
  go_enter Try.func48, Try.ntmps48
  go_wp2_with (at_make; refine wpList_make_full _ rfl _ _ 59 rfl w.heap.size 22 i0 _ 1 Try.underlying59 hi hz0 hz1 _ _ _ _ L.length rfl rfl rfl rfl (by rw [hz2]; omega) (by unfold maxLen; omega) (Nat.le_refl _) ?_; intro w3 hown hg3)
  have hb3 : Below w.heap.size w w3 := (Below.refl _ _).grown hg3 (Nat.le_refl _) (by intro k hk; cases hk)
  have hos := OS.made (E := 3) hown
  rw [← cpSS_zero] at hos
  have hlt3 := (row_parts hown).2.1
  have HOS0 := Lib.hid hos
  have HB0 := Lib.hid hb3
  have HLT := Lib.hid hlt3
  clear hown hg3 hb3 hos hlt3
  go_wp2_with fail
  go_loopg [4] L.length (fun g s4 wx => ∃ k : Nat, k + g = L.length ∧ s4 = .int .i64 (k : Int) ∧ OS 22 3 wx w.heap.size wx.heap.size (.slice (some ⟨w.heap.size, 0, none⟩) L.length L.length) (cpSS L k) ∧ Below w.heap.size w wx ∧ w.heap.size < wx.heap.size)
  case atStart => exact ⟨0, by omega, rfl, HOS0.out, HB0.out, HLT.out⟩
  case round =>
    clear HOS0 HB0 HLT
    obtain ⟨k, hkg, rfl, hos, hb, hltw⟩ := hrel
    cases gk with
    | zero =>
      have hke : k = L.length := by omega
      have hz : ¬ ((L.length : Int) < (L.length : Int)) := by omega
      rw [hke, cpSS_all] at hos
      rw [hke]
      have HO := Lib.hid hos
      have HB := Lib.hid hb
      clear hos hb hke hkg
      go_wp2_with fail
      go_ret
      exact ⟨_, rfl, HO.out, HB.out⟩
    | succ g =>
      have hk : k < L.length := by omega
      have hk' : (k : Int) < (L.length : Int) := by omega
      obtain ⟨b, off, rfl, hbB, hcell⟩ := HC.out (by omega)
      have hcx := (hb.cell (p := ⟨b, off + k, none⟩) hbB).trans (hcell k hk)
      have hrk := ((HR.out k hk).below hb).more hb.size
      have hl := total_at hk
      have HT := Lib.hid (toIntS_any _ (L.getD k []) wr hrk (by omega))
      have HOS := Lib.hid hos
      have HB := Lib.hid hb
      have HSET := Lib.hid (cpSS_set L k hk)
      have hlen := cpSS_length L k (by omega)
      generalize V.getD k undef = vk at hcx HT
      generalize L.getD k [] = lk at HT HSET hl
      have hbz : b ≠ w.heap.size := by omega
      clear hos hb hcell hrk
      go_wp2_with fail
      refine HT.out.mono ?_; rintro e w5 ⟨u, rfl, hu, hb5⟩
      obtain ⟨ua, un, uc, rfl⟩ : ∃ a m c, u = .slice a m c := by
        rcases hu with ⟨_, a, c, h, _⟩ | ⟨g, c, h, _⟩
        · exact ⟨_, _, _, h⟩
        · exact ⟨_, _, _, h⟩
      have hos5 := HOS.out.step hb5 (Nat.le_refl _)
      obtain ⟨hfz, ⟨u0, hcy⟩, hos6⟩ := OS.set_row2 (by decide) hos5 hlen k hk hu (by omega) hb5.size
      rw [HSET.out] at hos6
      have HOS6 := Lib.hid hos6
      have HB6 := Lib.hid ((HB.out.trans (hb5.mono HB.out.size)).setCell (p := ⟨w.heap.size, k, none⟩) (Nat.le_refl _) (.slice ua un uc))
      have HSZ : Hid ((w5.setCell ⟨w.heap.size, k, none⟩ (.slice ua un uc)).heap.size = w5.heap.size) := by show _ = _; simp [World.setCell]
      have hlt5 : w.heap.size < w5.heap.size := Nat.lt_of_lt_of_le hltw hb5.size
      clear hos5 hos6 hu hb5 HOS HB hltw
      go_wp2_with fail
      go_roundg g
      case measure => omega
      case rel => exact ⟨k + 1, by omega, by go_num, by rw [HSZ.out]; exact HOS6.out, HB6.out, by rw [HSZ.out]; exact hlt5⟩
end Go.Proofs.Ytgkpdlicgllcoaa
