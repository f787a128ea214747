/-
  The contracts of the laws' helpers on slices of slices of ints: an equality, marks that are laid and marks that are held.
-/
import Derived.Test.YtgkpdlicgllcoaaWordsSS
import Derived.Deep.RegionHeld3
import Derived.Deep.DeepCutAuto
import Derived.RegionTactic
import Derived.BigRegion
namespace Go.Proofs.Ytgkpdlicgllcoaa
open Go.RowKit
set_option maxRecDepth 100000
set_option linter.unusedVariables false

/-- How many numbers lists have together. -/
def total : List (List Int) → Nat
  | [] => 0
  | l :: L => l.length + total L
theorem total_append (A B : List (List Int)) : total (A ++ B) = total A + total B := by
  induction A with
  | nil => simp [total]
  | cons l A ih => simp [total, ih]; omega
/-- Marks, row by row. -/
def marksSS (m : Int) : List (List Int) → List (List Int)
  | [] => []
  | l :: L => marks m l.length :: marksSS (m + l.length) L
theorem marksSS_length (m : Int) (L : List (List Int)) : (marksSS m L).length = L.length := by
  induction L generalizing m with
  | nil => rfl
  | cons l L ih => simp [marksSS, ih]
theorem marksSS_append (m : Int) (A B : List (List Int)) : marksSS m (A ++ B) = marksSS m A ++ marksSS (m + total A) B := by
  induction A generalizing m with
  | nil => simp [marksSS, total]
  | cons l A ih =>
    have e : m + (l.length : Int) + (total A : Int) = m + (total (l :: A) : Int) := by simp [total]; omega
    simp only [List.cons_append, marksSS, ih, e]
theorem total_marksSS (m : Int) (L : List (List Int)) : total (marksSS m L) = total L := by
  induction L generalizing m with
  | nil => rfl
  | cons l L ih => simp [marksSS, total, ih, marks_length]
theorem total_at {L : List (List Int)} {j : Nat} (hj : j < L.length) : (L.getD j []).length ≤ total L := by
  induction L generalizing j with
  | nil => simp at hj
  | cons l L ih =>
    cases j with
    | zero => simp [total]
    | succ j => have := ih (j := j) (by simpa using hj); simp [total] at this ⊢; omega
theorem total_len_pos (L : List (List Int)) (h : ∀ l ∈ L, l ≠ []) : L.length ≤ total L := by
  induction L with
  | nil => simp
  | cons l L ih =>
    have h1 : 0 < l.length := List.length_pos_iff.2 (h l (by simp))
    have h2 := ih fun x hx => h x (by simp [hx])
    simp [total]
    omega

set_option maxHeartbeats 1000000 in
theorem eqIntSS_same (v u : Value) (L : List (List Int)) (w : World) (h : RS w w.heap.size v L) (h' : RS w w.heap.size u L) (hn : L.length ≤ 1048576) (ht : total L ≤ 1048576) :
    Calls Try.prog 50 #[v, u] w (RetV w (.bool true)) := by
  obtain ⟨V, A, c, rfl, hV, hlc, hc, hr⟩ := h
  obtain ⟨V', A', c', rfl, hV', hlc', hc', hr'⟩ := h'
  have hn' : (L.length : Int) ≤ 1048576 := by omega
  go_enter Try.func50, Try.ntmps50
  go_wp2
  go_loopw [5] (fun i wr => ∃ k : Nat, k ≤ L.length ∧ i = .int .i64 k ∧ Below w.heap.size w wr) (fun i _ => L.length - (intOf i).toNat)
  case atStart => exact ⟨0, Nat.zero_le _, rfl, Below.refl _ _⟩
  case round =>
    obtain ⟨k, hk, rfl, hb⟩ := hrel
    by_cases hlt : k < L.length
    · obtain ⟨b, off, rfl, hbB, hcell⟩ := hc (by omega)
      obtain ⟨b', off', rfl, hbB', hcell'⟩ := hc' (by omega)
      have hcx : wr.cell? ⟨b, off + k, none⟩ = some (V.getD k undef) := (hb.cell (p := ⟨b, off + k, none⟩) hbB).trans (hcell k hlt)
      have hcy : wr.cell? ⟨b', off' + k, none⟩ = some (V'.getD k undef) := (hb.cell (p := ⟨b', off' + k, none⟩) hbB').trans (hcell' k hlt)
      have r1 := ((hr k hlt).below hb).more hb.size
      have r2 := ((hr' k hlt).below hb).more hb.size
      have hl := total_at hlt
      have HE := Lib.hid (eqIntS_same _ _ _ wr.drew (r1.drewN 1) (r2.drewN 1) (by omega))
      obtain ⟨A1, c1, e1, _⟩ := hr k hlt
      obtain ⟨A2, c2, e2, _⟩ := hr' k hlt
      rw [e1] at hcx HE
      rw [e2] at hcy HE
      have hi : (k : Int) < (L.length : Int) := by omega
      have HB := Lib.hid hb
      have HZ := Lib.hid (show b < wr.heap.size by have := hb.size; omega)
      have HZ' := Lib.hid (show b' < wr.heap.size by have := hb.size; omega)
      generalize (L.getD k []).length = ln at hcx hcy HE
      clear hb hc hc' hcell hcell' hr hr' r1 r2 hl e1 e2
      go_upto_region 6 with fail
      go_region_held3 (fun w' => w'.cell? ⟨b, off + k, none⟩ = some (.slice A1 ln c1) ∧ w'.cell? ⟨b', off' + k, none⟩ = some (.slice A2 ln c2)) (with_reducible first | exact ⟨hcx, hcy⟩ | (refine ⟨?_, ?_⟩ <;> assumption) | go_keep)
        (first | (go_at_call 43; (with_reducible refine HE.out.mono ?_); rintro e w7 ⟨rfl, hb7⟩; have ia0 := (hb7.cell (p := ⟨b, off + k, none⟩) HZ.out).trans hcx; have ib0 := (hb7.cell (p := ⟨b', off' + k, none⟩) HZ'.out).trans hcy))
      · have HB7 := Lib.hid (HB.out.drew.trans (hb7.mono HB.out.size))
        clear hb7
        go_wp2_with fail
        go_roundw
        case rel => exact ⟨k + 1, by omega, by go_num, HB7.out⟩
        case measure => simp [intOf]; omega
    · obtain rfl : k = L.length := by omega
      go_wp2
      go_ret
      exact ⟨rfl, hb⟩

/-- The row behind A is marked. -/
theorem OS.mark_call {T : TypeId} (hTE : T ≠ 3) {lo hi : Nat} {v : Value} {A B : List (List Int)} {l : List Int} {w : World} (m : Int) (h : OS T 3 w lo hi v (A ++ l :: B)) (hn : l.length ≤ 1048576) (hm : 0 ≤ m) (hm' : m ≤ 100000000) :
    ∃ g c u, v = .slice (some ⟨g, 0, none⟩) (A ++ l :: B).length c ∧ w.cell? ⟨g, A.length, none⟩ = some u ∧
      Calls Try.prog 44 #[u, .int .i64 m] w fun e w' => e = .returned (.int .i64 (m + l.length)) ∧ OS T 3 w' lo hi v (A ++ marks m l.length :: B) ∧ Wr lo hi w w' := by
  have h0 := h
  obtain ⟨rows, hL, hown, hhi, hr, hp⟩ := h
  obtain ⟨P, Q', rfl, hPA, hQ'⟩ := List.map_eq_append_iff.1 hL
  obtain ⟨r, Q, rfl, hrl, hQ⟩ := List.map_eq_cons_iff.1 hQ'
  have hPl : P.length = A.length := by rw [← hPA, List.length_map]
  have hcell : ∃ g c, v = .slice (some ⟨g, 0, none⟩) (A ++ l :: B).length c ∧ w.cell? ⟨g, A.length, none⟩ = some r.u := by
    rcases hown.2 with ⟨_, hn0⟩ | ⟨g, c, cur, rfl, _⟩
    · simp at hn0
    · refine ⟨g, c, rfl, ?_⟩
      rw [World.ownsRow.cellAt hown A.length (by simp <;> omega), ← hPl]
      simp
  obtain ⟨g, c, hv, hcl⟩ := hcell
  refine ⟨g, c, r.u, hv, hcl, ?_⟩
  have hrr := hr r (by simp)
  by_cases hl : l = []
  · have h1 := hrr.1
    rw [hrl, hl] at h1
    have h2 := markIntS_any 0 0 r.u [] m w h1.empty (by simp) hm hm'
    refine h2.mono ?_
    rintro e w' ⟨rfl, ho, hg⟩
    rw [hl] at h0 ⊢
    exact ⟨rfl, h0.far hg (.inr (Nat.zero_le _)), ⟨hg.os, hg.tape, hg.output, hg.size, fun k hk _ => hg.block k hk (.inr (Nat.zero_le _))⟩⟩
  · have hrn : r.l ≠ [] := by rw [hrl]; exact hl
    have h1 := hrr.1
    have hap := OS.apart (lo2 := 0) (hi2 := 0) hTE hown h1 hrn
    rw [hrl] at h1
    have hin := hrr.2 hrn
    refine (markIntS_any r.g (r.g + 1) r.u l m w h1 hn hm hm').mono ?_
    rintro e w' ⟨rfl, ho, hg⟩
    have hp1 := List.pairwise_append.1 hp
    have hp2 := List.pairwise_cons.1 hp1.2.1
    have hml : marks m l.length ≠ [] := by
      intro h9
      have := congrArg List.length h9
      rw [marks_length] at this
      exact hl (List.eq_nil_of_length_eq_zero this)
    refine ⟨rfl, ⟨P ++ ⟨r.u, r.g, marks m l.length⟩ :: Q, by simp [hPA, hQ], ?_, hhi, fun x hx => ?_, ?_⟩, hg.wide hin.1 (by omega)⟩
    · have h9 := own_far hown hg fun k hk => by have : k ≠ r.g := fun e => hap (e ▸ hk); omega
      simpa using h9
    · rcases List.mem_append.1 hx with hx | hx
      · exact (hr x (by simp [hx])).far hg fun hxl => by have := hp1.2.2 x hx r (by simp) hxl hrn; omega
      · rcases List.mem_cons.1 hx with rfl | hx
        · exact ⟨ho, fun _ => hin⟩
        · exact (hr x (by simp [hx])).far hg fun hxl => by have := hp2.1 x hx hrn hxl; omega
    · refine List.pairwise_append.2 ⟨hp1.1, List.pairwise_cons.2 ⟨fun x hx _ hxl => hp2.1 x hx hrn hxl, hp2.2⟩, fun x hx y hy hxl hyl => ?_⟩
      rcases List.mem_cons.1 hy with rfl | hy
      · exact hp1.2.2 x hx r (by simp) hxl hrn
      · exact hp1.2.2 x hx y (by simp [hy]) hxl hyl

set_option maxHeartbeats 1000000 in
theorem markIntSS_any {T : TypeId} (hTE : T ≠ 3) (lo hi : Nat) (v : Value) (L : List (List Int)) (m : Int) (w : World) (h : OS T 3 w lo hi v L) (hn : L.length ≤ 1048576) (ht : total L ≤ 1048576) (hm : 0 ≤ m) (hm' : m ≤ 1000) :
    Calls Try.prog 52 #[v, .int .i64 m] w fun e w' => e = .returned (.int .i64 (m + total L)) ∧ OS T 3 w' lo hi v (marksSS m L) ∧ Wr lo hi w w' := by
  have hn' : (L.length : Int) ≤ 1048576 := by omega
  have hvs : ∃ A c, v = .slice A L.length c := by obtain ⟨_, A, c, hv, _⟩ := h.rd; exact ⟨A, c, hv⟩
  obtain ⟨VA, vc, rfl⟩ := hvs
  go_enter Try.func52, Try.ntmps52
  go_wp2
  go_loopw [1, 5] (fun u i wr => ∃ A B : List (List Int), A ++ B = L ∧ u = .int .i64 (m + total A) ∧ i = .int .i64 A.length ∧ OS T 3 wr lo hi (.slice VA L.length vc) (marksSS m A ++ B) ∧ Wr lo hi w wr) (fun _ i _ => L.length - (intOf i).toNat)
  case atStart => exact ⟨[], L, rfl, by simp [total], rfl, h, Wr.refl _ _ _⟩
  case round =>
    obtain ⟨A, B, hAB, rfl, rfl, hos, hw⟩ := hrel
    cases B with
    | nil =>
      rw [List.append_nil] at hAB hos
      subst hAB
      go_wp2
      go_ret
      exact ⟨rfl, hos, hw⟩
    | cons l B =>
      have htl : total A + (l.length + total B) = total L := by rw [← hAB, total_append]; rfl
      obtain ⟨g, c, u, hv, hcl, hcall⟩ := OS.mark_call hTE (m + total A) hos (by omega) (by omega) (by omega)
      have hLn : A.length < L.length := by rw [← hAB]; simp
      have hi : (A.length : Int) < (L.length : Int) := by omega
      rw [marksSS_length] at hcl
      injection hv with hv1 hv2 hv3
      subst hv1
      have HC := Lib.hid hcall
      have HH : Hid (A ++ l :: B = L) := hAB
      have HW := Lib.hid hw
      have HT := Lib.hid htl
      clear hcall hAB hw htl hos h hv2 hv3
      go_wp2_with fail
      refine HC.out.mono ?_; rintro e w2 ⟨rfl, hos2, hw2⟩
      have HO := Lib.hid hos2
      have HW2 := Lib.hid (HW.out.trans hw2)
      clear hos2 hw2
      go_wp2_with fail
      go_roundw
      case rel =>
        refine ⟨A ++ [l], B, by rw [List.append_assoc]; exact HH.out, ?_, ?_, ?_, HW2.out⟩
        · rw [total_append]; simp only [total]; congr 1; push_cast; omega
        · simp
        · rw [marksSS_append, List.append_assoc]; exact HO.out
      case measure => simp [intOf]; omega

set_option maxHeartbeats 1000000 in
theorem heldIntSS_any (v : Value) (L : List (List Int)) (m : Int) (w : World) (h : RS w w.heap.size v (marksSS m L)) (hn : L.length ≤ 1048576) (ht : total L ≤ 1048576) (hm : 0 ≤ m) (hm' : m ≤ 1000) :
    Calls Try.prog 53 #[v, .int .i64 m] w (RetV w (.int .i64 (m + total L))) := by
  obtain ⟨V, VA, vc, rfl, hV, hlc, hc, hr⟩ := h
  rw [marksSS_length] at hc hr hlc ⊢
  have hn' : (L.length : Int) ≤ 1048576 := by omega
  go_enter Try.func53, Try.ntmps53
  go_wp2
  go_loopw [1, 5] (fun u i wr => ∃ A B : List (List Int), A ++ B = L ∧ u = .int .i64 (m + total A) ∧ i = .int .i64 A.length ∧ Below w.heap.size w wr) (fun _ i _ => L.length - (intOf i).toNat)
  case atStart => exact ⟨[], L, rfl, by simp [total], rfl, Below.refl _ _⟩
  case round =>
    obtain ⟨A, B, hAB, rfl, rfl, hb⟩ := hrel
    cases B with
    | nil =>
      rw [List.append_nil] at hAB
      subst hAB
      go_wp2
      go_ret
      exact ⟨rfl, hb⟩
    | cons l B =>
      have htl : total A + (l.length + total B) = total L := by rw [← hAB, total_append]; rfl
      have hLn : A.length < L.length := by rw [← hAB]; simp
      have hi : (A.length : Int) < (L.length : Int) := by omega
      obtain ⟨b, off, rfl, hbB, hcell⟩ := hc (by omega)
      have hcx : wr.cell? ⟨b, off + A.length, none⟩ = some (V.getD A.length undef) := (hb.cell (p := ⟨b, off + A.length, none⟩) hbB).trans (hcell _ hLn)
      have r1 := ((hr _ hLn).below hb).more hb.size
      have e1 : (marksSS m L).getD A.length [] = marks (m + total A) l.length := by
        rw [← hAB, marksSS_append]
        simp only [List.getD_eq_getElem?_getD]
        rw [List.getElem?_append_right (by rw [marksSS_length]; omega), marksSS_length, Nat.sub_self]
        rfl
      rw [e1] at r1
      have HC := Lib.hid (heldIntS_any _ l.length (m + total A) _ r1 (by omega) (by omega) (by omega))
      have HH : Hid (A ++ l :: B = L) := hAB
      have HB := Lib.hid hb
      have HT := Lib.hid htl
      have hnn : 0 ≤ m + (total A : Int) + (l.length : Int) := by omega
      have hnb : m + (total A : Int) + (l.length : Int) ≤ 100000000 := by omega
      generalize V.getD A.length undef = u at hcx HC
      clear hAB hb htl hcell hc hr r1 e1
      go_wp2_with fail
      refine HC.out.mono ?_; rintro e w2 ⟨rfl, hb2⟩
      have HB2 := Lib.hid (HB.out.trans (hb2.mono HB.out.size))
      clear hb2
      go_wp2_with fail
      go_roundw
      case rel =>
        refine ⟨A ++ [l], B, by rw [List.append_assoc]; exact HH.out, ?_, ?_, HB2.out⟩
        · rw [total_append]; simp only [total]; congr 1; push_cast; omega
        · simp
      case measure => simp [intOf]; omega
end Go.Proofs.Ytgkpdlicgllcoaa
