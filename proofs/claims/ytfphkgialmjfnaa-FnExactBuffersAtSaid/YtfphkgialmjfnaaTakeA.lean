/-
  The model's copy of a list, as something gathered; a list without its first elements. The model's search for the first own cell of a station, and what it takes out of a buffer. The model takes the first cell out of a buffer.
-/
import Derived.Test.YtfphkgialmjfnaaCat
import Derived.Test.YtfphkgialmjfnaaInS
import Derived.Deep.RegionLaw
import Derived.Deep.RegionWith
namespace Go.Proofs.Ytfphkgialmjfnaa
section
open Go.RowKit
set_option maxRecDepth 100000
set_option linter.unusedVariables false

theorem l1OwnI_any (v : Value) (l : List Int) (w : World) (h : RI w w.heap.size v l) (hn : l.length ≤ 1048576) :
    Calls Try.prog 75 #[v] w fun e w' => ∃ u, e = .returned u ∧ Acc 3 w' w.heap.size u l ∧ Below w.heap.size w w' := by
  have h0 := h
  have hsh := Lib.hid h.shape
  obtain ⟨A, c, rfl, hlc, hc⟩ := h
  clear hc
  obtain ⟨i0, hi, hz0, hz1, hz2⟩ := info_parts int_info
  have hb0 : Below w.heap.size w (w.alloc (.cells #[] 3)) := (Below.refl _ _).alloc (Nat.le_refl _) _
  have ha : Acc 3 (w.alloc (.cells #[] 3)) w.heap.size (.slice (some ⟨w.heap.size, 0, none⟩) 0 0) [] := World.ownsRow_made w #[] 0 (Nat.le_refl _) (by simp) rfl
  go_enter Try.func75, Try.ntmps75
  go_wp2_with (at_builtin; refine wpList_cat rfl (.tmp 3) (.tmp 4) 26 rfl 3 i0 Try.underlying26 hi hz0 hz1 hz2 w w.heap.size w.heap.size _ _ _ l rfl ha rfl (h0.below hb0) hsh.out (by simp; omega) hb0 hb0.size ?_; intro v2 w2 ha2 hb2)
  go_ret
  exact ⟨_, rfl, by simpa using ha2, hb2⟩
theorem tail_riI {w : World} {B : Nat} {A : Option Addr} {n c : Nat} {l : List Int} (h : RI w B (.slice A n c) l) (k : Nat) (hk : k ≤ l.length) : RI w B (.slice (if c = k then A else Option.map (fun x => x.add k) A) (l.length - k) (c - k)) (l.drop k) := by
  obtain ⟨A', c', hv, hlc, hc⟩ := h
  injection hv with h1 h2 h3
  subst h1; subst h2; subst h3
  refine ⟨_, c - k, by rw [List.length_drop], ⟨by rw [List.length_drop]; omega, by omega, fun hA => ?_⟩, fun h0 => ?_⟩
  · have h5 : A = none := by
      split at hA
      · exact hA
      · cases A with
        | none => rfl
        | some a => cases hA
    have := hlc.2.2 h5
    omega
  · rw [List.length_drop] at h0
    obtain ⟨b, off, hA, hb, hcell⟩ := hc (by omega)
    refine ⟨b, off + k, ?_, hb, fun j hj => ?_⟩
    · rw [if_neg (by omega), hA]
      simp [addr_add]
    · rw [List.length_drop] at hj
      rw [Nat.add_assoc, hcell (k + j) (by omega)]
      congr 2
      simp [List.getD]

end
section
open Go.RowKit Go.Conc
set_option maxRecDepth 100000
set_option linter.unusedVariables false

/-- The first cell that waits, or -1. -/
def ownI (r : Option Nat) : Int := match r with | some i => (i : Int) | none => -1
set_option maxHeartbeats 2000000 in
theorem own_any (x : Ir) (l : List Ms) (w0 : World) (p : IL) (vs : Nat → Value) (a : Ist) (s t : Nat) (w : World) (hall : ∀ y ∈ l, MsIn x.n y) (hl20 : l.length ≤ 20)
    (hS : InS w0 w x l p vs a) (hr : RMsS w0 w0.heap.size (.slice p.A l.length p.c) l) (ht : t ≤ 10000) (hs : s ≤ 12) :
    Calls Try.prog 64 #[.pointer (some ⟨p.g, 0, none⟩), .int .i64 s, .int .i64 t] w (RetV w (.int .i64 (ownI ((iwOf x l).sw.next a.I s t)))) := by
  obtain ⟨_, _, _, hc⟩ := hr.parts
  have HN1 := Lib.hid (fun j hj hw hno => nextI_some (x := x) (l := l) (F := a.I) (s := s) (t := t) (j := j) hall hj hw hno)
  have HN0 := Lib.hid (fun hno => nextI_none (x := x) (l := l) (F := a.I) (s := s) (t := t) hall hno)
  obtain ⟨N, hN⟩ : ∃ N, N = (iwOf x l).sw.next a.I s t := ⟨_, rfl⟩
  rw [← hN] at HN1 HN0 ⊢
  clear hN
  have hl2 : (l.length : Int) ≤ 20 := by omega
  have hx3 := hS.run.cell 3
  simp only [List.getElem?_toArray, List.getElem?_cons_zero, List.getElem?_cons_succ] at hx3
  have HC := Lib.hid hc
  have HS := Lib.hid hS
  have HALL := Lib.hid hall
  clear hc hr hall
  obtain ⟨g, hg⟩ : ∃ g, g = p.g := ⟨_, rfl⟩
  rw [← hg] at hx3 ⊢
  have HG := Lib.hid hg
  clear hg hS
  go_enter Try.func64, Try.ntmps64
  go_wp2_with fail
  go_loopw [14] (fun i wr => ∃ j : Nat, j ≤ l.length ∧ i = .int .i64 j ∧ (∀ i', i' < j → ¬ waitsC l a.I s t i') ∧ Below w.heap.size w wr) (fun i _ => l.length - (intOf i).toNat)
  case atStart => exact ⟨0, Nat.zero_le _, rfl, fun i' h => absurd h (Nat.not_lt_zero _), Below.refl _ _⟩
  case round =>
    clear hx3
    obtain ⟨j, hj, rfl, hno, hb⟩ := hrel
    have HNO := Lib.hid hno
    have HB := Lib.hid hb
    have hS1 := HS.out.step hb
    clear hno
    by_cases hlt : j < l.length
    · have hjI : (j : Int) < (l.length : Int) := by omega
      obtain ⟨b, off, hA, hbB, hcell⟩ := HC.out (by omega)
      obtain ⟨hd0, hd1, hd2⟩ := hcell j hlt
      have hc0 := (hS1.bel.cell (p := ⟨b, off + j * 3, none⟩) hbB).trans hd0
      have hc1 := (hS1.bel.cell (p := ⟨b, off + j * 3 + 1, none⟩) hbB).trans hd1
      have hc2 := (hS1.bel.cell (p := ⟨b, off + j * 3 + 2, none⟩) hbB).trans hd2
      clear hd0 hd1 hd2 hcell
      obtain ⟨cf, hvf, hrc⟩ := hS1.ins.at_ j (by rw [tabl_len]; exact hlt)
      rw [tabl_len] at hvf
      have HSN : Hid (¬ waitsC l a.I s t j → ∀ i', i' < j + 1 → ¬ waitsC l a.I s t i') := fun h i' hi' => by
        by_cases e : i' = j
        · rw [e]; exact h
        · exact HNO.out i' (by omega)
      have HWE : Hid (waitsC l a.I s t j ↔ (l[j]!.f = (s : Int) ∧ l[j]!.t ≤ (t : Int) ∧ a.I j < 0)) := Iff.rfl
      generalize l[j]! = y at hc0 hc1 hc2 HWE
      obtain ⟨yt, yf, yo⟩ := y
      simp only at hc0 hc1 hc2 HWE
      have hM := BK.made wr 53 #[.int .i64 yt, .int .i64 yf, .int .i64 yo]
      have hS2 := hS1.step ((Below.refl _ _).alloc (Nat.le_refl _) (.cells #[.int .i64 yt, .int .i64 yf, .int .i64 yo] 53))
      have HB2 := Lib.hid (hb.alloc hb.size (.cells #[.int .i64 yt, .int .i64 yf, .int .i64 yo] 53))
      have hrc2 := hrc.alloc (.cells #[.int .i64 yt, .int .i64 yf, .int .i64 yo] 53)
      have q0 := hM.cell 0
      have q1 := hM.cell 1
      have x6 := hS2.run.cell 6
      rw [hvf, ← HG.out] at x6
      have r0 := hrc2.cell j (by rw [tabl_len]; exact hlt)
      rw [tabl_at _ _ _ hlt] at r0
      simp only [List.getElem?_toArray, List.getElem?_cons_zero, List.getElem?_cons_succ] at q0 q1 x6
      obtain ⟨ib, hib⟩ : ∃ ib, ib = p.ib := ⟨_, rfl⟩
      rw [← hib] at x6 r0
      obtain ⟨fj, hfj⟩ : ∃ fj, fj = a.I j := ⟨_, rfl⟩
      rw [← hfj] at r0 HWE
      rw [hA]
      clear hfj hM hS2 hrc hrc2 hS1 hb hvf hib hA
      by_cases h1 : yf = (s : Int)
      · subst h1
        by_cases h2 : yt ≤ (t : Int)
        · by_cases h3 : fj < 0
          · have HR := Lib.hid (HN1.out j hlt (HWE.out.2 ⟨rfl, h2, h3⟩) HNO.out)
            go_wp2_with fail
            go_ret
            exact ⟨by rw [HR.out]; rfl, HB2.out⟩
          · have HS2 := Lib.hid (HSN.out (fun h => h3 (HWE.out.1 h).2.2))
            go_wp2_with fail
            go_roundw
            case rel => exact ⟨j + 1, by omega, by go_num, HS2.out, HB2.out⟩
            case measure => simp [intOf]; omega
        · have HS2 := Lib.hid (HSN.out (fun h => h2 (HWE.out.1 h).2.1))
          go_wp2_with fail
          go_roundw
          case rel => exact ⟨j + 1, by omega, by go_num, HS2.out, HB2.out⟩
          case measure => simp [intOf]; omega
      · have HS2 := Lib.hid (HSN.out (fun h => h1 (HWE.out.1 h).1))
        go_wp2_with fail
        go_roundw
        case rel => exact ⟨j + 1, by omega, by go_num, HS2.out, HB2.out⟩
        case measure => simp [intOf]; omega
    · obtain rfl : j = l.length := by omega
      have HRN := Lib.hid (HN0.out (fun i hi => HNO.out i hi))
      clear hS1
      go_wp2_with fail
      go_ret
      exact ⟨by rw [HRN.out]; rfl, HB.out⟩
end
section
open Go.RowKit Go.Conc
set_option maxRecDepth 100000
set_option linter.unusedVariables false

def TakeP (w0 : World) (x : Ir) (l : List Ms) (p : IL) (vs : Nat → Value) (a : Ist) (s c : Nat) (r : List Nat) (e : Ending) (w' : World) : Prop := e = .returned (.int .i64 (c : Nat)) ∧ ∃ u, InS w0 w' x l p (up vs s u) { a with B := up a.B s r }
theorem grown_below {w w' : World} (h : Below w.heap.size w w') (row : Option Nat) : w.grownBy w' row := ⟨h.os, h.tape, h.output, h.size, fun k hk _ => h.block k hk⟩
set_option maxHeartbeats 4000000 in
theorem take_any (x : Ir) (l : List Ms) (w0 : World) (p : IL) (vs : Nat → Value) (a : Ist) (s c : Nat) (r : List Nat) (w : World) (hp : IP w0 p) (hS : InS w0 w x l p vs a) (hs : s < x.n.toNat) (hB : a.B s = c :: r) (hr20 : r.length ≤ 1000) :
    Calls Try.prog 65 #[.pointer (some ⟨p.g, 0, none⟩), .int .i64 s] w (TakeP w0 x l p vs a s c r) := by
  have hlen : (a.B s).length = r.length + 1 := by rw [hB]; rfl
  have hrow := hS.rows s hs
  obtain ⟨b, cc, hvs, hcell0, hcl⟩ : ∃ b cc, vs s = .slice (some ⟨b, 0, none⟩) (r.length + 1) cc ∧ w.cell? ⟨b, 0, none⟩ = some (.int .i64 (c : Nat)) ∧ r.length + 1 ≤ cc := by
    rcases hrow.2 with ⟨_, h0⟩ | ⟨b, cc, cur, hv, h1, h2, h3, _⟩
    · omega
    · refine ⟨b, cc, by rw [hv, hlen], ?_, by omega⟩
      have h9 := hrow
      rw [hv] at h9
      have := World.ownsRow.cellAt h9 0 (by omega)
      rw [this, ics_get _ _ (by simp; omega), nJ_at _ _ (by omega), hB]
      rfl
  have hOI : OI 3 w p.lo w.heap.size (vs s) (nJ (a.B s)) := OI.of_row (by rw [nJ_length]; exact hrow)
  have hRI := hOI.ri
  rw [hvs] at hRI
  have hT := tail_riI hRI 1 (by simp; omega)
  have e1 : (nJ (a.B s)).drop 1 = nJ r := by rw [hB]; rfl
  have e2 : (nJ (a.B s)).length - 1 = r.length := by simp; omega
  rw [e1, e2] at hT
  obtain ⟨TA, hTA⟩ : ∃ TA, TA = (if cc = 1 then some (⟨b, 0, none⟩ : Addr) else Option.map (fun y : Addr => y.add 1) (some ⟨b, 0, none⟩)) := ⟨_, rfl⟩
  rw [← hTA] at hT
  have HOW := Lib.hid (fun (wq : World) (h : Below w.heap.size w wq) => l1OwnI_any (.slice TA r.length (cc - 1)) (nJ r) wq ((hT.below h).more h.size) (by rw [nJ_length]; omega))
  have HFIN : Hid (∀ wq u w3, Below w.heap.size w wq → Acc 3 w3 wq.heap.size u (nJ r) → Below wq.heap.size wq w3 → (w3.cell? ⟨p.g, 4, none⟩ = some (.slice (some ⟨p.bb, 0, none⟩) x.n.toNat x.n.toNat) ∧ w3.cell? ⟨p.bb, s, none⟩ = some (vs s) ∧ w3.frozen? ⟨p.bb, s, none⟩ = false ∧ ∃ A c, u = .slice A r.length c) ∧ InS w0 (w3.setCell ⟨p.bb, s, none⟩ u) x l p (up vs s u) { a with B := up a.B s r }) := by
    show ∀ _, _
    intro wq u w3 hb hacc hb3
    have h1 := hS.step hb
    have hlo : p.lo ≤ wq.heap.size := h1.big
    have hown : w3.ownsRow p.lo 3 1 u r.length (ics (nJ r)) := by
      have h2 : w3.ownsRow wq.heap.size 3 1 u (nJ r).length (ics (nJ r)) := hacc
      rw [nJ_length] at h2
      rcases h2.2 with ⟨hv, hr⟩ | ⟨g, c, cur, hv, h3, rest⟩
      · exact ⟨h2.1, .inl ⟨hv, hr⟩⟩
      · exact ⟨h2.1, .inr ⟨g, c, cur, hv, by omega, rest⟩⟩
    have hnew : ∀ b, u.ownBlock = some b → wq.heap.size ≤ b := by
      intro b hb'
      have h2 : w3.ownsRow wq.heap.size 3 1 u (nJ r).length (ics (nJ r)) := hacc
      exact (own_inI h2 hb').1
    obtain ⟨A3, c3, hu⟩ := own_sliceI hown
    have h4 := h1.row hp hs (grown_below hb3 _) (v' := u) (b' := r) hown (fun b hb' => .inr (hnew b hb'))
    have c1 := h4.1.1.cell 4
    have c2 := h4.1.2.1.cell s
    rw [rowI_at _ _ _ hs] at c2
    exact ⟨⟨by simpa using c1, c2, h4.1.2.1.free s, A3, c3, hu⟩, h4.2⟩
  have c4 := hS.run.cell 4
  have cb := hS.bufs.cell s
  rw [rowI_at _ _ _ hs] at cb
  simp only [List.getElem?_toArray, List.getElem?_cons_zero, List.getElem?_cons_succ] at c4
  rw [hvs] at cb HFIN
  obtain ⟨n, hN⟩ : ∃ n, n = x.n.toNat := ⟨_, rfl⟩
  have hsn : s < n := by omega
  have hsI : (s : Int) < (n : Int) := by omega
  obtain ⟨g, hg⟩ : ∃ g, g = p.g := ⟨_, rfl⟩
  obtain ⟨bb, hbb⟩ : ∃ bb, bb = p.bb := ⟨_, rfl⟩
  rw [← hN, ← hg, ← hbb] at c4 HFIN
  rw [← hbb] at cb
  rw [← hg]
  have hl1 : (1 : Int) ≤ ((r.length + 1 : Nat) : Int) := by omega
  have hl0 : 0 < r.length + 1 := by omega
  have hl2 : 1 ≤ r.length + 1 := by omega
  have HTA : Hid (TA = if cc = 1 then some (⟨b, 0, none⟩ : Addr) else some ⟨b, 1, none⟩) := by
    show _ = _
    rw [hTA]
    split
    · rfl
    · simp [addr_add]
  clear hS hp hrow hOI hRI hT e1 e2 hTA hN hg hbb hvs hB hlen hs
  by_cases hcc : cc = 1
  · have hT1 := HTA.out
    rw [if_pos hcc] at hT1
    subst hT1
    subst hcc
    obtain rfl : r = [] := List.eq_nil_of_length_eq_zero (by omega)
    clear HTA hcl hr20
    simp only [List.length_nil, Nat.zero_add, Nat.sub_self] at HOW HFIN cb
    go_enter Try.func65, Try.ntmps65
    go_upto_region 2 with fail
    go_region_with (go_at_call 75; refine (HOW.out _ (Below.refl _ _).drew).mono ?_; rintro e w3 ⟨u, rfl, hacc, hb3⟩; obtain ⟨⟨k4, kb, kf, A3, c3, hu⟩, hfin⟩ := HFIN.out _ u w3 (Below.refl _ _).drew hacc hb3; subst hu; have HF := Lib.hid hfin; clear hfin hacc hb3)
    all_goals (go_wp2_with fail; go_ret; exact ⟨rfl, _, HF.out⟩)
  · have hT1 := HTA.out
    rw [if_neg hcc] at hT1
    subst hT1
    clear HTA
    go_enter Try.func65, Try.ntmps65
    go_upto_region 2 with fail
    go_region_with (go_at_call 75; refine (HOW.out _ (Below.refl _ _).drew).mono ?_; rintro e w3 ⟨u, rfl, hacc, hb3⟩; obtain ⟨⟨k4, kb, kf, A3, c3, hu⟩, hfin⟩ := HFIN.out _ u w3 (Below.refl _ _).drew hacc hb3; subst hu; have HF := Lib.hid hfin; clear hfin hacc hb3)
    all_goals (go_wp2_with fail; go_ret; exact ⟨rfl, _, HF.out⟩)
end
end Go.Proofs.Ytfphkgialmjfnaa
