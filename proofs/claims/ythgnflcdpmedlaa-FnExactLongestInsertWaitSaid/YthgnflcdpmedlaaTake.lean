/-
  The model takes the first cell out of a buffer.
-/
import Derived.Test.YthgnflcdpmedlaaOwn
import Derived.Deep.RegionWith
namespace Go.Proofs.Ythgnflcdpmedlaa
open Go.RowKit Go.Conc
set_option maxRecDepth 100000
set_option linter.unusedVariables false

def TakeP (w0 : World) (x : Ir) (l : List Ms) (p : IL) (vs : Nat → Value) (a : Ist) (s c : Nat) (r : List Nat) (e : Ending) (w' : World) : Prop := e = .returned (.int .i64 (c : Nat)) ∧ ∃ u, InS w0 w' x l p (up vs s u) { a with B := up a.B s r }
theorem grown_below {w w' : World} (h : Below w.heap.size w w') (row : Option Nat) : w.grownBy w' row := ⟨h.os, h.tape, h.output, h.size, fun k hk _ => h.block k hk⟩
set_option maxHeartbeats 4000000 in
theorem take_any (x : Ir) (l : List Ms) (w0 : World) (p : IL) (vs : Nat → Value) (a : Ist) (s c : Nat) (r : List Nat) (w : World) (hp : IP w0 p) (hS : InS w0 w x l p vs a) (hs : s < x.n.toNat) (hB : a.B s = c :: r) (hr20 : r.length ≤ 1000) :
    Calls Try.prog 60 #[.pointer (some ⟨p.g, 0, none⟩), .int .i64 s] w (TakeP w0 x l p vs a s c r) := by
  have hlen : (a.B s).length = r.length + 1 := by rw [hB]; rfl
  have hrow := hS.rows s hs
  obtain ⟨b, cc, hvs, hcell0, hcl⟩ : ∃ b cc, vs s = .slice (some ⟨b, 0, none⟩) (r.length + 1) cc ∧ w.cell? ⟨b, 0, none⟩ = some (.int .i64 (c : Nat)) ∧ r.length + 1 ≤ cc := by
    rcases hrow.2 with ⟨_, h0⟩ | ⟨b, cc, cur, hv, h1, h2, h3, _⟩
    · omega
    · refine ⟨b, cc, by rw [hv, hlen], ?_, by omega⟩
      have h9 := hrow
      rw [hv] at h9
      have := World.ownsRow.cellAt h9 0 (by omega)
      rw [this, ics_get _ _ (by simp; omega), nJ_at _ _ (by omega), hB]
      rfl
  have hOI : OI 3 w p.lo w.heap.size (vs s) (nJ (a.B s)) := OI.of_row (by rw [nJ_length]; exact hrow)
  have hRI := hOI.ri
  rw [hvs] at hRI
  have hT := tail_riI hRI 1 (by simp; omega)
  have e1 : (nJ (a.B s)).drop 1 = nJ r := by rw [hB]; rfl
  have e2 : (nJ (a.B s)).length - 1 = r.length := by simp; omega
  rw [e1, e2] at hT
  obtain ⟨TA, hTA⟩ : ∃ TA, TA = (if cc = 1 then some (⟨b, 0, none⟩ : Addr) else Option.map (fun y : Addr => y.add 1) (some ⟨b, 0, none⟩)) := ⟨_, rfl⟩
  rw [← hTA] at hT
  have HOW := Lib.hid (fun (wq : World) (h : Below w.heap.size w wq) => l1OwnI_any (.slice TA r.length (cc - 1)) (nJ r) wq ((hT.below h).more h.size) (by rw [nJ_length]; omega))
  have HFIN : Hid (∀ wq u w3, Below w.heap.size w wq → Acc 3 w3 wq.heap.size u (nJ r) → Below wq.heap.size wq w3 → (w3.cell? ⟨p.g, 4, none⟩ = some (.slice (some ⟨p.bb, 0, none⟩) x.n.toNat x.n.toNat) ∧ w3.cell? ⟨p.bb, s, none⟩ = some (vs s) ∧ w3.frozen? ⟨p.bb, s, none⟩ = false ∧ ∃ A c, u = .slice A r.length c) ∧ InS w0 (w3.setCell ⟨p.bb, s, none⟩ u) x l p (up vs s u) { a with B := up a.B s r }) := by
    show ∀ _, _
    intro wq u w3 hb hacc hb3
    have h1 := hS.step hb
    have hlo : p.lo ≤ wq.heap.size := h1.big
    have hown : w3.ownsRow p.lo 3 1 u r.length (ics (nJ r)) := by
      have h2 : w3.ownsRow wq.heap.size 3 1 u (nJ r).length (ics (nJ r)) := hacc
      rw [nJ_length] at h2
      rcases h2.2 with ⟨hv, hr⟩ | ⟨g, c, cur, hv, h3, rest⟩
      · exact ⟨h2.1, .inl ⟨hv, hr⟩⟩
      · exact ⟨h2.1, .inr ⟨g, c, cur, hv, by omega, rest⟩⟩
    have hnew : ∀ b, u.ownBlock = some b → wq.heap.size ≤ b := by
      intro b hb'
      have h2 : w3.ownsRow wq.heap.size 3 1 u (nJ r).length (ics (nJ r)) := hacc
      exact (own_inI h2 hb').1
    obtain ⟨A3, c3, hu⟩ := own_sliceI hown
    have h4 := h1.row hp hs (grown_below hb3 _) (v' := u) (b' := r) hown (fun b hb' => .inr (hnew b hb'))
    have c1 := h4.1.1.cell 4
    have c2 := h4.1.2.1.cell s
    rw [rowI_at _ _ _ hs] at c2
    exact ⟨⟨by simpa using c1, c2, h4.1.2.1.free s, A3, c3, hu⟩, h4.2⟩
  have c4 := hS.run.cell 4
  have cb := hS.bufs.cell s
  rw [rowI_at _ _ _ hs] at cb
  simp only [List.getElem?_toArray, List.getElem?_cons_zero, List.getElem?_cons_succ] at c4
  rw [hvs] at cb HFIN
  obtain ⟨n, hN⟩ : ∃ n, n = x.n.toNat := ⟨_, rfl⟩
  have hsn : s < n := by omega
  have hsI : (s : Int) < (n : Int) := by omega
  obtain ⟨g, hg⟩ : ∃ g, g = p.g := ⟨_, rfl⟩
  obtain ⟨bb, hbb⟩ : ∃ bb, bb = p.bb := ⟨_, rfl⟩
  rw [← hN, ← hg, ← hbb] at c4 HFIN
  rw [← hbb] at cb
  rw [← hg]
  have hl1 : (1 : Int) ≤ ((r.length + 1 : Nat) : Int) := by omega
  have hl0 : 0 < r.length + 1 := by omega
  have hl2 : 1 ≤ r.length + 1 := by omega
  have HTA : Hid (TA = if cc = 1 then some (⟨b, 0, none⟩ : Addr) else some ⟨b, 1, none⟩) := by
    show _ = _
    rw [hTA]
    split
    · rfl
    · simp [addr_add]
  clear hS hp hrow hOI hRI hT e1 e2 hTA hN hg hbb hvs hB hlen hs
  by_cases hcc : cc = 1
  · have hT1 := HTA.out
    rw [if_pos hcc] at hT1
    subst hT1
    subst hcc
    obtain rfl : r = [] := List.eq_nil_of_length_eq_zero (by omega)
    clear HTA hcl hr20
    simp only [List.length_nil, Nat.zero_add, Nat.sub_self] at HOW HFIN cb
    go_enter Try.func60, Try.ntmps60
    go_upto_region 2 with fail
    go_region_with (go_at_call 67; refine (HOW.out _ (Below.refl _ _).drew).mono ?_; rintro e w3 ⟨u, rfl, hacc, hb3⟩; obtain ⟨⟨k4, kb, kf, A3, c3, hu⟩, hfin⟩ := HFIN.out _ u w3 (Below.refl _ _).drew hacc hb3; subst hu; have HF := Lib.hid hfin; clear hfin hacc hb3)
    all_goals (go_wp2_with fail; go_ret; exact ⟨rfl, _, HF.out⟩)
  · have hT1 := HTA.out
    rw [if_neg hcc] at hT1
    subst hT1
    clear HTA
    go_enter Try.func60, Try.ntmps60
    go_upto_region 2 with fail
    go_region_with (go_at_call 67; refine (HOW.out _ (Below.refl _ _).drew).mono ?_; rintro e w3 ⟨u, rfl, hacc, hb3⟩; obtain ⟨⟨k4, kb, kf, A3, c3, hu⟩, hfin⟩ := HFIN.out _ u w3 (Below.refl _ _).drew hacc hb3; subst hu; have HF := Lib.hid hfin; clear hfin hacc hb3)
    all_goals (go_wp2_with fail; go_ret; exact ⟨rfl, _, HF.out⟩)
end Go.Proofs.Ythgnflcdpmedlaa
