/-
  Chapter 9: a server sends tick by tick: the program's step and serve.
-/
import Derived.Test.YtlanpfcjcafapaaBoA
import Derived.Test.YtlanpfcjcafapaaMathSv
import Derived.Test.YtlanpfcjcafapaaAcc
import Derived.Test.YtlanpfcjcafapaaBk
import Derived.Deep.LoopGhost
import Derived.Deep.QuietTactic
import Derived.Deep.DeepCutAuto
namespace Go.Proofs.Ytlanpfcjcafapaa
open Go.RowKit
set_option maxRecDepth 100000
set_option linter.unusedVariables false
/-- A server's run behind a pointer: what it has sent, what waits. -/
def SvI (w : World) (sn lo : Nat) (x : Sv) (b : Int) (L : List Int) : Prop := sn < lo ∧ ∃ u, BK w sn 72 #[.int .i64 x.r, .int .i64 x.l, u, .int .i64 b] ∧ Acc 3 w lo u L
theorem BK.wr {w w' : World} {g : Nat} {t : TypeId} {cs : Array Value} (h : BK w g t cs) {lo : Nat} (hb : Below lo w w') (hg : g < lo) : BK w' g t cs := ⟨Nat.lt_of_lt_of_le h.1 hb.size, (hb.block g hg).trans h.2⟩
theorem Acc.far9 {E : TypeId} {w w' : World} {lo a b : Nat} {v : Value} {l : List Int} (h : Acc E w lo v l) (hg : Wr a b w w') (hb : b ≤ lo) : Acc E w' lo v l := by
  have h0 := h
  rcases h.2 with ⟨rfl, hn⟩ | ⟨g, c, cur, rfl, hg1, _⟩
  · exact ⟨h.1, .inl ⟨rfl, hn⟩⟩
  · exact row_far h0 hg (.inr (by omega))
theorem Wr.below9 {a b lo : Nat} {w0 w1 w2 : World} (h : Wr a b w0 w1) (hb : Below lo w1 w2) (hlo : lo = w0.heap.size) : Wr a b w0 w2 := by
  subst hlo
  exact ⟨hb.os.trans h.os, hb.tape.trans h.tape, hb.output.trans h.output, Nat.le_trans h.size hb.size, fun k hk hn => (hb.block k hk).trans (h.block k hk hn)⟩
theorem SvI.push {sn lo : Nat} {r l b m : Int} {L : List Int} {u v2 : Value} {w2 : World} (hlo : sn < lo) (hbk : BK w2 sn 72 #[.int .i64 r, .int .i64 l, u, .int .i64 b]) (ha : Acc 3 w2 lo v2 (L ++ [m])) :
    SvI (w2.setCell ⟨sn, 2, none⟩ v2) sn lo ⟨r, l⟩ b (L ++ [m]) ∧ Wr sn (sn + 1) w2 (w2.setCell ⟨sn, 2, none⟩ v2) := by
  have hwr9 : Wr sn (sn + 1) w2 (w2.setCell ⟨sn, 2, none⟩ v2) := (Wr.refl sn (sn + 1) w2).setCell (p := ⟨sn, 2, none⟩) (Nat.le_refl _) (Nat.lt_succ_self _) v2
  have hb9 := hbk.put 2 v2
  simp at hb9
  exact ⟨⟨hlo, v2, hb9, ha.far9 hwr9 hlo⟩, hwr9⟩
/-- The panic of a server that falls behind. -/
def fellB (b : Int) : Ending := .panicked [{ v := .iface 100 (.agg #[.int .i64 b]), recovered := false }]

set_option maxHeartbeats 1000000 in
theorem stepPanics_any (sn : Nat) (w0 w : World) (x : Sv) (b a : Int) (L : List Int) (hi : SvI w sn w0.heap.size x b L) (hL : L.length = 100) :
    Calls Try.prog 101 #[.pointer (some ⟨sn, 0, none⟩), .int .i64 a] w fun e w' => e = fellB b ∧ w' = w := by
  have hlo : sn < w0.heap.size := hi.1
  obtain ⟨_, u, hbk, hacc⟩ := hi
  have hshape := hacc.oi.ri
  obtain ⟨A, c, rfl, hlc, _⟩ := hshape
  obtain ⟨r, l⟩ := x
  have c0 := hbk.cell 0
  have c1 := hbk.cell 1
  have c2 := hbk.cell 2
  have c3 := hbk.cell 3
  have z2 := hbk.free 2
  have z3 := hbk.free 3
  simp at c0 c1 c2 c3
  try simp only at hin
  rw [hL] at c2
  clear hbk hacc
  go_enter Try.func101, Try.ntmps101
  go_wp2_with fail
  exact ⟨rfl, rfl, rfl⟩
set_option maxHeartbeats 1000000 in
theorem step_any (sn : Nat) (w0 w : World) (x : Sv) (b a : Int) (L : List Int) (hi : SvI w sn w0.heap.size x b L) (hL : L.length < 100) (hw : Wr sn (sn + 1) w0 w) (hx : svOk x = true) (hb : 0 ≤ b ∧ b ≤ 1000000) (ha : 0 ≤ a ∧ a ≤ 1000) :
    Calls Try.prog 101 #[.pointer (some ⟨sn, 0, none⟩), .int .i64 a] w fun e w' => e = .returned (.tuple #[]) ∧
      (SvI w' sn w0.heap.size x (b + a - if x.l ≤ (L.length : Int) then min (b + a) x.r else 0) (L ++ [if x.l ≤ (L.length : Int) then min (b + a) x.r else 0]) ∧ Wr sn (sn + 1) w0 w') := by
  have hin := svOk_in hx
  obtain ⟨i0, hi0, hz0, hz1, hz2⟩ := info_parts int_info
  have hlo : sn < w0.heap.size := hi.1
  obtain ⟨_, u, hbk, hacc⟩ := hi
  have hshape := hacc.oi.ri
  obtain ⟨A, c, rfl, hlc, _⟩ := hshape
  obtain ⟨r, l⟩ := x
  have c0 := hbk.cell 0
  have c1 := hbk.cell 1
  have c2 := hbk.cell 2
  have c3 := hbk.cell 3
  have z2 := hbk.free 2
  have z3 := hbk.free 3
  simp at c0 c1 c2 c3
  try simp only at hin
  have hne : ¬ ((L.length : Int) = 100) := by omega
  have hneb : ((L.length : Int) == 100) = false := by simpa using hne
  by_cases hle : l ≤ (L.length : Int)
  · rw [if_pos hle]
    obtain ⟨m, hm⟩ : ∃ m, min (b + a) r = m := ⟨_, rfl⟩
    have hm2 : (if r < b + a then r else b + a) = m := by split <;> omega
    have hm3 : 0 ≤ m ∧ m ≤ b + a := by omega
    show Calls _ _ _ _ fun e w' => e = .returned (.tuple #[]) ∧ (SvI w' sn w0.heap.size ⟨r, l⟩ (b + a - min (b + a) r) (L ++ [min (b + a) r]) ∧ Wr sn (sn + 1) w0 w')
    rw [hm]
    have HW1 : Hid (Wr sn (sn + 1) w ((w.setCell ⟨sn, 3, none⟩ (.int .i64 (b + a))).setCell ⟨sn, 3, none⟩ (.int .i64 (b + a - m))).drew) := (((Wr.refl sn (sn + 1) w).setCell (p := ⟨sn, 3, none⟩) (Nat.le_refl _) (Nat.lt_succ_self _) _).setCell (p := ⟨sn, 3, none⟩) (Nat.le_refl _) (Nat.lt_succ_self _) _).trans (Wr.of_below (Below.refl _ _).drew _ _)
    have HA : Hid (Acc 3 ((w.setCell ⟨sn, 3, none⟩ (.int .i64 (b + a))).setCell ⟨sn, 3, none⟩ (.int .i64 (b + a - m))).drew w0.heap.size (.slice A L.length c) L) := hacc.far9 HW1.out (by omega)
    have HBK : Hid (BK ((w.setCell ⟨sn, 3, none⟩ (.int .i64 (b + a))).setCell ⟨sn, 3, none⟩ (.int .i64 (b + a - m))).drew sn 72 #[.int .i64 r, .int .i64 l, .slice A L.length c, .int .i64 (b + a - m)]) := by
      have h9 := (hbk.put 3 (.int .i64 (b + a))).put 3 (.int .i64 (b + a - m))
      simp at h9
      exact h9
    have HLN : Hid (L.length < 1000000000) := by show _ < _; omega
    have HSE : Hid ((((w.setCell ⟨sn, 3, none⟩ (.int .i64 (b + a))).setCell ⟨sn, 3, none⟩ (.int .i64 (b + a - m))).drew).heap.size = w.heap.size) := by show _ = _; simp
    have HSZ : Hid (w0.heap.size ≤ (((w.setCell ⟨sn, 3, none⟩ (.int .i64 (b + a))).setCell ⟨sn, 3, none⟩ (.int .i64 (b + a - m))).drew).heap.size) := Nat.le_trans hw.size HW1.out.size
    have HLO := Lib.hid hlo
    have HW := Lib.hid hw
    clear hbk hacc hw
    go_enter Try.func101, Try.ntmps101
    go_wp2_with fail
    go_region
    go_wp2_with (at_builtin; refine wpList_push rfl (.tmp 56) (.tmp 58) 26 rfl 3 i0 Try.underlying26 hi0 hz0 hz1 hz2 ((w.setCell ⟨sn, 3, none⟩ (.int .i64 (b + a))).setCell ⟨sn, 3, none⟩ (.int .i64 (b + a - m))).drew ((w.setCell ⟨sn, 3, none⟩ (.int .i64 (b + a))).setCell ⟨sn, 3, none⟩ (.int .i64 (b + a - m))).drew w0.heap.size _ L m rfl rfl HA.out (by rw [HSE.out]; rfl) HLN.out HSZ.out (Below.refl _ _) ?_; intro v2 w2 ha2 hb2; obtain ⟨A2, c2, rfl, hx1, hx2⟩ := ha2.oi.ri; clear hx1 hx2; have HB2 := Lib.hid hb2; have hbk2 := HBK.out.wr hb2 HLO.out; have k2 := hbk2.cell 2; have y2 := hbk2.free 2; simp at k2; have hf := SvI.push HLO.out hbk2 ha2; simp only [List.length_append, List.length_cons, List.length_nil, Nat.zero_add] at hf; have HF := Lib.hid hf; clear ha2 hb2 hbk2 hf)
    go_end0
    exact ⟨rfl, HF.out.1, ((HW.out.trans HW1.out).below9 HB2.out rfl).trans HF.out.2⟩
  · rw [if_neg hle, Int.sub_zero]
    have HW1 : Hid (Wr sn (sn + 1) w ((w.setCell ⟨sn, 3, none⟩ (.int .i64 (b + a))).setCell ⟨sn, 3, none⟩ (.int .i64 (b + a)))) := (((Wr.refl sn (sn + 1) w).setCell (p := ⟨sn, 3, none⟩) (Nat.le_refl _) (Nat.lt_succ_self _) _).setCell (p := ⟨sn, 3, none⟩) (Nat.le_refl _) (Nat.lt_succ_self _) _)
    have HA : Hid (Acc 3 ((w.setCell ⟨sn, 3, none⟩ (.int .i64 (b + a))).setCell ⟨sn, 3, none⟩ (.int .i64 (b + a))) w0.heap.size (.slice A L.length c) L) := hacc.far9 HW1.out (by omega)
    have HBK : Hid (BK ((w.setCell ⟨sn, 3, none⟩ (.int .i64 (b + a))).setCell ⟨sn, 3, none⟩ (.int .i64 (b + a))) sn 72 #[.int .i64 r, .int .i64 l, .slice A L.length c, .int .i64 (b + a)]) := by
      have h9 := (hbk.put 3 (.int .i64 (b + a))).put 3 (.int .i64 (b + a))
      simp at h9
      exact h9
    have HLN : Hid (L.length < 1000000000) := by show _ < _; omega
    have HSE : Hid ((((w.setCell ⟨sn, 3, none⟩ (.int .i64 (b + a))).setCell ⟨sn, 3, none⟩ (.int .i64 (b + a)))).heap.size = w.heap.size) := by show _ = _; simp
    have HSZ : Hid (w0.heap.size ≤ (((w.setCell ⟨sn, 3, none⟩ (.int .i64 (b + a))).setCell ⟨sn, 3, none⟩ (.int .i64 (b + a)))).heap.size) := Nat.le_trans hw.size HW1.out.size
    have HLO := Lib.hid hlo
    have HW := Lib.hid hw
    clear hbk hacc hw
    go_enter Try.func101, Try.ntmps101
    go_wp2_with (at_builtin; refine wpList_push rfl (.tmp 56) (.tmp 58) 26 rfl 3 i0 Try.underlying26 hi0 hz0 hz1 hz2 ((w.setCell ⟨sn, 3, none⟩ (.int .i64 (b + a))).setCell ⟨sn, 3, none⟩ (.int .i64 (b + a))) ((w.setCell ⟨sn, 3, none⟩ (.int .i64 (b + a))).setCell ⟨sn, 3, none⟩ (.int .i64 (b + a))) w0.heap.size _ L 0 rfl rfl HA.out (by rw [HSE.out]; rfl) HLN.out HSZ.out (Below.refl _ _) ?_; intro v2 w2 ha2 hb2; obtain ⟨A2, c2, rfl, hx1, hx2⟩ := ha2.oi.ri; clear hx1 hx2; have HB2 := Lib.hid hb2; have hbk2 := HBK.out.wr hb2 HLO.out; have k2 := hbk2.cell 2; have y2 := hbk2.free 2; simp at k2; have hf := SvI.push HLO.out hbk2 ha2; simp only [List.length_append, List.length_cons, List.length_nil, Nat.zero_add] at hf; have HF := Lib.hid hf; clear ha2 hb2 hbk2 hf)
    go_end0
    exact ⟨rfl, HF.out.1, ((HW.out.trans HW1.out).below9 HB2.out rfl).trans HF.out.2⟩
/-- What serve leaves: the run when all is sent, or the panic. -/
def SrvE (w : World) (sn : Nat) (x : Sv) (l : List Int) (e : Ending) (w' : World) : Prop :=
  Wr sn (sn + 1) w w' ∧ ((∃ n b, svRg x l = some n ∧ e = .returned (.tuple #[]) ∧ SvI w' sn w.heap.size x b (svT x l n)) ∨ (∃ b, svRg x l = none ∧ 0 < b ∧ e = fellB b))
theorem svG_is (x : Sv) (l : List Int) (t : Nat) : (if x.l ≤ (t : Int) then min ((svS x l t).2 + l.getD t 0) x.r else 0) = svG x l t := rfl
theorem getD_past9 {l : List Int} {j : Nat} (h : l.length ≤ j) : l.getD j 0 = 0 := by simp [List.getD, h]
set_option maxHeartbeats 2000000 in
theorem serve_any (sn : Nat) (w : World) (v : Value) (x : Sv) (l : List Int) (hi : SvI w sn w.heap.size x 0 []) (h : RI w sn v l) (hx : svOk x = true) (hl : trOk l = true) :
    Calls Try.prog 63 #[.pointer (some ⟨sn, 0, none⟩), v] w (SrvE w sn x l) := by
  have hlen := trOk_len hl
  have hn' : (l.length : Int) ≤ 40 := by omega
  have HIN := Lib.hid fun t => svS_in hx hl t
  have HAT := Lib.hid fun t => trOk_at hl t
  have HST := Lib.hid fun (W : World) (t : Nat) (a : Int) (hI : SvI W sn w.heap.size x (svS x l t).2 (svT x l t)) (hW : Wr sn (sn + 1) w W) (ht : t < 100) (ha : a = l.getD t 0) =>
    (by
      have h1 := svS_in hx hl t
      have h2 := trOk_at hl t
      have h9 := step_any sn w W x (svS x l t).2 a (svT x l t) hI (by rw [svT_length]; exact ht) hW hx (by omega) (by omega)
      rw [svT_length, ha, svG_is] at h9
      rw [ha]
      have e : (svS x l t).2 + l.getD t 0 - svG x l t = (svS x l (t + 1)).2 := by rw [svS_succ]
      rw [e, ← svT_succ] at h9
      exact h9 : Calls Try.prog 101 #[.pointer (some ⟨sn, 0, none⟩), .int .i64 a] W fun e w' => e = .returned (.tuple #[]) ∧ (SvI w' sn w.heap.size x (svS x l (t + 1)).2 (svT x l (t + 1)) ∧ Wr sn (sn + 1) w w'))
  have HPN := Lib.hid fun (W : World) (b : Int) (L : List Int) (hI : SvI W sn w.heap.size x b L) (hL : L.length = 100) => stepPanics_any sn w W x b 0 L hI hL
  obtain ⟨A, c, rfl, hlc, hc⟩ := h
  have HC := Lib.hid hc
  have HI0 : Hid (SvI w sn w.heap.size x (svS x l 0).2 (svT x l 0)) := hi
  have HP : Hid (∀ e w', SrvE w sn x l e w' ↔ SrvE w sn x l e w') := fun _ _ => Iff.rfl
  obtain ⟨POST, hP⟩ : ∃ P, P = SrvE w sn x l := ⟨_, rfl⟩
  have HPO := Lib.hid hP
  rw [← hP]
  clear hc hx hl hi HP hP
  go_enter Try.func63, Try.ntmps63
  go_wp2_with fail
  go_loopg [8] l.length (fun g s8 wx => ∃ t : Nat, t + g = l.length ∧ s8 = .int .i64 (t : Int) ∧ SvI wx sn w.heap.size x (svS x l t).2 (svT x l t) ∧ Wr sn (sn + 1) w wx ∧ svRg x l = svE x l t (100 - t))
  case atStart => exact ⟨0, by omega, rfl, HI0.out, Wr.refl _ _ _, rfl⟩
  case round =>
    obtain ⟨t, htg, rfl, hi, hw, hr⟩ := hrel
    have HI := Lib.hid hi
    have HW := Lib.hid hw
    have HR := Lib.hid hr
    clear hi hw hr HI0
    cases gk with
    | zero =>
      have hte : t = l.length := by omega
      have hz : ¬ ((l.length : Int) < (l.length : Int)) := by omega
      rw [hte] at HI HR ⊢
      clear hte htg t
      go_wp2_with fail
      go_loopg [] (100 - l.length) (fun g wx => ∃ t : Nat, t + g = 100 ∧ l.length ≤ t ∧ SvI wx sn w.heap.size x (svS x l t).2 (svT x l t) ∧ Wr sn (sn + 1) w wx ∧ svRg x l = svE x l t g)
      case atStart => exact ⟨l.length, by omega, Nat.le_refl _, HI.out, HW.out, HR.out⟩
      case round =>
        clear HI HW HR
        obtain ⟨t, htg, hlt, hi, hw, hr⟩ := hrel
        have HI := Lib.hid hi
        have HW := Lib.hid hw
        have HR := Lib.hid hr
        obtain ⟨_, u, hbk, _⟩ := hi
        have c3 := hbk.cell 3
        simp at c3
        have HGO : Hid (svGo x l t = decide (0 < (svS x l t).2)) := by show _ = _; simp [svGo, Nat.not_lt.2 hlt]
        have h0 := (HIN.out t).2.1
        have HCALL := Lib.hid fun (ht : t < 100) => HST.out wr t 0 HI.out HW.out ht (getD_past9 hlt).symm
        have HCP := Lib.hid fun (ht : t = 100) => HPN.out wr _ _ HI.out (by rw [svT_length]; exact ht)
        clear hw hr hbk
        obtain ⟨b, hb⟩ : ∃ b, b = (svS x l t).2 := ⟨_, rfl⟩
        have HBE := Lib.hid hb
        rw [← hb] at c3 h0 HGO HCP
        clear hb
        by_cases hb0 : 0 < b
        · have HGT : Hid (svGo x l t = true) := by show _ = _; rw [HGO.out]; simpa using hb0
          cases gk with
          | zero =>
            have hte : t = 100 := by omega
            have HRN : Hid (svRg x l = none) := by show _ = _; rw [HR.out, svE, if_pos HGT.out]
            have HCC := Lib.hid (HCP.out hte)
            clear hlt htg
            go_wp2_with fail
            refine HCC.out.mono ?_; rintro e w2 ⟨rfl, rfl⟩
            unfold fellB
            refine ⟨rfl, ?_⟩
            rw [HPO.out]
            exact ⟨HW.out, .inr ⟨b, HRN.out, hb0, rfl⟩⟩
          | succ g =>
            have HRN : Hid (svRg x l = svE x l (t + 1) g) := by show _ = _; rw [HR.out, svE, if_pos HGT.out]
            have HCC := Lib.hid (HCALL.out (by omega))
            go_wp2_with fail
            refine HCC.out.mono ?_; rintro e w2 ⟨rfl, hi2, hw2⟩
            have HI2 := Lib.hid hi2
            have HW2 := Lib.hid hw2
            clear hi2 hw2
            go_wp2_with fail
            go_roundg g
            case measure => omega
            case rel => exact ⟨t + 1, by omega, by omega, HI2.out, HW2.out, HRN.out⟩
        · have HGT : Hid (svGo x l t = false) := by show _ = _; rw [HGO.out]; simpa using hb0
          have HRN : Hid (svRg x l = some t) := by
            show _ = _
            cases gk with
            | zero => rw [HR.out, svE, if_neg (by rw [HGT.out]; simp)]
            | succ g => rw [HR.out, svE, if_neg (by rw [HGT.out]; simp)]
          have hb1 : ¬ (0 < b) := hb0
          go_wp2_with fail
          go_end0
          rw [HPO.out]
          exact ⟨HW.out, .inl ⟨t, _, HRN.out, rfl, HI.out⟩⟩
    | succ g =>
      have ht : t < l.length := by omega
      have ht' : (t : Int) < (l.length : Int) := by omega
      obtain ⟨pb, off, rfl, hbB, hcell⟩ := HC.out (by omega)
      have hcx : wr.cell? ⟨pb, off + t, none⟩ = some (.int .i64 (l.getD t 0)) := ((HW.out.below (B := sn) (Nat.le_refl _) (Nat.le_of_lt HI.out.1)).cell (p := ⟨pb, off + t, none⟩) hbB).trans (hcell t ht)
      have HCALL := Lib.hid (HST.out wr t (l.getD t 0) HI.out HW.out (by omega) rfl)
      have HRN : Hid (svRg x l = svE x l (t + 1) (100 - (t + 1))) := by
        show _ = _
        rw [HR.out, show 100 - t = (100 - (t + 1)) + 1 from by omega, svE, if_pos (by simp [svGo, ht])]
      generalize l.getD t 0 = a at hcx HCALL
      clear hcell
      go_wp2_with fail
      refine HCALL.out.mono ?_; rintro e w2 ⟨rfl, hi2, hw2⟩
      have HI2 := Lib.hid hi2
      have HW2 := Lib.hid hw2
      clear hi2 hw2
      go_wp2_with fail
      go_roundg g
      case measure => omega
      case rel => exact ⟨t + 1, by omega, by go_num, HI2.out, HW2.out, HRN.out⟩
end Go.Proofs.Ytlanpfcjcafapaa
