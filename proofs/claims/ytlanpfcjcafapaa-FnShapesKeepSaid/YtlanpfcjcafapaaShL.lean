/-
  Chapter 8: what is granted, tick by tick: the program's sentBy.
-/
import Derived.Test.YtlanpfcjcafapaaShB
import Derived.Test.YtlanpfcjcafapaaShF
import Derived.Test.YtlanpfcjcafapaaMathSn
namespace Go.Proofs.Ytlanpfcjcafapaa
open Go.RowKit
set_option maxRecDepth 100000
set_option linter.unusedVariables false

theorem BK.low {w w' : World} {g B : Nat} {t : TypeId} {cs : Array Value} (h : BK w g t cs) (hb : Below B w w') (hg : g < B) : BK w' g t cs := ⟨Nat.lt_of_lt_of_le h.1 hb.size, (hb.block g hg).trans h.2⟩
theorem PM.low {W W' : World} {pn pb B : Nat} {x : Bu} {q : Int} (h : PM W pn pb x q) (hb : Below B W W') (h1 : pn < B) (h2 : pb < B) : PM W' pn pb x q := ⟨h.nx.low hb h1, h.bu.low hb h2, h.ne⟩
theorem Wr.then_below {a b : Nat} {w w1 w2 : World} (h : Wr a b w w1) (hb : Below w.heap.size w1 w2) : Wr a b w w2 :=
  ⟨hb.os.trans h.os, hb.tape.trans h.tape, hb.output.trans h.output, Nat.le_trans h.size hb.size, fun k hk hn => (hb.block k hk).trans (h.block k hk hn)⟩
theorem Acc.far {E : TypeId} {w w' : World} {lo a b : Nat} {v : Value} {l : List Int} (h : Acc E w lo v l) (hg : Wr a b w w') (hb : b ≤ lo) : Acc E w' lo v l := by
  have h0 := h
  rcases h.2 with ⟨rfl, hn⟩ | ⟨g, c, cur, rfl, hg1, _⟩
  · exact ⟨h.1, .inl ⟨rfl, hn⟩⟩
  · exact row_far h0 hg (.inr (by omega))
set_option maxHeartbeats 2000000 in
theorem sentBy_any (v : Value) (pn pb B : Nat) (x : Bu) (l : List Int) (W : World) (h : RI W B v l) (hp : PM W pn pb x x.d) (hB : B ≤ pn) (hx : buOk x = true) (hl : trOk l = true) :
    Calls Try.prog 97 #[permitV pn pb, v] W fun e w' => ∃ u, e = .returned (.tuple #[u, .bool (outO x l (snRg x l)).2]) ∧ OI 3 w' W.heap.size w'.heap.size u (outO x l (snRg x l)).1 ∧ Wr pn (pn + 1) W w' := by
  have hpn := hp.nx.1
  have hpb := hp.bu.1
  have HRI := Lib.hid h
  obtain ⟨A, c, rfl, hlc, hc⟩ := h
  clear hc
  obtain ⟨i0, hi, hz0, hz1, hz2⟩ := info_parts int_info
  have hlen := trOk_len hl
  have hn' : (l.length : Int) ≤ 40 := by omega
  have HPM := Lib.hid fun pn pb q a W h h1 h2 => permit_any pn pb x q a W h h1 h2 hx
  have HIN := Lib.hid fun t => snS_in hx hl t
  have HAT := Lib.hid fun t => trOk_at hl t
  have HD := Lib.hid (buOk_in hx)
  have HP0 := Lib.hid hp
  have HPZ : Hid (pn < W.heap.size ∧ pb < W.heap.size) := ⟨hpn, hpb⟩
  have HBP : Hid (B ≤ pn) := hB
  obtain ⟨R, hR⟩ : ∃ R, R = snRg x l := ⟨_, rfl⟩
  rw [← hR]
  have HR : Hid (R = snE x l 0 100) := hR
  clear hR hx hl hp hB hpn hpb
  go_enter Try.func97, Try.ntmps97
  go_wp2_with fail
  go_loopg [8, 7, 6] 100 (fun g s8 s7 s6 wx => ∃ t : Nat, t + g = 100 ∧ s8 = .int .i64 (t : Int) ∧ s7 = .int .i64 (snS x l t).2 ∧ R = snE x l t g ∧ PM wx pn pb x (snS x l t).1 ∧ Acc 3 wx W.heap.size s6 (snT x l t) ∧ Wr pn (pn + 1) W wx)
  case atStart => exact ⟨0, by omega, rfl, rfl, HR.out, HP0.out, Acc.nil _ _ _, Wr.refl _ _ _⟩
  case round =>
    obtain ⟨t, htg, rfl, rfl, hr, hpm, hacc, hw⟩ := hrel
    have HRR := Lib.hid hr
    have HP := Lib.hid hpm
    have HA := Lib.hid hacc
    have HW := Lib.hid hw
    clear hr hpm hacc hw
    have hin := HIN.out t
    have hat := HAT.out t
    have hd := HD.out
    have ht100 : (t : Int) ≤ 100 := by omega
    have htb : (1000 : Int) * (t : Int) ≤ 100000 := by omega
    obtain ⟨q, hq⟩ : ∃ q, q = (snS x l t).1 := ⟨_, rfl⟩
    obtain ⟨b, hb⟩ : ∃ b, b = (snS x l t).2 := ⟨_, rfl⟩
    have HQ := Lib.hid hq
    have HBQ := Lib.hid hb
    rw [← hq] at HP hin
    rw [← hb] at hin ⊢
    have hb2 : 0 ≤ b ∧ b ≤ 100000 := by omega
    have hq2 : 0 ≤ q ∧ q ≤ 1000 := by omega
    have HGO : Hid (snGo x l t = (decide (t < l.length) || decide (0 < b))) := by show _ = _; rw [HBQ.out]; rfl
    clear hq hb hin htb hd
    by_cases hgo : t < l.length ∨ 0 < b
    · have HGT : Hid (snGo x l t = true) := by show _ = _; rw [HGO.out]; simpa using hgo
      cases gk with
      | zero =>
        have hte : t = 100 := by omega
        have HRN : Hid (R = none) := by show _ = _; rw [HRR.out, snE, if_pos HGT.out]
        subst hte
        by_cases hlt : (100 : Nat) < l.length
        · omega
        · have hlt' : ¬ ((100 : Int) < (l.length : Int)) := by omega
          have hb0 : 0 < b := by omega
          clear hgo
          go_wp2_with fail
          go_ret2
          rw [HRN.out]
          exact ⟨_, rfl, .inl ⟨rfl, none, 0, rfl, by simp, fun _ => rfl⟩, HW.out⟩
      | succ g =>
        have hne : ¬ ((t : Int) = 100) := by omega
        have hneb : ((t : Int) == 100) = false := by simpa using hne
        have HRN : Hid (R = snE x l (t + 1) g) := by show _ = _; rw [HRR.out, snE, if_pos HGT.out]
        have HCM := Lib.hid (comingAt_any t (.slice A l.length c) l wr ((HRI.out.far HW.out HBP.out (by have := HPZ.out; have := HBP.out; omega)).more (by have := HPZ.out; have := HBP.out; have := HW.out.size; omega)) (by omega) (by omega))
        obtain ⟨a, ha⟩ : ∃ a, a = l.getD t 0 := ⟨_, rfl⟩
        rw [← ha] at HCM hat
        have HPC := Lib.hid (HPM.out pn pb q (b + a) wr HP.out hq2 (by omega))
        have HGR : Hid (snG x l t = min (b + a) q) := by show _ = _; rw [HBQ.out, HQ.out, ha]; rfl
        have HS1 : Hid ((snS x l (t + 1)).1 = min (q - min (b + a) q + x.r) x.d) := by show _ = _; rw [snS_succ, HGR.out, ← HQ.out]
        have HS2 : Hid ((snS x l (t + 1)).2 = b + a - min (b + a) q) := by show _ = _; rw [snS_succ, HGR.out, ← HBQ.out, ← ha]
        have HSUC := Lib.hid (snT_succ x l t)
        have HLN : Hid ((snT x l t).length < 1000000000) := by show _ < _; rw [snT_length]; omega
        obtain ⟨m, hm⟩ : ∃ m, m = min (b + a) q := ⟨_, rfl⟩
        have hmb : 0 ≤ m ∧ m ≤ b + a := by omega
        rw [← hm] at HPC HGR HS1 HS2
        clear ha hm
        by_cases hlt : t < l.length
        · have hlt' : (t : Int) < (l.length : Int) := by omega
          clear hgo
          go_wp2_with fail
          refine HCM.out.mono ?_; rintro e w' ⟨rfl, rfl⟩
          go_wp2_with fail
          refine HPC.out.mono ?_; rintro e w3 ⟨rfl, hp3, hw3⟩
          have HP3 := Lib.hid hp3
          have HW3 := Lib.hid (HW.out.trans hw3)
          have HA3 : Hid (Acc 3 w3 W.heap.size _ (snT x l t)) := HA.out.far hw3 (by have := HPZ.out; omega)
          have HSZ3 : Hid (W.heap.size ≤ w3.heap.size) := HW3.out.size
          clear hp3 hw3
          go_wp2_with (at_builtin; refine wpList_push rfl (.tmp 37) (.tmp 39) 26 rfl 3 i0 Try.underlying26 hi hz0 hz1 hz2 w3 w3 W.heap.size _ (snT x l t) m rfl rfl HA3.out rfl HLN.out HSZ3.out (Below.refl _ _) ?_; intro v4 w4 ha4 hb4; have HA4 := Lib.hid ha4; have HB4 := Lib.hid hb4; clear ha4 hb4)
          go_roundg g
          case measure => omega
          case rel => exact ⟨t + 1, by omega, by go_num, by rw [HS2.out], HRN.out, (by rw [HS1.out]; exact HP3.out.low HB4.out HPZ.out.1 HPZ.out.2), (by rw [HSUC.out, HGR.out]; exact HA4.out), HW3.out.then_below HB4.out⟩
        · have hlt' : ¬ ((t : Int) < (l.length : Int)) := by omega
          have hb0 : 0 < b := by omega
          clear hgo
          go_wp2_with fail
          refine HCM.out.mono ?_; rintro e w' ⟨rfl, rfl⟩
          go_wp2_with fail
          refine HPC.out.mono ?_; rintro e w3 ⟨rfl, hp3, hw3⟩
          have HP3 := Lib.hid hp3
          have HW3 := Lib.hid (HW.out.trans hw3)
          have HA3 : Hid (Acc 3 w3 W.heap.size _ (snT x l t)) := HA.out.far hw3 (by have := HPZ.out; omega)
          have HSZ3 : Hid (W.heap.size ≤ w3.heap.size) := HW3.out.size
          clear hp3 hw3
          go_wp2_with (at_builtin; refine wpList_push rfl (.tmp 37) (.tmp 39) 26 rfl 3 i0 Try.underlying26 hi hz0 hz1 hz2 w3 w3 W.heap.size _ (snT x l t) m rfl rfl HA3.out rfl HLN.out HSZ3.out (Below.refl _ _) ?_; intro v4 w4 ha4 hb4; have HA4 := Lib.hid ha4; have HB4 := Lib.hid hb4; clear ha4 hb4)
          go_roundg g
          case measure => omega
          case rel => exact ⟨t + 1, by omega, by go_num, by rw [HS2.out], HRN.out, (by rw [HS1.out]; exact HP3.out.low HB4.out HPZ.out.1 HPZ.out.2), (by rw [HSUC.out, HGR.out]; exact HA4.out), HW3.out.then_below HB4.out⟩
    · have HGT : Hid (snGo x l t = false) := by show _ = _; rw [HGO.out]; simp; omega
      have HRN : Hid (R = some t) := by
        show _ = _
        cases gk with
        | zero => rw [HRR.out, snE, if_neg (by rw [HGT.out]; simp)]
        | succ g => rw [HRR.out, snE, if_neg (by rw [HGT.out]; simp)]
      have hlt' : ¬ ((t : Int) < (l.length : Int)) := by omega
      have hb0 : ¬ (0 < b) := by omega
      clear hgo
      go_wp2_with fail
      go_ret2
      rw [HRN.out]
      exact ⟨_, rfl, HA.out.oi, HW.out⟩

end Go.Proofs.Ytlanpfcjcafapaa
