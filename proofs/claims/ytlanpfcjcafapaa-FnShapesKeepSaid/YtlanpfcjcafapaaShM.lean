/-
  Chapter 8: what is sent, tick by tick: the model's shSend.
-/
import Derived.Test.YtlanpfcjcafapaaShA
import Derived.Test.YtlanpfcjcafapaaPr
import Derived.Test.YtlanpfcjcafapaaMathSn
import Derived.Test.YtlanpfcjcafapaaRow5
import Derived.Deep.LoopGhost
namespace Go.Proofs.Ytlanpfcjcafapaa
open Go.RowKit
set_option maxRecDepth 100000
set_option linter.unusedVariables false

set_option maxHeartbeats 4000000 in
theorem shSend_any (v : Value) (x : Bu) (l : List Int) (w : World) (h : RI w w.heap.size v l) (hx : buOk x = true) (hl : trOk l = true) :
    Calls Try.prog 99 #[.int .i64 x.r, .int .i64 x.d, v] w fun e w' => ∃ u1 u2, e = .returned (.tuple #[u1, u2, .bool (outO x l (snRg x l)).2]) ∧ OI 3 w' w.heap.size w'.heap.size u1 (outO x l (snRg x l)).1 ∧ OI 3 w' w.heap.size w'.heap.size u2 (outB x l (snRg x l)) ∧ Below w.heap.size w w' := by
  have HRI := Lib.hid h
  obtain ⟨A, c, rfl, hlc, hc⟩ := h
  have HC := Lib.hid hc
  clear hc
  obtain ⟨i0, hi, hz0, hz1, hz2⟩ := info_parts int_info
  have hlen := trOk_len hl
  have hn' : (l.length : Int) ≤ 40 := by omega
  have HIN := Lib.hid fun t => snS_in hx hl t
  have HAT := Lib.hid fun t => trOk_at hl t
  have HD := Lib.hid (buOk_in hx)
  obtain ⟨R, hR⟩ : ∃ R, R = snRg x l := ⟨_, rfl⟩
  rw [← hR]
  have HR : Hid (R = snE x l 0 100) := hR
  obtain ⟨r, hr9⟩ : ∃ r, r = x.r := ⟨_, rfl⟩
  obtain ⟨d, hd9⟩ : ∃ d, d = x.d := ⟨_, rfl⟩
  have HXR := Lib.hid hr9
  have HXD := Lib.hid hd9
  rw [← hr9, ← hd9] at HD ⊢
  rw [← hd9] at HIN
  have hdd := HD.out
  clear hR hx hl hr9 hd9
  go_enter Try.func99, Try.ntmps99
  go_wp2_with fail
  go_loopg [13, 12, 11, 9, 10] 100 (fun g s13 s12 s11 s9 s10 wx => ∃ t : Nat, t + g = 100 ∧ s13 = .int .i64 (t : Int) ∧ s12 = .int .i64 (snS x l t).2 ∧ s11 = .int .i64 (snS x l t).1 ∧ R = snE x l t g ∧ Pr wx w.heap.size s9 s10 (snT x l t) (snB x l t) ∧ Below w.heap.size w wx)
  case atStart => exact ⟨0, by omega, rfl, rfl, by rw [HXD.out]; rfl, HR.out, Pr.nil _ _, Below.refl _ _⟩
  case round =>
    obtain ⟨t, htg, rfl, rfl, rfl, hr, hpr, hw⟩ := hrel
    have HRR := Lib.hid hr
    have HP := Lib.hid hpr
    have HB := Lib.hid hw
    clear hr hpr hw
    have hin := HIN.out t
    have hat := HAT.out t
    have ht100 : (t : Int) ≤ 100 := by omega
    have htb : (1000 : Int) * (t : Int) ≤ 100000 := by omega
    obtain ⟨q, hq⟩ : ∃ q, q = (snS x l t).1 := ⟨_, rfl⟩
    obtain ⟨b, hb⟩ : ∃ b, b = (snS x l t).2 := ⟨_, rfl⟩
    have HQ := Lib.hid hq
    have HBQ := Lib.hid hb
    rw [← hq, ← hb] at hin
    rw [← hq, ← hb]
    have hb2 : 0 ≤ b ∧ b ≤ 100000 := by omega
    have hq2 : 0 ≤ q ∧ q ≤ 1000 := by omega
    have HGO : Hid (snGo x l t = (decide (t < l.length) || decide (0 < b))) := by show _ = _; rw [HBQ.out]; rfl
    clear hq hb hin htb
    by_cases hgo : t < l.length ∨ 0 < b
    · have HGT : Hid (snGo x l t = true) := by show _ = _; rw [HGO.out]; simpa using hgo
      cases gk with
      | zero =>
        have hte : t = 100 := by omega
        have HRN : Hid (R = none) := by show _ = _; rw [HRR.out, snE, if_pos HGT.out]
        subst hte
        by_cases hlt : (100 : Nat) < l.length
        · omega
        · have hlt' : ¬ ((100 : Int) < (l.length : Int)) := by omega
          have hb0 : 0 < b := by omega
          clear hgo
          go_wp2_with fail
          refine bodyPost_ret (v := .tuple #[.slice none 0 0, .slice none 0 0, .bool false]) (by simp [results, Try.results99, go_sem]) rfl ?_
          rw [HRN.out]
          exact ⟨_, _, rfl, .inl ⟨rfl, none, 0, rfl, by simp, fun _ => rfl⟩, .inl ⟨rfl, none, 0, rfl, by simp, fun _ => rfl⟩, HB.out⟩
      | succ g =>
        have hne : (t : Int) < 100 := by omega
        have HRN : Hid (R = snE x l (t + 1) g) := by show _ = _; rw [HRR.out, snE, if_pos HGT.out]
        obtain ⟨a, ha⟩ : ∃ a, a = l.getD t 0 := ⟨_, rfl⟩
        rw [← ha] at hat
        have HGR : Hid (snG x l t = min (b + a) q) := by show _ = _; rw [HBQ.out, HQ.out, ha]; rfl
        have HS1 : Hid ((snS x l (t + 1)).1 = min d (q - min (b + a) q + r)) := by show _ = _; rw [snS_succ, HGR.out, ← HQ.out, HXR.out, HXD.out]; exact Int.min_comm _ _
        have HS2 : Hid ((snS x l (t + 1)).2 = b + a - min (b + a) q) := by show _ = _; rw [snS_succ, HGR.out, ← HBQ.out, ← ha]
        have HSU1 := Lib.hid (snT_succ x l t)
        have HSU2 := Lib.hid (snB_succ x l t)
        have HLN1 : Hid ((snT x l t).length < 1000000000) := by show _ < _; rw [snT_length]; omega
        have HLN2 : Hid ((snB x l t).length < 1000000000) := by show _ < _; rw [snB_length]; omega
        have HLE1 := Lib.hid fun W => shLeast_any (b + a) q W
        have hmb : 0 ≤ min (b + a) q ∧ min (b + a) q ≤ b + a ∧ min (b + a) q ≤ q := by omega
        obtain ⟨m, hm⟩ : ∃ m, m = min (b + a) q := ⟨_, rfl⟩
        rw [← hm] at HLE1 HGR HS1 HS2 hmb
        have HLE2 := Lib.hid fun W => shLeast_any d (q - m + r) W
        clear hm
        by_cases hlt : t < l.length
        · have hlt' : (t : Int) < (l.length : Int) := by omega
          obtain ⟨pb, off, rfl, hbB, hcell⟩ := HC.out (by omega)
          have hcx := (HB.out.cell (p := ⟨pb, off + t, none⟩) hbB).trans (hcell t hlt)
          rw [← ha] at hcx
          clear hgo hcell ha
          go_wp2_with (first
            | (go_at_call 81; (with_reducible refine (HLE1.out _).mono ?_); rintro e w' ⟨rfl, rfl⟩)
            | (go_at_call 81; (with_reducible refine (HLE2.out _).mono ?_); rintro e w' ⟨rfl, rfl⟩)
            | (at_builtin; refine wpList_pushAt8 rfl (.tmp 44) (.tmp 46) 26 rfl 3 i0 Try.underlying26 hi hz0 hz1 hz2 wr w.heap.size _ (snT x l t).length (snT x l t) m rfl rfl HP.out.fst rfl HLN1.out HB.out.size ?_; intro v2 w2 hr2 hg2 hu2; have HP2 := Lib.hid (HP.out.put1 hr2 hg2 hu2); have HB2 := Lib.hid (HB.out.trans (grown_below hg2 HB.out.size fun k hk => (World.ownsRow.lt HP.out.fst k hk).1)); clear hr2 hg2 hu2)
            | (at_builtin; refine wpList_pushAt8 rfl (.tmp 48) (.tmp 50) 26 rfl 3 i0 Try.underlying26 hi hz0 hz1 hz2 w2 w.heap.size _ (snB x l t).length (snB x l t) (b + a - m) rfl rfl HP2.out.snd rfl HLN2.out HB2.out.size ?_; intro v3 w3 hr3 hg3 hu3; have HP3 := Lib.hid (HP2.out.put2 hr3 hg3 hu3); have HB3 := Lib.hid (HB2.out.trans (grown_below hg3 HB2.out.size fun k hk => (World.ownsRow.lt HP2.out.snd k hk).1)); clear hr3 hg3 hu3))
          go_roundg g
          case measure => omega
          case rel => exact ⟨t + 1, by omega, by go_num, by rw [HS2.out], by rw [HS1.out], HRN.out, (by rw [HSU1.out, HSU2.out, HGR.out, HS2.out]; exact HP3.out), HB3.out⟩
        · have hlt' : ¬ ((t : Int) < (l.length : Int)) := by omega
          have hb0 : 0 < b := by omega
          have ha0 : a = 0 := by rw [ha]; simp [List.getD, Nat.not_lt.1 hlt]
          clear hgo ha
          subst ha0
          simp only [Int.add_zero] at HLE1 HS2 hmb
          go_wp2_with (first
            | (go_at_call 81; (with_reducible refine (HLE1.out _).mono ?_); rintro e w' ⟨rfl, rfl⟩)
            | (go_at_call 81; (with_reducible refine (HLE2.out _).mono ?_); rintro e w' ⟨rfl, rfl⟩)
            | (at_builtin; refine wpList_pushAt8 rfl (.tmp 44) (.tmp 46) 26 rfl 3 i0 Try.underlying26 hi hz0 hz1 hz2 wr w.heap.size _ (snT x l t).length (snT x l t) m rfl rfl HP.out.fst rfl HLN1.out HB.out.size ?_; intro v2 w2 hr2 hg2 hu2; have HP2 := Lib.hid (HP.out.put1 hr2 hg2 hu2); have HB2 := Lib.hid (HB.out.trans (grown_below hg2 HB.out.size fun k hk => (World.ownsRow.lt HP.out.fst k hk).1)); clear hr2 hg2 hu2)
            | (at_builtin; refine wpList_pushAt8 rfl (.tmp 48) (.tmp 50) 26 rfl 3 i0 Try.underlying26 hi hz0 hz1 hz2 w2 w.heap.size _ (snB x l t).length (snB x l t) (b - m) rfl rfl HP2.out.snd rfl HLN2.out HB2.out.size ?_; intro v3 w3 hr3 hg3 hu3; have HP3 := Lib.hid (HP2.out.put2 hr3 hg3 hu3); have HB3 := Lib.hid (HB2.out.trans (grown_below hg3 HB2.out.size fun k hk => (World.ownsRow.lt HP2.out.snd k hk).1)); clear hr3 hg3 hu3))
          go_roundg g
          case measure => omega
          case rel => exact ⟨t + 1, by omega, by go_num, by rw [HS2.out], by rw [HS1.out], HRN.out, (by rw [HSU1.out, HSU2.out, HGR.out, HS2.out]; exact HP3.out), HB3.out⟩
    · have HGT : Hid (snGo x l t = false) := by show _ = _; rw [HGO.out]; simp; omega
      have HRN : Hid (R = some t) := by
        show _ = _
        cases gk with
        | zero => rw [HRR.out, snE, if_neg (by rw [HGT.out]; simp)]
        | succ g => rw [HRR.out, snE, if_neg (by rw [HGT.out]; simp)]
      have hlt' : ¬ ((t : Int) < (l.length : Int)) := by omega
      have hb0 : ¬ (0 < b) := by omega
      clear hgo
      go_wp2_with fail
      refine bodyPost_ret (v := .tuple #[_, _, .bool true]) (by simp [results, Try.results99, go_sem]; exact ⟨rfl, rfl⟩) rfl ?_
      rw [HRN.out]
      exact ⟨_, _, rfl, HP.out.own1, HP.out.own2, HB.out⟩

end Go.Proofs.Ytlanpfcjcafapaa
