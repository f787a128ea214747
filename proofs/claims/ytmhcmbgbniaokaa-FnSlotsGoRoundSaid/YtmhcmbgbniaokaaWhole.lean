/-
  The model behind so many ticks, and behind all messages.
-/
import Derived.Test.YtmhcmbgbniaokaaNew
import Derived.Test.YtmhcmbgbniaokaaTickS
namespace Go.Proofs.Ytmhcmbgbniaokaa
open Go.RowKit Go.Maps
set_option maxRecDepth 100000
set_option linter.unusedVariables false

theorem RunS.low {w wa w1 : World} {x : Sr} {l : List Ms} {A : Option Addr} {c g sb fb qb : Nat} {vf vr : Value} {S : Nat → Nat} {F R : Nat → Int} (hW : Below w.heap.size w wa) (h : RunS wa w1 x l A c g sb fb qb vf vr S F R) : RunS w w1 x l A c g sb fb qb vf vr S F R := ⟨h.run, h.slots, h.filled, h.read, hW.trans (h.bel.mono hW.size)⟩
theorem RP.low {w wa : World} {g sb fb qb : Nat} (hs : w.heap.size ≤ wa.heap.size) (h : RP wa g sb fb qb) : RP w g sb fb qb := ⟨Nat.le_trans hs h.g0, Nat.le_trans hs h.s0, Nat.le_trans hs h.f0, Nat.le_trans hs h.q0, h.gs, h.gf, h.gq, h.sf, h.sq, h.fq⟩
/-- The model's ring behind t ticks. -/
def EndP (w : World) (x : Sr) (l : List Ms) (A : Option Addr) (c t : Nat) (e : Ending) (w' : World) : Prop :=
  ∃ g sb fb qb vf vr, e = .returned (.pointer (some ⟨g, 0, none⟩)) ∧ RP w g sb fb qb ∧ RunS w w' x l A c g sb fb qb vf vr ((swOf x l).S t) ((swOf x l).F t) ((swOf x l).Rd t)
set_option maxHeartbeats 4000000 in
theorem slEnd_any (x : Sr) (l : List Ms) (A : Option Addr) (c T : Nat) (w : World) (hin : 2 ≤ x.n ∧ x.n ≤ 12) (hall : ∀ y ∈ l, MsIn x.n y) (hl20 : l.length ≤ 20) (hlc : l.length ≤ c) (hr : RMsS w w.heap.size (.slice A l.length c) l) (hT : T ≤ 1000) :
    Calls Try.prog 40 #[SrV x, .slice A l.length c, .int .i64 (T : Nat)] w (EndP w x l A c T) := by
  have HNEW := Lib.hid (fun w => slNew_any x l A c w hin hl20 hlc)
  have HTK := Lib.hid (fun w0 g sb fb qb vf vr t w h1 h2 h3 h4 => slTick_any x l w0 A c g sb fb qb vf vr t w hin hall hl20 h1 h2 h3 h4)
  unfold EndP
  obtain ⟨y, hy⟩ : ∃ y, y = swOf x l := ⟨_, rfl⟩
  rw [← hy] at HNEW HTK ⊢
  clear hy hall hin
  obtain ⟨k, hh⟩ := x
  simp only [SrV] at HNEW ⊢
  have hW : Below w.heap.size w (w.alloc (.cells #[.int .i64 k, .bool hh] 25)) := (Below.refl _ _).alloc (Nat.le_refl _) _
  have hc0 : (w.alloc (.cells #[.int .i64 k, .bool hh] 25)).cell? ⟨w.heap.size, 0, none⟩ = some (.int .i64 k) := by simp
  have hc1 : (w.alloc (.cells #[.int .i64 k, .bool hh] 25)).cell? ⟨w.heap.size, 1, none⟩ = some (.bool hh) := by simp
  have HR := Lib.hid ((hr.step hW (Nat.le_refl _)).more hW.size)
  have HW := Lib.hid hW
  clear hr hW
  go_enter Try.func40, Try.ntmps40
  go_upto_region 1 with fail
  generalize w.alloc (.cells #[.int .i64 k, .bool hh] 25) = wa at *
  go_wp2_with fail
  refine (HNEW.out _).mono ?_; rintro e w1 ⟨g, sb, fb, qb, vf, vr, rfl, hp, hS⟩
  have HP := Lib.hid hp
  have HS := Lib.hid hS
  clear hp hS hc0 hc1
  go_wp2_with fail
  go_loopw [8] (fun i wr => ∃ t : Nat, t ≤ T ∧ i = .int .i64 t ∧ RunS wa wr ⟨k, hh⟩ l A c g sb fb qb vf vr (y.S t) (y.F t) (y.Rd t)) (fun i _ => T - (intOf i).toNat)
  case atStart => exact ⟨0, Nat.zero_le _, rfl, HS.out⟩
  case round =>
    clear HS
    obtain ⟨t, ht, rfl, hS⟩ := hrel
    have HS := Lib.hid hS
    clear hS
    by_cases hlt : t < T
    · have hI : (t : Int) < (T : Int) := by omega
      go_wp2_with fail
      refine (HTK.out wa g sb fb qb vf vr t _ HP.out HS.out HR.out (by omega)).mono ?_; rintro e w2 ⟨rfl, hS2⟩
      have HS2 := Lib.hid hS2
      clear hS2
      go_wp2_with fail
      go_roundw
      case rel => exact ⟨t + 1, by omega, by go_num, HS2.out⟩
      case measure => simp [intOf]; omega
    · obtain rfl : t = T := by omega
      go_wp2_with fail
      go_ret
      exact ⟨g, sb, fb, qb, vf, vr, rfl, RP.low HW.out.size HP.out, RunS.low HW.out HS.out⟩
/-- As many ticks as all messages need. -/
def needT (x : Sr) (l : List Ms) : Nat := if l.length = 0 then 0 else lastT l + 2 * x.n.toNat * (l.length + 1)
set_option maxHeartbeats 1000000 in
theorem slTicks_any (x : Sr) (l : List Ms) (A : Option Addr) (c : Nat) (w : World) (hin : 2 ≤ x.n ∧ x.n ≤ 12) (hall : ∀ y ∈ l, MsIn x.n y) (hl20 : l.length ≤ 20) (hr : RMsS w w.heap.size (.slice A l.length c) l) :
    Calls Try.prog 41 #[SrV x, .slice A l.length c] w (RetV w (.int .i64 (needT x l : Nat))) := by
  obtain ⟨_, _, _, hc⟩ := hr.parts
  obtain ⟨k, hh⟩ := x
  simp only [SrV] at hin hall ⊢
  have hW : Below w.heap.size w (w.alloc (.cells #[.int .i64 k, .bool hh] 25)) := (Below.refl _ _).alloc (Nat.le_refl _) _
  have hB := BK.made w 25 #[.int .i64 k, .bool hh]
  by_cases hl0 : l.length = 0
  · have e : needT ⟨k, hh⟩ l = 0 := by simp [needT, hl0]
    rw [e]
    obtain rfl := List.eq_nil_of_length_eq_zero hl0
    clear hc e hr
    go_enter Try.func41, Try.ntmps41
    go_wp2_with fail
    go_ret
    exact ⟨rfl, hW⟩
  · obtain ⟨m, hm⟩ : ∃ m, l.length = m + 1 := ⟨l.length - 1, by omega⟩
    obtain ⟨b, off, hA, hbB, hcell⟩ := hc (by omega)
    have hmt : 0 ≤ l[m]!.t ∧ l[m]!.t ≤ 100 := by
      rw [getElem!_pos l m (by omega)]
      have := hall _ (List.getElem_mem (l := l) (n := m) (by omega))
      exact ⟨this.1, this.2.1⟩
    have hpv : lastT l = l[m]!.t.toNat := by unfold lastT; rw [hm]; rfl
    have hE : Hid ((needT ⟨k, hh⟩ l : Nat) = l[m]!.t + 2 * k * ((l.length : Int) + 1)) := by
      show _ = _
      unfold needT
      rw [if_neg hl0, hpv]
      push_cast
      rw [Int.toNat_of_nonneg hmt.1, Int.toNat_of_nonneg (by omega)]
    rw [hE.out]
    have hd0 := (hcell m (by omega)).1
    generalize l[m]!.t = pt at hd0 hmt hpv hE
    clear hcell hc hall hpv hE
    subst hA
    have hll : (1 : Int) ≤ (l.length : Int) ∧ (l.length : Int) ≤ 20 := by omega
    have hpos : (0 : Int) < (l.length : Int) := by omega
    have hmi : (m : Int) < (l.length : Int) := by omega
    have e8 : IntKind.i64.wrap ((l.length : Int) - 1) = (m : Int) := by rw [IntWalk.i64_in _ (by omega)]; omega
    have e1 : IntKind.i64.wrap (2 * k) = 2 * k := IntWalk.i64_in _ (by omega)
    have e7 : IntKind.i64.wrap ((l.length : Int) + 1) = (l.length : Int) + 1 := IntWalk.i64_in _ (by omega)
    have hP := mul_in (a := 2 * k) (b := (l.length : Int) + 1) (A := 24) (B := 21) (by omega) (by omega) (by omega) (by omega)
    have e2 : IntKind.i64.wrap (2 * k * ((l.length : Int) + 1)) = 2 * k * ((l.length : Int) + 1) := IntWalk.i64_in _ (by omega)
    have e3 : IntKind.i64.wrap (pt + 2 * k * ((l.length : Int) + 1)) = pt + 2 * k * ((l.length : Int) + 1) := IntWalk.i64_in _ (by omega)
    have c0 := hB.cell 0
    simp at c0
    have d0 := (hW.cell (p := ⟨b, off + m * 3, none⟩) hbB).trans hd0
    have HM := Lib.hid hm
    clear hm hl0 hd0 hr
    go_enter Try.func41, Try.ntmps41
    go_wp2_with fail
    go_quiet (fail)
    go_wp2_with fail
    go_ret
    exact ⟨rfl, below_drewN hW _⟩
end Go.Proofs.Ytmhcmbgbniaokaa
