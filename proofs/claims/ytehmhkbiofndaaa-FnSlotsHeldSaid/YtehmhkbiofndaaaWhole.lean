/-
  The model behind so many ticks, and behind all messages.
-/
import Derived.Test.YtehmhkbiofndaaaNew
import Derived.Test.YtehmhkbiofndaaaTickS
namespace Go.Proofs.Ytehmhkbiofndaaa
open Go.RowKit Go.Maps
set_option maxRecDepth 100000
set_option linter.unusedVariables false

theorem RunS.low {w wa w1 : World} {x : Sr} {l : List Ms} {A : Option Addr} {c g sb fb qb : Nat} {vf vr : Value} {S : Nat → Nat} {F R : Nat → Int} (hW : Below w.heap.size w wa) (h : RunS wa w1 x l A c g sb fb qb vf vr S F R) : RunS w w1 x l A c g sb fb qb vf vr S F R := ⟨h.run, h.slots, h.filled, h.read, hW.trans (h.bel.mono hW.size)⟩
theorem RP.low {w wa : World} {g sb fb qb : Nat} (hs : w.heap.size ≤ wa.heap.size) (h : RP wa g sb fb qb) : RP w g sb fb qb := ⟨Nat.le_trans hs h.g0, Nat.le_trans hs h.s0, Nat.le_trans hs h.f0, Nat.le_trans hs h.q0, h.gs, h.gf, h.gq, h.sf, h.sq, h.fq⟩
/-- The model's ring behind t ticks. -/
def EndP (w : World) (x : Sr) (l : List Ms) (A : Option Addr) (c t : Nat) (e : Ending) (w' : World) : Prop :=
  ∃ g sb fb qb vf vr, e = .returned (.pointer (some ⟨g, 0, none⟩)) ∧ RP w g sb fb qb ∧ RunS w w' x l A c g sb fb qb vf vr ((swOf x l).S t) ((swOf x l).F t) ((swOf x l).Rd t)
set_option maxHeartbeats 4000000 in
theorem slEnd_any (x : Sr) (l : List Ms) (A : Option Addr) (c T : Nat) (w : World) (hin : 2 ≤ x.n ∧ x.n ≤ 12) (hall : ∀ y ∈ l, MsIn x.n y) (hl20 : l.length ≤ 20) (hlc : l.length ≤ c) (hr : RMsS w w.heap.size (.slice A l.length c) l) (hT : T ≤ 1000) :
    Calls Try.prog 29 #[SrV x, .slice A l.length c, .int .i64 (T : Nat)] w (EndP w x l A c T) := by
  have HNEW := Lib.hid (fun w => slNew_any x l A c w hin hl20 hlc)
  have HTK := Lib.hid (fun w0 g sb fb qb vf vr t w h1 h2 h3 h4 => slTick_any x l w0 A c g sb fb qb vf vr t w hin hall hl20 h1 h2 h3 h4)
  unfold EndP
  obtain ⟨y, hy⟩ : ∃ y, y = swOf x l := ⟨_, rfl⟩
  rw [← hy] at HNEW HTK ⊢
  clear hy hall hin
  obtain ⟨k, hh⟩ := x
  simp only [SrV] at HNEW ⊢
  have hW : Below w.heap.size w (w.alloc (.cells #[.int .i64 k, .bool hh] 25)) := (Below.refl _ _).alloc (Nat.le_refl _) _
  have hc0 : (w.alloc (.cells #[.int .i64 k, .bool hh] 25)).cell? ⟨w.heap.size, 0, none⟩ = some (.int .i64 k) := by simp
  have hc1 : (w.alloc (.cells #[.int .i64 k, .bool hh] 25)).cell? ⟨w.heap.size, 1, none⟩ = some (.bool hh) := by simp
  have HR := Lib.hid ((hr.step hW (Nat.le_refl _)).more hW.size)
  have HW := Lib.hid hW
  clear hr hW
  go_enter Try.func29, Try.ntmps29
  go_upto_region 1 with fail
  generalize w.alloc (.cells #[.int .i64 k, .bool hh] 25) = wa at *
  go_wp2_with fail
  refine (HNEW.out _).mono ?_; rintro e w1 ⟨g, sb, fb, qb, vf, vr, rfl, hp, hS⟩
  have HP := Lib.hid hp
  have HS := Lib.hid hS
  clear hp hS hc0 hc1
  go_wp2_with fail
  go_loopw [8] (fun i wr => ∃ t : Nat, t ≤ T ∧ i = .int .i64 t ∧ RunS wa wr ⟨k, hh⟩ l A c g sb fb qb vf vr (y.S t) (y.F t) (y.Rd t)) (fun i _ => T - (intOf i).toNat)
  case atStart => exact ⟨0, Nat.zero_le _, rfl, HS.out⟩
  case round =>
    clear HS
    obtain ⟨t, ht, rfl, hS⟩ := hrel
    have HS := Lib.hid hS
    clear hS
    by_cases hlt : t < T
    · have hI : (t : Int) < (T : Int) := by omega
      go_wp2_with fail
      refine (HTK.out wa g sb fb qb vf vr t _ HP.out HS.out HR.out (by omega)).mono ?_; rintro e w2 ⟨rfl, hS2⟩
      have HS2 := Lib.hid hS2
      clear hS2
      go_wp2_with fail
      go_roundw
      case rel => exact ⟨t + 1, by omega, by go_num, HS2.out⟩
      case measure => simp [intOf]; omega
    · obtain rfl : t = T := by omega
      go_wp2_with fail
      go_ret
      exact ⟨g, sb, fb, qb, vf, vr, rfl, RP.low HW.out.size HP.out, RunS.low HW.out HS.out⟩
/-- As many ticks as all messages need. -/
def needT (x : Sr) (l : List Ms) : Nat := if l.length = 0 then 0 else lastT l + 2 * x.n.toNat * (l.length + 1)
end Go.Proofs.Ytehmhkbiofndaaa
