/-
  The model's numerals.
-/
import Derived.Test.YtfncajdhdcpooaaDoorRowE
import Derived.Test.YtfncajdhdcpooaaDoorBk
import Derived.Lib.ItoaNum
import Derived.Lib.ItoaLen
import Derived.Laws.IdiomStrings
import Derived.Deep.RegionWith
import Derived.Deep.DeepCutAuto
namespace Go.Proofs.YtfncajdhdcpooaaDoor
open Go.RowKit Go.Conc
set_option maxRecDepth 100000
set_option linter.unusedVariables false

/-- The bytes of a number. -/
def nB (n : Nat) : List UInt8 := Lib.decDigits n
theorem nB_one {n : Nat} (h : n < 10) : nB n = [UInt8.ofNat (48 + n)] := Lib.decDigits_one h
theorem nB_more {n : Nat} (h : ¬ n < 10) : nB n = nB (n / 10) ++ [UInt8.ofNat (48 + n % 10)] := by
  unfold nB
  rw [Lib.decDigits, dif_neg h]
/-- What the region knows. -/
structure NW (w : World) (val : Nat → Value) (c : Int) (D : Nat → Bool) (V : Nat → Value) (w' : World) : Prop where
  bel : Below w.heap.size w w'
  vals : ∀ i, D i = true → i ≠ 7 → V i = val i
  blk : D 7 = true → ∃ b, V 7 = .slice (some ⟨b, 0, none⟩) 1 1 ∧ BK w' b 5 #[.int .u8 c]
theorem NW.pure {w w' : World} {val : Nat → Value} {c : Int} {D D' : Nat → Bool} {V : Nat → Value} {i : Nat} {v : Value} (h : NW w val c D V w') (hD' : ∀ j, D' j = if j = i then true else D j) (hi : i ≠ 7) (hv : v = val i) : NW w val c D' (fun j => if j = i then v else V j) w' := by
  refine ⟨h.bel, fun j hj h7 => ?_, fun h7 => ?_⟩
  · by_cases e : j = i
    · simp only [e, if_true]; exact hv
    · simp only [e, if_false]
      rw [hD', if_neg e] at hj
      exact h.vals j hj h7
  · rw [hD', if_neg (by omega)] at h7
    simp only [show ¬ (7 = i) from by omega, if_false]
    exact h.blk h7
theorem NW.step {w w' w'' : World} {val : Nat → Value} {c : Int} {D : Nat → Bool} {V : Nat → Value} (h : NW w val c D V w') (hb : Below w'.heap.size w' w'') : NW w val c D V w'' :=
  ⟨h.bel.trans (hb.mono h.bel.size), h.vals, fun h7 => by obtain ⟨b, h1, h2⟩ := h.blk h7; exact ⟨b, h1, h2.step hb⟩⟩
theorem NW.made {w w' : World} {val : Nat → Value} {c : Int} {D D' : Nat → Bool} {V : Nat → Value} (h : NW w val c D V w') (hD' : ∀ j, D' j = if j = 7 then true else D j) :
    NW w val c D' (fun j => if j = 7 then .slice (some ⟨w'.heap.size, 0, none⟩) 1 1 else V j) (w'.alloc (.cells #[.int .u8 c] 5)) := by
  refine ⟨h.bel.alloc h.bel.size _, fun j hj h7 => ?_, fun h7 => ⟨w'.heap.size, by simp, BK.made w' 5 #[.int .u8 c]⟩⟩
  rw [hD', if_neg h7] at hj
  simp only [h7, if_false]
  exact h.vals j hj h7
theorem one_back {w : World} {b : Nat} {d : Nat} (hd : d < 256) (h : BK w b 5 #[.int .u8 (d : Int)]) : (convert 22 9 (.slice (some ⟨b, 0, none⟩) 1 1)).run Tryd.prog w = .ok (.string ⟨[UInt8.ofNat d].toArray⟩) w := by
  have h1 := run_convert_bytes_back (P := Tryd.prog) w 22 9 5 ⟨b, 0, none⟩ 1 [UInt8.ofNat d] Tryd.underlying22 Tryd.underlying5 Tryd.underlying9 (fun j hj => by
    obtain rfl : j = 0 := by simpa using hj
    have h2 := h.cell 0
    simp only [List.getElem?_toArray, List.getElem?_cons_zero] at h2
    have e : ((UInt8.ofNat d).toNat : Int) = (d : Int) := by simp; omega
    simp only [List.getElem_cons_zero, e]
    exact h2)
  exact h1
theorem l1Num_any (k : Nat) : ∀ (n : Nat) (w : World), n < k → n ≤ 1000000 → Calls Tryd.prog 38 #[.int .i64 (n : Int)] w (RetV w (.string ⟨(nB n).toArray⟩)) := by
  induction k with
  | zero => intro n w h; omega
  | succ k ih =>
    intro n w hk hn
    rcases Nat.lt_or_ge n 10 with hlt | hlt
    · have hI : (n : Int) < 10 := by omega
      have e1 : IntKind.i64.wrap (48 + (n : Int)) = 48 + (n : Int) := IntWalk.i64_in _ (by omega)
      have e2 : IntKind.u8.wrap (48 + (n : Int)) = 48 + (n : Int) := by unfold IntKind.wrap; simp [IntKind.bits, IntKind.signed]; omega
      have hb := BK.made w 5 #[.int .u8 (48 + (n : Int))]
      have hcv := one_back (w := w.alloc (.cells #[.int .u8 (48 + (n : Int))] 5)) (b := w.heap.size) (d := 48 + n) (by omega) (by rw [show ((48 + n : Nat) : Int) = 48 + (n : Int) from by omega]; exact hb)
      rw [nB_one hlt]
      obtain ⟨d, hd⟩ : ∃ d, d = UInt8.ofNat (48 + n) := ⟨_, rfl⟩
      rw [← hd] at hcv ⊢
      clear hd
      go_enter Tryd.func38, Tryd.ntmps38
      go_wp2_with fail
      go_ret
      exact ⟨rfl, (Below.refl _ _).alloc (Nat.le_refl _) _⟩
    · have hI : ¬ (n : Int) < 10 := by omega
      have e1 : IntKind.i64.wrap (48 + (n : Int) % 10) = 48 + (n : Int) % 10 := IntWalk.i64_in _ (by omega)
      have e2 : IntKind.u8.wrap (48 + (n : Int) % 10) = 48 + (n : Int) % 10 := by unfold IntKind.wrap; simp [IntKind.bits, IntKind.signed]; omega
      have e3 : IntKind.i64.wrap ((n : Int) / 10) = (n : Int) / 10 := IntWalk.i64_in _ (by omega)
      have e4 : IntKind.i64.wrap ((n : Int) % 10) = (n : Int) % 10 := IntWalk.i64_in _ (by omega)
      have e5 : (n : Int).tdiv 10 = (n : Int) / 10 := Int.tdiv_eq_ediv_of_nonneg (by omega)
      have e6 : (n : Int).tmod 10 = (n : Int) % 10 := Int.tmod_eq_emod_of_nonneg (by omega)
      have HIH := Lib.hid (fun w => ih (n / 10) w (by omega) (by omega))
      rw [show ((n / 10 : Nat) : Int) = (n : Int) / 10 from by omega] at HIH
      have HCV := Lib.hid (fun (w' : World) (b : Nat) (h : BK w' b 5 #[.int .u8 (48 + (n : Int) % 10)]) => one_back (w := w') (b := b) (d := 48 + n % 10) (by omega) (by rw [show ((48 + n % 10 : Nat) : Int) = 48 + (n : Int) % 10 from by omega]; exact h))
      rw [nB_more (by omega)]
      have hsl : (nB (n / 10)).length ≤ 9223372036854775806 := by
        have h1 := Lib.nDigits_le20 (n / 10) (by omega)
        unfold nB
        rw [Lib.decDigits_length]
        omega
      obtain ⟨S, hS⟩ : ∃ S, S = nB (n / 10) := ⟨_, rfl⟩
      rw [← hS] at HIH hsl ⊢
      obtain ⟨d, hd⟩ : ∃ d, d = UInt8.ofNat (48 + n % 10) := ⟨_, rfl⟩
      rw [← hd] at HCV ⊢
      have happ : (⟨S.toArray⟩ : ByteArray) ++ ⟨[d].toArray⟩ = ⟨(S ++ [d]).toArray⟩ := by
        apply ByteArray.ext
        simp
      clear hS hd ih
      go_enter Tryd.func38, Tryd.ntmps38
      go_upto_region 3 with fail
      refine wp_region_rowE (by kernel_rfl) (by kernel_rfl) 10 10 (some 2) (by kernel_rfl) (by decide) (by simp) (fun d hd => by injection hd; omega)
        (fun D V w' => NW w (fun i => [.int .i64 (n : Int), .int .i64 ((n : Int) / 10), .string ⟨S.toArray⟩, .int .i64 (n : Int), .int .i64 ((n : Int) % 10), .int .i64 (48 + (n : Int) % 10), .int .u8 (48 + (n : Int) % 10), undef, .string ⟨[d].toArray⟩, .string ⟨(S ++ [d]).toArray⟩, .string ⟨(S ++ [d]).toArray⟩].getD i undef) (48 + (n : Int) % 10) D V w') ?_ ?_ ?_
      · exact fun V => ⟨(Below.refl _ _).drew, fun i h => by simp at h, fun h => by simp at h⟩
      · intro D D' V ev w' i hi' hdd hpre hD' hev hec hef hW
        have e0 := hev 0
        simp at e0
        have hi11 : i < 11 := hi'
        match i, hi11 with
        | 0, _ =>
          exact .value _ w' (by simp [go_sem, execOp, e0]; try rfl) (hW.pure hD' (by decide) rfl)
        | 1, _ =>
          have p0 : D 0 = true := hpre ⟨0, .data⟩ (by simp) rfl
          have f0 := hev 10
          simp [p0] at f0
          rw [hW.vals 0 p0 (by decide)] at f0
          simp only [List.getD_cons_zero] at f0
          exact .value _ w' (by simp [go_sem, execOp, f0, hec, e5, e3]; try rfl) (hW.pure hD' (by decide) rfl)
        | 2, _ =>
          have p1 : D 1 = true := hpre ⟨1, .data⟩ (by simp) rfl
          have f1 := hev 11
          simp [p1] at f1
          rw [hW.vals 1 p1 (by decide)] at f1
          simp only [List.getD_cons_zero, List.getD_cons_succ] at f1
          refine .call 38 #[.int .i64 ((n : Int) / 10)] w' ((run_call_any (f := 38) (ρ := ev) (args := #[.tmp 11]) (ats := #[3]) rfl (hef _) Tryd.func38 (by kernel_rfl) rfl).trans (by simp [f1])) ((HIH.out w').mono ?_)
          rintro e w'' ⟨rfl, hb''⟩
          exact ⟨_, rfl, (hW.step hb'').pure hD' (by decide) rfl⟩
        | 3, _ =>
          exact .value _ w' (by simp [go_sem, execOp, e0]; try rfl) (hW.pure hD' (by decide) rfl)
        | 4, _ =>
          have p3 : D 3 = true := hpre ⟨3, .data⟩ (by simp) rfl
          have f3 := hev 13
          simp [p3] at f3
          rw [hW.vals 3 p3 (by decide)] at f3
          simp only [List.getD_cons_zero, List.getD_cons_succ] at f3
          exact .value _ w' (by simp [go_sem, execOp, f3, hec, e6]; try rfl) (hW.pure hD' (by decide) rfl)
        | 5, _ =>
          have p4 : D 4 = true := hpre ⟨4, .data⟩ (by simp) rfl
          have f4 := hev 14
          simp [p4] at f4
          rw [hW.vals 4 p4 (by decide)] at f4
          simp only [List.getD_cons_zero, List.getD_cons_succ] at f4
          exact .value _ w' (by simp [go_sem, execOp, f4, e1, hec]; try rfl) (hW.pure hD' (by decide) rfl)
        | 6, _ =>
          have p5 : D 5 = true := hpre ⟨5, .data⟩ (by simp) rfl
          have f5 := hev 15
          simp [p5] at f5
          rw [hW.vals 5 p5 (by decide)] at f5
          simp only [List.getD_cons_zero, List.getD_cons_succ] at f5
          exact .value _ w' (by simp [go_sem, execOp, f5, e2]; try rfl) (hW.pure hD' (by decide) rfl)
        | 7, _ =>
          have p6 : D 6 = true := hpre ⟨6, .data⟩ (by simp) rfl
          have f6 := hev 16
          simp [p6] at f6
          rw [hW.vals 6 p6 (by decide)] at f6
          simp only [List.getD_cons_zero, List.getD_cons_succ] at f6
          exact .value _ (w'.alloc (.cells #[.int .u8 (48 + (n : Int) % 10)] 5)) (by simp [go_sem, execOp, f6]; try rfl) (hW.made hD')
        | 8, _ =>
          have p7 : D 7 = true := hpre ⟨7, .data⟩ (by simp) rfl
          have f7 := hev 17
          simp [p7] at f7
          obtain ⟨b, hb1, hb2⟩ := hW.blk p7
          rw [hb1] at f7
          have hcv := HCV.out w' b hb2
          exact .value _ w' (by simp [go_sem, execOp, f7, hcv]; try rfl) (hW.pure hD' (by decide) rfl)
        | 9, _ =>
          have p2 : D 2 = true := hpre ⟨2, .data⟩ (by simp) rfl
          have f2 := hev 12
          simp [p2] at f2
          rw [hW.vals 2 p2 (by decide)] at f2
          simp only [List.getD_cons_zero, List.getD_cons_succ] at f2
          have p8 : D 8 = true := hpre ⟨8, .data⟩ (by simp) rfl
          have f8 := hev 18
          simp [p8] at f8
          rw [hW.vals 8 p8 (by decide)] at f8
          simp only [List.getD_cons_zero, List.getD_cons_succ] at f8
          exact .value _ w' (by simp [go_sem, execOp, f2, f8, happ, hsl]; try rfl) (hW.pure hD' (by decide) rfl)
        | 10, _ =>
          have p9 : D 9 = true := hpre ⟨9, .data⟩ (by simp) rfl
          have f9 := hev 19
          simp [p9] at f9
          rw [hW.vals 9 p9 (by decide)] at f9
          simp only [List.getD_cons_zero, List.getD_cons_succ] at f9
          exact .value _ w' (by simp [go_sem, execOp, f9]; try rfl) (hW.pure hD' (by decide) rfl)
      · intro D V w' hall hW
        have hv := hW.vals 10 (hall 10 (by decide)) (by decide)
        simp only [List.getD_cons_zero, List.getD_cons_succ] at hv
        have HB := Lib.hid hW.bel
        rw [hv]
        simp only [putAll, Act.put, Nat.reduceAdd, List.setIfInBounds_toArray, List.set_cons_succ, List.set_cons_zero, Exit.then]
        refine ‹∀ (a : Act) (w : World), _ → _› _ _ ?_
        go_wp2_with fail
        go_ret
        exact ⟨rfl, HB.out⟩
end Go.Proofs.YtfncajdhdcpooaaDoor
