/-
  What a station makes of the slot that it gets.
-/
import Derived.Test.YtehmhkbiofndaaaFill2
import Derived.ChangeKeysEq
namespace Go.Proofs.Ytehmhkbiofndaaa
open Go.RowKit Go.Maps
set_option maxRecDepth 100000
set_option linter.unusedVariables false

theorem eq3d (n : Nat) (a b c x y z : Int) (w : World) : (Op.equalIn (n + 2) 78 (.agg #[.int .i64 a, .int .i64 b, .int .i64 c]) (.agg #[.int .i64 x, .int .i64 y, .int .i64 z])).run Try.prog w = .ok (a == x && (b == y && c == z)) w := by
  obtain ⟨i0, hi, hz0, hz1, hz2⟩ := info_parts int_info
  have hc : Try.prog.cellsOf 3 = 1 := by kernel_rfl
  have h := run_equalIn_array (P := Try.prog) (w := w) (n + 1) #[.int .i64 a, .int .i64 b, .int .i64 c] #[.int .i64 x, .int .i64 y, .int .i64 z] Try.underlying78 hi
  have hr : List.range 3 = [0, 1, 2] := rfl
  rw [hr, hc] at h
  rw [h]
  have p0 : ∀ x y z : Int, (part 3 #[.int .i64 x, .int .i64 y, .int .i64 z] 0).run Try.prog w = .ok (.int .i64 x) w := fun x y z => by kernel_rfl
  have p1 : ∀ x y z : Int, (part 3 #[.int .i64 x, .int .i64 y, .int .i64 z] 1).run Try.prog w = .ok (.int .i64 y) w := fun x y z => by kernel_rfl
  have p2 : ∀ x y z : Int, (part 3 #[.int .i64 x, .int .i64 y, .int .i64 z] 2).run Try.prog w = .ok (.int .i64 z) w := fun x y z => by kernel_rfl
  have e : ∀ x y : Int, (Op.equalIn (n + 1) 3 (.int .i64 x) (.int .i64 y)).run Try.prog w = .ok (x == y) w := fun x y => by simp [Op.equalIn, run_underlying Try.underlying3]
  simp only [Op.eqItems, Nat.mul_one, Sem.run_bind, p0, e, Result.andThen_ok]
  cases a == x
  · simp
  · simp only [Bool.not_true, Bool.false_eq_true, if_false, Sem.run_bind, p1, e, Result.andThen_ok]
    cases b == y
    · simp
    · simp only [Bool.not_true, Bool.false_eq_true, if_false, Sem.run_bind, p2, e, Result.andThen_ok]
      cases c == z <;> simp
theorem slotV_is (l : List Ms) (c : Nat) : ∃ a f o, slotV l c = slV a f o := by
  unfold slotV
  split
  · exact ⟨0, 0, 0, rfl⟩
  · exact ⟨_, _, _, rfl⟩
theorem FillPost.out {l : List Ms} {F : Nat → Int} {t mb : Nat} {w w' : World} {R : Option Nat} {e : Ending} (h : FillPost l F t mb w R e w') (hmb : mb < w.heap.size) :
    ∃ a f o, e = .returned (slV a f o) ∧ Wr mb (mb + 1) w w' ∧ ∀ (w0 w'' : World), Below w0.heap.size w0 w → Below w0.heap.size w' w'' → mb < w0.heap.size → FillPost l F t mb w0 R (.returned (slV a f o)) w'' := by
  cases R with
  | none =>
    obtain ⟨he, hb⟩ := h
    obtain ⟨a, f, o, hs⟩ := slotV_is l 0
    rw [hs] at he
    refine ⟨a, f, o, he, Wr.of_below hb _ _, fun w0 w'' h1 h2 h3 => ⟨by rw [hs], h1.trans ((hb.mono h1.size).trans h2)⟩⟩
  | some i =>
    obtain ⟨he, hm, hg⟩ := h
    obtain ⟨a, f, o, hs⟩ := slotV_is l (i + 1)
    rw [hs] at he
    refine ⟨a, f, o, he, hg, fun w0 w'' h1 h2 h3 => ⟨by rw [hs], ?_, ?_⟩⟩
    · have hlt := hm.lt
      obtain ⟨D, hown, hmi⟩ := hm
      obtain ⟨es, clock, hb, rest⟩ := hown
      exact ⟨D, ⟨es, clock, (h2.block mb h3).trans hb, rest⟩, hmi⟩
    · refine ⟨(h2.os.trans hg.os).trans h1.os, (h2.tape.trans hg.tape).trans h1.tape, (h2.output.trans hg.output).trans h1.output, Nat.le_trans h1.size (Nat.le_trans hg.size h2.size), fun k hk hn => ?_⟩
      rw [h2.block k hk, hg.block k (Nat.lt_of_lt_of_le hk h1.size) hn, h1.block k hk]
/-- What a station's passing on leaves. -/
def PassPost (x : Sw) (l : List Ms) (F : Nat → Int) (t mb s c : Nat) (w : World) (e : Ending) (w' : World) : Prop :=
  match x.fills F s t c with
  | none => e = .returned (slotV l (x.newc F s t c)) ∧ Below w.heap.size w w'
  | some i => e = .returned (slotV l (x.newc F s t c)) ∧ MapAt w' mb l (updF F i t) ∧ Wr mb (mb + 1) w w'
theorem PassPost.of_fill {x : Sw} {l : List Ms} {F : Nat → Int} {t mb s c : Nat} {w w' : World} {e : Ending} (h : FillPost l F t mb w (x.next F s t) e w') (hc : c = 0 ∨ (x.frees s c = true ∧ x.home = false)) : PassPost x l F t mb s c w e w' := by
  have e1 : x.fills F s t c = x.next F s t := by
    unfold Sw.fills
    rcases hc with rfl | ⟨h1, h2⟩
    · simp
    · rw [h1, h2]; simp
  unfold PassPost Sw.newc
  rw [e1]
  cases hn : x.next F s t with
  | none =>
    rw [hn] at h
    refine ⟨?_, h.2⟩
    rw [h.1]
    rcases hc with rfl | ⟨h1, h2⟩
    · simp
    · simp [h1]
  | some i =>
    rw [hn] at h
    exact h
theorem PassPost.of_keep {x : Sw} {l : List Ms} {F : Nat → Int} {t mb s c : Nat} {w w' : World} (hc : c ≠ 0) (hf : x.frees s c = false) (hb : Below w.heap.size w w') : PassPost x l F t mb s c w (.returned (slotV l c)) w' := by
  have e1 : x.fills F s t c = none := by unfold Sw.fills; rw [if_neg hc, hf]; rfl
  unfold PassPost Sw.newc
  rw [e1]
  refine ⟨?_, hb⟩
  simp [hc, hf]
theorem PassPost.of_free {x : Sw} {l : List Ms} {F : Nat → Int} {t mb s c : Nat} {w w' : World} (hc : c ≠ 0) (hf : x.frees s c = true) (hh : x.home = true) (hb : Below w.heap.size w w') : PassPost x l F t mb s c w (.returned (slotV l 0)) w' := by
  have e1 : x.fills F s t c = none := by unfold Sw.fills; rw [if_neg hc, hf, hh]; rfl
  unfold PassPost Sw.newc
  rw [e1]
  refine ⟨?_, hb⟩
  simp [hc, hf]
theorem BelowThree {B : Nat} {w : World} {g : Nat} (hg : B ≤ g) (a b c : Value) : Below B w (((w.setCell ⟨g, 0, none⟩ a).setCell ⟨g, 1, none⟩ b).setCell ⟨g, 2, none⟩ c) :=
  (((Below.refl B w).setCell (p := ⟨g, 0, none⟩) hg a).setCell (p := ⟨g, 1, none⟩) hg b).setCell (p := ⟨g, 2, none⟩) hg c
/-- Whether a slot is freed, in ints. -/
theorem frees_is {x : Sr} {l : List Ms} {c s : Nat} (hall : ∀ y ∈ l, MsIn x.n y) (hc : c ≠ 0) (hcl : c ≤ l.length) : (swOf x l).frees s c = if x.h then decide (l[c - 1]!.f = (s : Int)) else decide (l[c - 1]!.o = (s : Int)) := by
  obtain ⟨_, _, h1, _, h2, _⟩ := msAt hall (c - 1) (by omega)
  unfold Sw.frees swOf
  simp only
  split
  · rw [decide_eq_decide]; omega
  · rw [decide_eq_decide]; omega

set_option maxHeartbeats 2000000 in
theorem passedOn_any (x : Sr) (l : List Ms) (g mb B cc : Nat) (A : Option Addr) (F : Nat → Int) (t s c : Nat) (w : World) (hin : 2 ≤ x.n ∧ x.n ≤ 12) (hall : ∀ y ∈ l, MsIn x.n y) (hl20 : l.length ≤ 20)
    (hB : BK w g 73 #[.int .i64 x.n, .bool x.h, .slice A l.length cc, .int .i64 t, .map (some mb)]) (hr : RMsS w B (.slice A l.length cc) l) (hBm : B ≤ mb) (hBw : B ≤ w.heap.size)
    (hm : MapAt w mb l F) (ht : t ≤ 1000) (hs : s ≤ 12) (hc : c ≤ l.length) (hgm : g ≠ mb) :
    Calls Try.prog 46 #[.pointer (some ⟨g, 0, none⟩), .int .i64 s, slotV l c] w (PassPost (swOf x l) l F t mb s c w) := by
  have HFI := Lib.hid (fun w2 h1 h2 h3 h4 => fill_any x l g mb B cc A F t s w2 hin hall hl20 h1 h2 hBm h3 h4 ht hs)
  have HOF := Lib.hid (fun w' e h => PassPost.of_fill (x := swOf x l) (l := l) (F := F) (t := t) (mb := mb) (s := s) (c := c) (w := w) (w' := w') (e := e) h)
  have HOK := Lib.hid (fun w' => PassPost.of_keep (x := swOf x l) (l := l) (F := F) (t := t) (mb := mb) (s := s) (c := c) (w := w) (w' := w'))
  have HOZ := Lib.hid (fun w' => PassPost.of_free (x := swOf x l) (l := l) (F := F) (t := t) (mb := mb) (s := s) (c := c) (w := w) (w' := w'))
  have HFR : Hid (c ≠ 0 → (swOf x l).frees s c = if x.h then decide (l[c - 1]!.f = (s : Int)) else decide (l[c - 1]!.o = (s : Int))) := fun h => frees_is hall h hc
  have HHM : Hid ((swOf x l).home = x.h) := rfl
  have HFA := Lib.hid (fun a f o w => frees_any x s a f o w)
  have hgl := hB.1
  have hmb := hm.lt
  obtain ⟨a, f, o, hv⟩ := slotV_is l c
  have hvc : c ≠ 0 → f = l[c - 1]!.f ∧ o = l[c - 1]!.o ∧ a = (c : Int) := by
    intro h0
    unfold slotV at hv
    rw [if_neg h0] at hv
    have e1 : (c : Int) = a ∧ l[c - 1]!.f = f ∧ l[c - 1]!.o = o := by
      unfold slV at hv
      injection hv with hv
      injection hv with hv
      injection hv with h1 hv
      injection hv with h2 hv
      injection hv with h3 hv
      injection h1 with _ h1
      injection h2 with _ h2
      injection h3 with _ h3
      exact ⟨h1, h2, h3⟩
    exact ⟨e1.2.1.symm, e1.2.2.symm, e1.1.symm⟩
  have hv0 : c = 0 → a = 0 ∧ f = 0 ∧ o = 0 := by
    intro h0
    unfold slotV at hv
    rw [if_pos h0] at hv
    simp [slV] at hv
    exact ⟨hv.1.symm, hv.2.1.symm, hv.2.2.symm⟩
  have HV := Lib.hid hv
  rw [hv]
  obtain ⟨R, hR⟩ : ∃ R, R = PassPost (swOf x l) l F t mb s c w := ⟨_, rfl⟩
  rw [← hR] at HOF HOK HOZ ⊢
  clear hR hv
  obtain ⟨fr, hfr⟩ : ∃ fr, fr = (swOf x l).frees s c := ⟨_, rfl⟩
  obtain ⟨hm', hhm⟩ : ∃ hm', hm' = (swOf x l).home := ⟨_, rfl⟩
  rw [← hfr] at HOF HOK HOZ HFR
  rw [← hhm] at HOF HOZ HHM
  obtain ⟨nx, hnx⟩ : ∃ nx, nx = (swOf x l).next F s t := ⟨_, rfl⟩
  rw [← hnx] at HFI HOF
  clear hfr hhm hnx
  obtain ⟨k, hh⟩ := x
  simp only [SrV, slV] at hB hin hall HFI HFR HHM HFA ⊢
  have hB1 := (hB.alloc (.cells #[.int .i64 a, .int .i64 f, .int .i64 o] 78)).alloc (.cells #[.int .i64 0, .int .i64 0, .int .i64 0] 78)
  have hG1 := (BK.made w 78 #[.int .i64 a, .int .i64 f, .int .i64 o]).alloc (.cells #[.int .i64 0, .int .i64 0, .int .i64 0] 78)
  have hR1 := BK.made (w.alloc (.cells #[.int .i64 a, .int .i64 f, .int .i64 o] 78)) 78 #[.int .i64 0, .int .i64 0, .int .i64 0]
  have hW : Below w.heap.size w ((w.alloc (.cells #[.int .i64 a, .int .i64 f, .int .i64 o] 78)).alloc (.cells #[.int .i64 0, .int .i64 0, .int .i64 0] 78)) := ((Below.refl _ _).alloc (Nat.le_refl _) _).alloc (by simp) _
  go_enter Try.func46, Try.ntmps46
  go_upto_region 1 with fail
  obtain ⟨w1, hw1⟩ : ∃ w1, w1 = (w.alloc (.cells #[.int .i64 a, .int .i64 f, .int .i64 o] 78)).alloc (.cells #[.int .i64 0, .int .i64 0, .int .i64 0] 78) := ⟨_, rfl⟩
  rw [← hw1] at hB1 hG1 hR1 hW ⊢
  have hz1 : w1.heap.size = w.heap.size + 2 := by rw [hw1]; simp
  have hR2 : BK w1 (w.heap.size + 1) 78 #[.int .i64 0, .int .i64 0, .int .i64 0] := by simpa using hR1
  clear hw1 hR1
  have g0 := hG1.cell 0
  have g1 := hG1.cell 1
  have g2 := hG1.cell 2
  have b0 := hB1.cell 0
  have b1 := hB1.cell 1
  simp only [List.getElem?_toArray, List.getElem?_cons_zero, List.getElem?_cons_succ] at g0 g1 g2 b0 b1
  have HB1 := Lib.hid hB1
  have HG1 := Lib.hid hG1
  have HR2 := Lib.hid hR2
  have HWB := Lib.hid hW
  have HM1 := Lib.hid (hm.step hW)
  have HRM := Lib.hid ((hr.below (hW.mono hBw)))
  clear hB1 hG1 hR2 hW hm hr hB
  have HFI1 := Lib.hid (HFI.out w1 HB1.out HRM.out (by omega) HM1.out)
  have HRES : Hid (∀ wq e w3, Below w.heap.size w wq → BK wq (w.heap.size + 1) 78 #[.int .i64 0, .int .i64 0, .int .i64 0] → FillPost l F t mb wq nx e w3 → (c = 0 ∨ (fr = true ∧ hm' = false)) → ∃ a' f' o', e = .returned (.agg #[.int .i64 a', .int .i64 f', .int .i64 o']) ∧ BK w3 (w.heap.size + 1) 78 #[.int .i64 0, .int .i64 0, .int .i64 0] ∧ R (.returned (.agg #[.int .i64 a', .int .i64 f', .int .i64 o'])) (((w3.setCell ⟨w.heap.size + 1, 0, none⟩ (.int .i64 a')).setCell ⟨w.heap.size + 1, 1, none⟩ (.int .i64 f')).setCell ⟨w.heap.size + 1, 2, none⟩ (.int .i64 o'))) := by
    intro wq e w3 hq hbq hp hcc
    obtain ⟨a', f', o', h1, h2, h3⟩ := hp.out (Nat.lt_of_lt_of_le hmb hq.size)
    refine ⟨a', f', o', h1, hbq.far h2 (by omega), HOF.out _ _ (h3 w _ hq (BelowThree (by omega) _ _ _) hmb) hcc⟩
  by_cases h0 : c = 0
  · obtain ⟨rfl, rfl, rfl⟩ := hv0 h0
    have H0 : Hid (c = 0) := h0
    have heq : (Op.equalIn 10000 78 (.agg #[.int .i64 0, .int .i64 0, .int .i64 0]) (.agg #[.int .i64 0, .int .i64 0, .int .i64 0])).run Try.prog w1 = .ok true w1 := eq3d 9998 0 0 0 0 0 0 w1
    clear hvc hv0 h0
    go_wp2_with fail
    refine HFI1.out.mono ?_; intro e w3 hp
    obtain ⟨a', f', o', rfl, hbk, hres⟩ := HRES.out _ e w3 HWB.out HR2.out hp (.inl H0.out)
    have r0 := hbk.cell 0
    have r1 := hbk.cell 1
    have r2 := hbk.cell 2
    have v0 := hbk.free 0
    have v1 := hbk.free 1
    have v2 := hbk.free 2
    have h3 := hbk.three (.int .i64 a') (.int .i64 f') (.int .i64 o')
    have z0 := h3.cell 0
    have z1 := h3.cell 1
    have z2 := h3.cell 2
    simp only [List.getElem?_toArray, List.getElem?_cons_zero, List.getElem?_cons_succ] at z0 z1 z2 r0 r1 r2
    have HRS := Lib.hid hres
    clear hres hbk h3 hp
    go_wp2_with fail
    exact bodyPost_ret (v := .agg #[.int .i64 a', .int .i64 f', .int .i64 o']) (by simp [results, Try.results46, go_sem, z0, z1, z2]) rfl HRS.out
  · obtain ⟨hf, ho, ha⟩ := hvc h0
    have heq : (Op.equalIn 10000 78 (.agg #[.int .i64 a, .int .i64 f, .int .i64 o]) (.agg #[.int .i64 0, .int .i64 0, .int .i64 0])).run Try.prog w1 = .ok false w1 := by
      have h := eq3d 9998 a f o 0 0 0 w1
      have h9 : (a == (0 : Int)) = false := by
        rw [beq_eq_false_iff_ne]
        omega
      rw [h9, Bool.false_and] at h
      exact h
    have H0 : Hid (c ≠ 0) := h0
    have hfr' := HFR.out h0
    rw [← hf, ← ho] at hfr'
    have HFR' := Lib.hid hfr'
    have HK : Hid (slotV l c = .agg #[.int .i64 a, .int .i64 f, .int .i64 o]) := HV.out
    clear hvc hv0 h0 hf ho ha hfr'
    have lz0 : w.heap.size < w1.heap.size := by omega
    have lg0 : g < w1.heap.size := by omega
    have a0 : ∀ s : HW w1, s.W.cell? ⟨g, 0, none⟩ = some (.int .i64 k) := fun s => HW.cellIs (p := ⟨g, 0, none⟩) b0 lg0 s
    have a1 : ∀ s : HW w1, s.W.cell? ⟨g, 1, none⟩ = some (.bool hh) := fun s => HW.cellIs (p := ⟨g, 1, none⟩) b1 lg0 s
    have a2 : ∀ s : HW w1, s.W.cell? ⟨w.heap.size, 0, none⟩ = some (.int .i64 a) := fun s => HW.cellIs (p := ⟨w.heap.size, 0, none⟩) g0 lz0 s
    have a3 : ∀ s : HW w1, s.W.cell? ⟨w.heap.size, 1, none⟩ = some (.int .i64 f) := fun s => HW.cellIs (p := ⟨w.heap.size, 1, none⟩) g1 lz0 s
    have a4 : ∀ s : HW w1, s.W.cell? ⟨w.heap.size, 2, none⟩ = some (.int .i64 o) := fun s => HW.cellIs (p := ⟨w.heap.size, 2, none⟩) g2 lz0 s
    have HFA' := Lib.hid (fun w => HFA.out a f o w)
    obtain ⟨fb, hfb⟩ : ∃ fb, fb = (if hh = true then decide (f = (s : Int)) else decide (o = (s : Int))) := ⟨_, rfl⟩
    rw [← hfb] at HFA' HFR'
    clear hfb
    go_upto_region 3 with fail
    refine wp_region_held_lit (by kernel_rfl) (by kernel_rfl) ?_
    repeat (go_big_quiet_step ((first | (go_at_call 56; with_reducible exact held_call _ (HFA'.out _)))))
    refine wpQuiet_nil ?_
    intro _ hw'
    obtain ⟨s5, hw''⟩ := hw'
    subst hw''
    have hbk := HR2.out.step s5.bel
    have HT5 := Lib.hid (HWB.out.trans (s5.bel.mono HWB.out.size))
    have q0 := a0 s5
    have q1 := a1 s5
    have q2 := a2 s5
    have q3 := a3 s5
    have q4 := a4 s5
    have HBG5 := Lib.hid (HB1.out.step s5.bel)
    have HM5 := Lib.hid (HM1.out.step s5.bel)
    have HRM5 := Lib.hid (HRM.out.below (s5.bel.mono (show B ≤ w1.heap.size by omega)))
    have HFI5 := Lib.hid (HFI.out s5.W HBG5.out HRM5.out (Nat.le_trans hBw HT5.out.size) HM5.out)
    have HBK5 := Lib.hid hbk
    generalize s5.W = w5 at *
    clear a0 a1 a2 a3 a4
    cases fb
    · have HRS := Lib.hid (HOK.out (((w5.setCell ⟨w.heap.size + 1, 0, none⟩ (.int .i64 a)).setCell ⟨w.heap.size + 1, 1, none⟩ (.int .i64 f)).setCell ⟨w.heap.size + 1, 2, none⟩ (.int .i64 o)) H0.out HFR'.out (HT5.out.trans (BelowThree (by omega) _ _ _)))
      rw [HK.out] at HRS
      have r0 := hbk.cell 0
      have r1 := hbk.cell 1
      have r2 := hbk.cell 2
      have v0 := hbk.free 0
      have v1 := hbk.free 1
      have v2 := hbk.free 2
      have h3 := hbk.three (.int .i64 a) (.int .i64 f) (.int .i64 o)
      have z0 := h3.cell 0
      have z1 := h3.cell 1
      have z2 := h3.cell 2
      simp only [List.getElem?_toArray, List.getElem?_cons_zero, List.getElem?_cons_succ] at z0 z1 z2 r0 r1 r2
      clear hbk h3
      go_wp2_with fail
      exact bodyPost_ret (v := .agg #[.int .i64 a, .int .i64 f, .int .i64 o]) (by simp [results, Try.results46, go_sem, z0, z1, z2]) rfl HRS.out

    · cases hh
      · go_wp2_with fail
        refine HFI5.out.mono ?_; intro e w3 hp
        obtain ⟨a', f', o', rfl, hbk, hres⟩ := HRES.out _ e w3 HT5.out HBK5.out hp (.inr ⟨HFR'.out, HHM.out⟩)
        have HRS := Lib.hid hres
        have r0 := hbk.cell 0
        have r1 := hbk.cell 1
        have r2 := hbk.cell 2
        have v0 := hbk.free 0
        have v1 := hbk.free 1
        have v2 := hbk.free 2
        have h3 := hbk.three (.int .i64 a') (.int .i64 f') (.int .i64 o')
        have z0 := h3.cell 0
        have z1 := h3.cell 1
        have z2 := h3.cell 2
        simp only [List.getElem?_toArray, List.getElem?_cons_zero, List.getElem?_cons_succ] at z0 z1 z2 r0 r1 r2
        clear hres hbk h3 hp
        go_wp2_with fail
        exact bodyPost_ret (v := .agg #[.int .i64 a', .int .i64 f', .int .i64 o']) (by simp [results, Try.results46, go_sem, z0, z1, z2]) rfl HRS.out

      · have HRS := Lib.hid (HOZ.out (((w5.setCell ⟨w.heap.size + 1, 0, none⟩ (.int .i64 0)).setCell ⟨w.heap.size + 1, 1, none⟩ (.int .i64 0)).setCell ⟨w.heap.size + 1, 2, none⟩ (.int .i64 0)) H0.out HFR'.out HHM.out (HT5.out.trans (BelowThree (by omega) _ _ _)))
        have HZ : Hid (slotV l 0 = .agg #[.int .i64 0, .int .i64 0, .int .i64 0]) := rfl
        rw [HZ.out] at HRS
        have r0 := hbk.cell 0
        have r1 := hbk.cell 1
        have r2 := hbk.cell 2
        have v0 := hbk.free 0
        have v1 := hbk.free 1
        have v2 := hbk.free 2
        have h3 := hbk.three (.int .i64 0) (.int .i64 0) (.int .i64 0)
        have z0 := h3.cell 0
        have z1 := h3.cell 1
        have z2 := h3.cell 2
        simp only [List.getElem?_toArray, List.getElem?_cons_zero, List.getElem?_cons_succ] at z0 z1 z2 r0 r1 r2
        clear hbk h3
        go_wp2_with fail
        exact bodyPost_ret (v := .agg #[.int .i64 0, .int .i64 0, .int .i64 0]) (by simp [results, Try.results46, go_sem, z0, z1, z2]) rfl HRS.out
end Go.Proofs.Ytehmhkbiofndaaa
