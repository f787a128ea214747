/-
  The program's walk: the ticks at which messages fill slots.
-/
import Derived.Test.YtehmhkbiofndaaaFree
import Derived.Test.YtehmhkbiofndaaaMathWm
namespace Go.Proofs.Ytehmhkbiofndaaa
open Go.RowKit Go.Conc Go.Maps
set_option maxRecDepth 100000
set_option linter.unusedVariables false

/-- The tick of the last message. -/
def lastT (l : List Ms) : Nat := (prevM l l.length).toNat
theorem lastT_le {k : Int} {l : List Ms} (h : areMs k l = true) (i : Nat) (hi : i < l.length) : l[i]!.t.toNat ≤ lastT l ∧ lastT l ≤ 100 := by
  obtain ⟨_, hall, hso⟩ := areMs_in h
  obtain ⟨m, hm⟩ : ∃ m, l.length = m + 1 := ⟨l.length - 1, by omega⟩
  have e : lastT l = l[m]!.t.toNat := by unfold lastT; rw [hm]; rfl
  have h1 := msAt hall m (by omega)
  have h2 := msAt hall i hi
  have h3 : l[i]!.t ≤ l[m]!.t := by
    rw [getElem!_pos l i hi, getElem!_pos l m (by omega)]
    by_cases e2 : i = m
    · subst e2; exact Int.le_refl _
    · exact (List.pairwise_iff_getElem.1 hso) i m hi (by omega) (by omega)
  rw [e]
  have := h1.1
  have := h1.2.1
  have := h2.1
  omega
theorem MapAt.congr {w : World} {mb : Nat} {l : List Ms} {F G : Nat → Int} (h : MapAt w mb l F) (he : ∀ i, i < l.length → F i = G i) : MapAt w mb l G := by
  have hc : cntF F l.length = cntF G l.length := by
    have key : ∀ n, n ≤ l.length → cntF F n = cntF G n := by
      intro n
      induction n with
      | zero => intro _; rfl
      | succ n ih => intro hn; rw [cntF, cntF, ih (by omega), he n (by omega)]
    exact key _ (Nat.le_refl _)
  obtain ⟨D, hown, hm⟩ := h
  rw [hc] at hown
  refine ⟨D, hown, ⟨fun i hi => ?_, fun i hi h0 => ?_, ?_⟩⟩
  · rw [hm.has i hi, he i hi]
  · rw [← he i hi] at h0 ⊢; exact hm.at_ i hi h0
  · rw [hm.size, hc]
theorem FW.congr {w0 w : World} {x : Sr} {l : List Ms} {A : Option Addr} {c n rb g mb bl : Nat} {cs : Nat → Nat} {t : Nat} {F G : Nat → Int} {q q' : Nat → List Nat} (h : FW w0 w x l A c n rb g mb bl cs t F q) (he : ∀ i, i < l.length → F i = G i) (hq : ∀ j, j < n → q j = q' j) : FW w0 w x l A c n rb g mb bl cs t G q' :=
  ⟨h.ring, h.walk, h.map.congr he, ⟨h.links.inj, h.links.ne, h.links.cell, fun j hj => by rw [← hq j hj]; exact h.links.ch j hj⟩, h.bel⟩
theorem FW.tick {w0 w : World} {x : Sr} {l : List Ms} {A : Option Addr} {c n rb g mb bl : Nat} {cs : Nat → Nat} {t : Nat} {F : Nat → Int} {q : Nat → List Nat} (h : FW w0 w x l A c n rb g mb bl cs t F q) (hp : FP w0 n rb g mb bl cs) (hrg : rb ≠ g) (hbg : bl ≠ g) : FW w0 (w.setCell ⟨g, 3, none⟩ (.int .i64 ((t + 1 : Nat) : Int))) x l A c n rb g mb bl cs (t + 1) F q := by
  have hw : Wr g (g + 1) w (w.setCell ⟨g, 3, none⟩ (.int .i64 ((t + 1 : Nat) : Int))) := (Wr.refl _ _ _).setCell (p := ⟨g, 3, none⟩) (Nat.le_refl _) (Nat.lt_succ_self _) _
  refine ⟨h.ring.far hw (by omega), ?_, h.map.far hw (by have := hp.gm; omega), h.links.far hw (by omega) (fun j hj => by have := hp.gc j hj; omega), h.bel.trans (hw.below hp.g0 h.bel.size)⟩
  have := h.walk.put 3 (.int .i64 ((t + 1 : Nat) : Int))
  simpa using this
theorem FW.far {w0 w w' : World} {x : Sr} {l : List Ms} {A : Option Addr} {c n rb g mb bl : Nat} {cs : Nat → Nat} {t : Nat} {F : Nat → Int} {q : Nat → List Nat} (h : FW w0 w x l A c n rb g mb bl cs t F q) {tb : Nat} (hw : Wr tb (tb + 1) w w') (h0 : w0.heap.size ≤ tb) (h1 : rb < tb) (h2 : g < tb) (h3 : mb < tb) (h4 : bl < tb) (h5 : ∀ j, j < n → cs j < tb) : FW w0 w' x l A c n rb g mb bl cs t F q :=
  ⟨h.ring.far hw (.inl h1), h.walk.far hw (.inl h2), h.map.far hw (.inl h3), h.links.far hw (.inl h4) (fun j hj => .inl (h5 j hj)), h.bel.trans (hw.below h0 h.bel.size)⟩
/-- A list that is filled from the front. -/
def upTo (F : Nat → Int) (n j : Nat) : List Int := (List.range n).map fun i => if i < j then F i else 0
theorem upTo_len (F : Nat → Int) (n j : Nat) : (upTo F n j).length = n := by simp [upTo]
theorem upTo_set (F : Nat → Int) (n j : Nat) (hj : j < n) : (upTo F n j).set j (F j) = upTo F n (j + 1) := by
  apply List.ext_getElem (by simp [upTo])
  intro i h1 h2
  rw [List.getElem_set]
  simp only [upTo, List.getElem_map, List.getElem_range]
  by_cases e : j = i
  · subst e; simp
  · have e2 : (i < j + 1) ↔ (i < j) := by omega
    simp only [e, if_false, e2]
theorem upTo_zero (F : Nat → Int) (n : Nat) : upTo F n 0 = List.replicate n 0 := by
  apply List.ext_getElem (by simp [upTo])
  intro i h1 h2
  simp [upTo]
theorem upTo_all (F : Nat → Int) (n : Nat) : upTo F n n = (List.range n).map F := by
  apply List.ext_getElem (by simp [upTo])
  intro i h1 h2
  have : i < n := by simpa [upTo] using h1
  simp [upTo, this]
/-- The ticks at which messages fill slots. -/
def finL (x : Sr) (l : List Ms) : List Int := (List.range l.length).map fun i => (swOf x l).fin (lastT l) i
theorem finL_len (x : Sr) (l : List Ms) : (finL x l).length = l.length := by simp [finL]
theorem finL_at (x : Sr) (l : List Ms) (i : Nat) (hi : i < l.length) : (finL x l).getD i 0 = (swOf x l).fin (lastT l) i := by simp [finL, hi]

set_option maxHeartbeats 4000000 in
theorem filledAt_any (v : Value) (x : Sr) (l : List Ms) (w : World) (h : RMsS w w.heap.size v l) (hg : slOk x l = true) :
    Calls Try.prog 26 #[SrV x, v] w (RetL 3 w (finL x l)) := by
  have hin := isSr_in (slOk_in hg).1
  obtain ⟨hl20, hall, _⟩ := areMs_in (slOk_in hg).2
  have hok := swOk hin hall
  have HLT := Lib.hid (fun i hi => lastT_le (slOk_in hg).2 i hi)
  have HLK := Lib.hid (fun w => linksWithFree_any x l w hin)
  have HOK := Lib.hid hok
  have HALL := Lib.hid hall
  have hr := h
  obtain ⟨A, c, rfl, _, hlc, _⟩ := h
  obtain ⟨y, hy⟩ : ∃ y, y = swOf x l := ⟨_, rfl⟩
  have hyn : y.n = x.n.toNat := by rw [hy]; rfl
  have hyl : y.len = l.length := by rw [hy]; rfl
  have HY := Lib.hid hy
  rw [← hy] at HOK
  have HPA := Lib.hid (fun (g mb B : Nat) (F : Nat → Int) (t s cc : Nat) (w : World) h1 h2 h3 h4 h5 h6 h7 h8 h9 => passedOn_any x l g mb B c A F t s cc w hin hall hl20 h1 h2 h3 h4 h5 h6 h7 h8 h9)
  rw [← hy] at HPA
  have HBH := Lib.hid (fun s w hs => slBehind_any x s w hin hs)
  have hl2 : (l.length : Int) ≤ 20 := by omega
  obtain ⟨X, hX⟩ : ∃ X, X = x := ⟨_, rfl⟩
  obtain ⟨k, hh⟩ := x
  simp only [SrV] at HLK HPA HBH hin hyn ⊢
  obtain ⟨n, hN⟩ : ∃ n : Nat, n = k.toNat := ⟨_, rfl⟩
  have hk : k = (n : Int) := by omega
  subst hk
  have hn12 : (n : Int) ≤ 12 ∧ 2 ≤ (n : Int) := by omega
  simp only [Int.toNat_natCast] at hyn HLK HBH
  clear hN hok hall hy
  have hmm := @run_makeMap Try.prog
  have hW0 : Below w.heap.size w (w.alloc (.cells #[.int .i64 (n : Int), .bool hh] 25)) := (Below.refl _ _).alloc (Nat.le_refl _) _
  go_enter Try.func26, Try.ntmps26
  go_upto_region 2 with fail
  have hR1 := (((BK.made w 25 #[.int .i64 (n : Int), .bool hh]).alloc (.map #[] 0)).alloc (.cells #[.int .i64 (n : Int), .bool hh, .slice A l.length c, .int .i64 0, .map (some (w.heap.size + 1))] 73))
  have hG1 := BK.made ((w.alloc (.cells #[.int .i64 (n : Int), .bool hh] 25)).alloc (.map #[] 0)) 73 #[.int .i64 (n : Int), .bool hh, .slice A l.length c, .int .i64 0, .map (some (w.heap.size + 1))]
  have hM1 : MapAt ((w.alloc (.cells #[.int .i64 (n : Int), .bool hh] 25)).alloc (.map #[] 0)) (w.heap.size + 1) l (fun _ => -1) := by
    have h1 := World.ownsMap_made (H := Unit) (w.alloc (.cells #[.int .i64 (n : Int), .bool hh] 25)) Try.prog 78 (plainElem Try.prog 3)
    have e1 : (w.alloc (.cells #[.int .i64 (n : Int), .bool hh] 25)).heap.size = w.heap.size + 1 := by simp
    rw [e1] at h1
    exact ⟨_, h1.mono (Nat.zero_le _), MapIs.new⟩
  have hW1 : Below w.heap.size w (((w.alloc (.cells #[.int .i64 (n : Int), .bool hh] 25)).alloc (.map #[] 0)).alloc (.cells #[.int .i64 (n : Int), .bool hh, .slice A l.length c, .int .i64 0, .map (some (w.heap.size + 1))] 73)) := (hW0.alloc (by simp) _).alloc (by simp; omega) _
  have hM2 := hM1.step ((Below.refl _ _).alloc (Nat.le_refl _) (.cells #[.int .i64 (n : Int), .bool hh, .slice A l.length c, .int .i64 0, .map (some (w.heap.size + 1))] 73))
  have hG2 : BK (((w.alloc (.cells #[.int .i64 (n : Int), .bool hh] 25)).alloc (.map #[] 0)).alloc (.cells #[.int .i64 (n : Int), .bool hh, .slice A l.length c, .int .i64 0, .map (some (w.heap.size + 1))] 73)) (w.heap.size + 2) 73 #[.int .i64 (n : Int), .bool hh, .slice A l.length c, .int .i64 ((0 : Nat) : Int), .map (some (w.heap.size + 1))] := by simpa using hG1
  have hsz1 : (((w.alloc (.cells #[.int .i64 (n : Int), .bool hh] 25)).alloc (.map #[] 0)).alloc (.cells #[.int .i64 (n : Int), .bool hh, .slice A l.length c, .int .i64 0, .map (some (w.heap.size + 1))] 73)).heap.size = w.heap.size + 3 := by simp
  have hg2 : w.heap.size + 1 + 1 = w.heap.size + 2 := rfl
  rw [hg2]
  generalize (((w.alloc (.cells #[.int .i64 (n : Int), .bool hh] 25)).alloc (.map #[] 0)).alloc (.cells #[.int .i64 (n : Int), .bool hh, .slice A l.length c, .int .i64 0, .map (some (w.heap.size + 1))] 73)) = w1 at *
  obtain ⟨rb, hrb⟩ : ∃ rb, rb = w.heap.size := ⟨_, rfl⟩
  obtain ⟨mb, hmb⟩ : ∃ mb, mb = w.heap.size + 1 := ⟨_, rfl⟩
  obtain ⟨g, hg'⟩ : ∃ g, g = w.heap.size + 2 := ⟨_, rfl⟩
  rw [← hmb, ← hg'] at hG2 ⊢
  rw [← hmb] at hM2
  have hR2 : BK w1 rb 25 #[.int .i64 (n : Int), .bool hh] := by rw [hrb]; exact hR1
  have hfr0 := hR2.cell 0
  have hfr1 := hR2.cell 1
  simp only [List.getElem?_toArray, List.getElem?_cons_zero, List.getElem?_cons_succ] at hfr0 hfr1
  rw [hrb] at hfr0 hfr1
  have HMB := Lib.hid hmb
  have HGB := Lib.hid hg'
  have HRB := Lib.hid hrb
  clear hW0 hR1 hG1 hM1 hmm hg2 hmb hg' hrb
  go_wp2_with fail
  refine (HLK.out _).mono ?_; rintro e w2 ⟨bl, cs, rfl, hbl, hcs, hlinks, hb2⟩
  have hS0 : ∀ j, y.q 0 0 j = [0] := fun j => by rw [Sw.q_zero]; rfl
  have HFW : Hid (FW w w2 ⟨n, hh⟩ l A c n rb g mb bl cs 0 (y.F 0) (fun j => y.q 0 0 j)) := by
    refine ⟨hR2.step hb2, hG2.step hb2, hM2.step hb2, ⟨hlinks.inj, hlinks.ne, hlinks.cell, fun j hj => ?_⟩, hW1.trans (hb2.mono hW1.size)⟩
    have := hlinks.ch j hj
    simp only [hS0]
    exact this
  have hmb := HMB.out
  have hg' := HGB.out
  have hrb := HRB.out
  have HFP : Hid (FP w n rb g mb bl cs) := ⟨by omega, by omega, by omega, fun j hj => by have := hcs j hj; omega, by omega, by omega, by omega, by omega, fun j hj => by have := hcs j hj; omega, fun j hj => by have := hcs j hj; omega, fun j hj => by have := hcs j hj; omega⟩
  have hrg : rb ≠ g := by omega
  have hbg : bl ≠ g := by omega
  rw [← hrb] at hfr0 hfr1 ⊢
  have HRM := Lib.hid hr
  clear hR2 hG2 hM2 hlinks hb2 hW1 hcs hbl hS0 hsz1 hmb hg' hfr0 hfr1 hr hrb
  obtain ⟨T0, hT0⟩ : ∃ T0, T0 = lastT l + y.len * (y.n + 1) := ⟨_, rfl⟩
  have hT0b : l.length ≠ 0 → T0 ≤ 500 := by
    intro h0
    have h1 := (HLT.out 0 (by omega)).2
    have h2 : y.len * (y.n + 1) ≤ 20 * 13 := Nat.mul_le_mul (by omega) (by omega)
    omega
  have HALLF : Hid (∀ t, T0 ≤ t → ∀ i, i < l.length → 0 ≤ y.F t i) := by
    intro t ht i hi
    have h1 := Sw.filled_in HOK.out (lastT l) (fun i hi => by have := (HLT.out i (by omega)).1; rw [HY.out]; exact this) i (by omega)
    rw [← hT0] at h1
    have h2 := Sw.F_keeps T0 (t - T0) i h1.1
    rw [show T0 + (t - T0) = t by omega] at h2
    rw [h2]
    exact h1.1
  clear hT0
  go_wp2_with fail
  go_loopw [26] (fun _ wr => ∃ t : Nat, (l.length ≠ 0 → t ≤ T0) ∧ FW w wr ⟨n, hh⟩ l A c n rb g mb bl cs t (y.F t) (fun j => y.q t 0 j))
    (fun _ wr => T0 - (match wr.cell? ⟨g, 3, none⟩ with | some (.int _ t) => t.toNat | _ => 0))
  case atStart => exact ⟨0, fun _ => Nat.zero_le _, HFW.out⟩
  case round =>
    clear HFW
    obtain ⟨t, htT, hF⟩ := hrel
    have HF := Lib.hid hF
    have w4 := hF.walk.cell 4
    simp only [List.getElem?_toArray, List.getElem?_cons_zero, List.getElem?_cons_succ] at w4
    have hlen := fun ty => hF.map.len ty
    obtain ⟨cf, hcf⟩ : ∃ cf, cf = cntF (y.F t) l.length := ⟨_, rfl⟩
    rw [← hcf] at hlen
    have HCF := Lib.hid hcf
    clear hcf hF
    by_cases hcl : cf < l.length
    · have hclI : (cf : Int) < (l.length : Int) := by omega
      have htT' : t < T0 := by
        apply Classical.byContradiction
        intro hn
        have h1 := HALLF.out t (by omega)
        have h2 := cntF_of_all h1
        have h3 := HCF.out
        omega
      have htb : T0 ≤ 500 := hT0b (by omega)
      have HT3 : Hid (wr.cell? ⟨g, 3, none⟩ = some (.int .i64 (t : Int))) := by show _ = _; have := HF.out.walk.cell 3; simpa using this
      go_wp2_with fail
      go_loopw [26] (fun i wr => ∃ s : Nat, s ≤ n ∧ i = .int .i64 s ∧ FW w wr ⟨n, hh⟩ l A c n rb g mb bl cs t (y.Fp t s) (fun j => y.q t s j)) (fun i _ => n - (intOf i).toNat)
      case atStart => exact ⟨0, Nat.zero_le _, rfl, by rw [Sw.Fp_zero]; exact HF.out⟩
      case round =>
        clear w4 hlen HF
        obtain ⟨s, hs, rfl, hF⟩ := hrel
        have HF := Lib.hid hF
        by_cases hlt : s < n
        · have hsI : (s : Int) < (n : Int) := by omega
          have hc1 := hF.links.cell s hlt
          have w0 := hF.ring.cell 0
          have w1' := hF.ring.cell 1
          simp only [List.getElem?_toArray, List.getElem?_cons_zero, List.getElem?_cons_succ] at w0 w1'
          clear hF
          have hbn : (s + 1) % n < n := Nat.mod_lt _ (by omega)
          have hbs : (s + 1) % n ≠ s := by have := Sw.succ_ne HOK.out (s := s) (by omega); rw [hyn] at this; exact this
          have HQR := Lib.hid (Sw.q_recv HOK.out (t := t) (s := s) (by omega))
          have HQS := Lib.hid (Sw.q_send HOK.out (t := t) (s := s) (by omega))
          have HQO := Lib.hid (fun j hj h1 h2 => Sw.q_other HOK.out (t := t) (s := s) (j := j) (by omega) hj h1 h2)
          have HOL := Lib.hid (Sw.old_le HOK.out t s)
          rw [hyn] at HQS HQO
          rw [hyl] at HOL
          obtain ⟨b, hb⟩ : ∃ b, b = (s + 1) % n := ⟨_, rfl⟩
          rw [← hb] at HQS HQO hbn hbs
          have HB := Lib.hid hb
          clear hb
          have hbI : (b : Int) < (n : Int) := by omega
          go_upto_region 7 with fail
          refine wp_region_row (by kernel_rfl) (by kernel_rfl) 31 10 (by kernel_rfl) (by decide) (by simp) (fun i => [.slice (some ⟨bl, 0, none⟩) n n, .agg #[.int .i64 (n : Int), .bool hh], .int .i64 (s : Int), .int .i64 (b : Int), .pointer (some ⟨bl, b, none⟩), .chan (some (cs b)), .int .i64 (s : Int), .chan (some (cs s)), slotV l (y.old t s), slotV l (y.new t s)].getD i undef)
            (fun D w' => FW w w' ⟨n, hh⟩ l A c n rb g mb bl cs t (if D 9 then y.Fp t (s + 1) else y.Fp t s) (fun j => if j = s then (if D 8 then y.q t (s + 1) s else y.q t s s) else if j = b then (if D 10 then y.q t (s + 1) b else y.q t s b) else y.q t s j)) ?_ ?_ ?_
          · refine (HF.out.step ((Below.refl _ _).drew)).congr (fun _ _ => rfl) (fun j hj => ?_)
            by_cases e1 : j = s
            · subst e1; simp
            · by_cases e2 : j = b
              · subst e2; simp [e1]
              · simp [e1, e2]
          · intro D D' ev w' i hi hd hpre hD' hev hec hef hW
            have e5 := hev 5
            have e2 := hev 2
            have e6 := hev 6
            have e7 := hev 7
            have e8 := hev 8
            simp at e5 e2 e6 e7 e8
            have hi11 : i < 11 := hi
            match i, hi11 with
            | 0, _ => exact .value w' (by simp [execOp, e6]) (by simpa [hD'] using hW)
            | 1, _ =>
              have c0 := hW.ring.cell 0
              have c1 := hW.ring.cell 1
              simp only [List.getElem?_toArray, List.getElem?_cons_zero, List.getElem?_cons_succ] at c0 c1
              exact .value w' (by simp [go_sem, execOp, e2, c0, c1]) (by simpa [hD'] using hW)
            | 2, _ => exact .value w' (by simp [execOp, e7]) (by simpa [hD'] using hW)
            | 3, _ =>
              have p1 : D 1 = true := hpre ⟨1, .data⟩ (by simp) rfl
              have p2 : D 2 = true := hpre ⟨2, .data⟩ (by simp) rfl
              have f2 := hev 32
              have f3 := hev 33
              simp [p1, p2] at f2 f3
              refine .call 45 #[.agg #[.int .i64 (n : Int), .bool hh], .int .i64 (s : Int)] w' ((run_call_any (f := 45) (ρ := ev) (args := #[.tmp 32, .tmp 33]) (ats := #[25, 3]) rfl (hef _) Try.func45 (by kernel_rfl) rfl).trans (by simp [f2, f3])) ((HBH.out s w' (by omega)).mono ?_)
              rintro e w'' ⟨rfl, hb''⟩
              exact ⟨by rw [← HB.out]; rfl, by have := hW.step hb''; simpa [hD'] using this⟩
            | 4, _ =>
              have p0 : D 0 = true := hpre ⟨0, .data⟩ (by simp) rfl
              have p3 : D 3 = true := hpre ⟨3, .data⟩ (by simp) rfl
              have f1 := hev 31
              have f4 := hev 34
              simp [p0, p3] at f1 f4
              exact .value w' (by simp [go_sem, execOp, f1, f4, hbn]) (by simpa [hD'] using hW)
            | 5, _ =>
              have p4 : D 4 = true := hpre ⟨4, .data⟩ (by simp) rfl
              have f5 := hev 35
              simp [p4] at f5
              have c0 := hW.links.cell b hbn
              exact .value w' (by simp [go_sem, execOp, f5, c0]) (by simpa [hD'] using hW)
            | 6, _ => exact .value w' (by simp [execOp, e7]) (by simpa [hD'] using hW)
            | 7, _ => exact .value w' (by simp [execOp, e8]) (by simpa [hD'] using hW)
            | 8, _ =>
              have p7 : D 7 = true := hpre ⟨7, .data⟩ (by simp) rfl
              have f7 := hev 38
              simp [p7] at f7
              obtain ⟨sc, rc, hch⟩ := hW.links.ch s hlt
              have hd8 : D 8 = false := hd
              simp only [hd8, if_true, Bool.false_eq_true, if_false] at hch
              rw [HQR.out] at hch
              refine .recv (cs s) 2 sc rc _ false false (.agg #[.int .i64 0, .int .i64 0, .int .i64 0]) w' ?_ (by simp [go_sem, execOp, f7, rcase]) hch (by simp) ?_
              · simp
              · have etk : List.take (y.q t (s + 1) s).length (List.map (slotV l) (y.q t (s + 1) s)) = List.map (slotV l) (y.q t (s + 1) s) := List.take_of_length_le (by simp)
                have := hW.chan HFP.out hlt (q' := fun j => if j = s then y.q t (s + 1) s else if j = b then (if D 10 then y.q t (s + 1) b else y.q t s b) else y.q t s j) (fun i _ hne => by simp [hne]) (((y.q t (s + 1) s).map (slotV l)).toArray) (by simp) sc (rc + 1)
                simpa [hD', etk] using this
            | 9, _ =>
              have p6 : D 6 = true := hpre ⟨6, .data⟩ (by simp) rfl
              have p8 : D 8 = true := hpre ⟨8, .data⟩ (by simp) rfl
              have f6 := hev 37
              have f8 := hev 39
              simp [p6, p8] at f6 f8
              have hd9 : D 9 = false := hd
              simp only [hd9, Bool.false_eq_true, if_false] at hW
              have hlow : w.heap.size ≤ w'.heap.size := hW.bel.size
              refine .call 46 #[.pointer (some ⟨g, 0, none⟩), .int .i64 (s : Int), slotV l (y.old t s)] w' ((run_call_any (f := 46) (ρ := ev) (args := #[.tmp 5, .tmp 37, .tmp 39]) (ats := #[73, 3, 78]) rfl (hef _) Try.func46 (by kernel_rfl) rfl).trans (by simp [e5, f6, f8])) ((HPA.out g mb w.heap.size (y.Fp t s) t s (y.old t s) w' hW.walk (HRM.out.below hW.bel) (by have := HMB.out; omega) hlow hW.map (by omega) (by omega) HOL.out (by have := HMB.out; have := HGB.out; omega)).mono ?_)
              intro e w'' hp
              have hWD : (fun j => if j = s then (if D' 8 then y.q t (s + 1) s else y.q t s s) else if j = b then (if D' 10 then y.q t (s + 1) b else y.q t s b) else y.q t s j) = (fun j => if j = s then (if D 8 then y.q t (s + 1) s else y.q t s s) else if j = b then (if D 10 then y.q t (s + 1) b else y.q t s b) else y.q t s j) := by simp [hD']
              have hD9 : D' 9 = true := by simp [hD']
              simp only [hD9, if_true, hWD]
              unfold PassPost at hp
              rw [Sw.fills_Fp, Sw.newc_Fp] at hp
              cases hf : y.fills (y.F t) s t (y.old t s) with
              | none =>
                rw [hf] at hp
                exact ⟨hp.1, (hW.step hp.2).congr (fun i _ => Sw.Fp_none hf i) (fun _ _ => rfl)⟩
              | some i =>
                rw [hf] at hp
                exact ⟨hp.1, (hW.pass HFP.out hp.2.2 (F' := y.Fp t (s + 1)) (hp.2.1.congr (fun j _ => Sw.Fp_some hf j)))⟩
            | 10, _ =>
              have p5 : D 5 = true := hpre ⟨5, .data⟩ (by simp) rfl
              have p9 : D 9 = true := hpre ⟨9, .data⟩ (by simp) rfl
              have f5 := hev 36
              have f9 := hev 40
              simp [p5, p9] at f5 f9
              obtain ⟨sc, rc, hch⟩ := hW.links.ch b hbn
              have hd10 : D 10 = false := hd
              simp only [hbs, hd10, if_true, Bool.false_eq_true, if_false] at hch
              refine .send (cs b) 2 sc rc _ false (slotV l (y.new t s)) (.tuple #[]) w' (by simp) (by simp [go_sem, f5, f9, scase]) hch (by have := HQS.out.2; simp; omega) ?_
              have := hW.chan HFP.out hbn (q' := fun j => if j = s then (if D 8 then y.q t (s + 1) s else y.q t s s) else if j = b then y.q t (s + 1) b else y.q t s j) (fun i _ hne => by simp [hne]) (((y.q t s b).map (slotV l)).toArray.push (slotV l (y.new t s))) (by simp [hbs, HQS.out.1]) (sc + 1) rc
              simpa [hD'] using this
          · intro D w' hall hW
            have HN : Hid (FW w w' ⟨n, hh⟩ l A c n rb g mb bl cs t (y.Fp t (s + 1)) (fun j => y.q t (s + 1) j)) := by
              have h8 := hall 8 (by decide)
              have h9 := hall 9 (by decide)
              have h10 := hall 10 (by decide)
              simp only [h8, h9, h10, if_true] at hW
              refine hW.congr (fun _ _ => rfl) (fun j hj => ?_)
              by_cases e1 : j = s
              · subst e1; simp
              · by_cases e2 : j = b
                · subst e2; simp [e1]
                · simp only [e1, e2, if_false]
                  exact (HQO.out j (by omega) e1 e2).symm
            clear hW
            simp only [putAll, Act.put, List.getD_cons_zero, List.getD_cons_succ, Nat.reduceAdd, List.setIfInBounds_toArray, List.set_cons_succ, List.set_cons_zero, Exit.then, Exit.inBlock]
            refine ‹∀ (a : Act) (w : World), _ → _› _ _ ?_
            go_wp2_with fail
            go_roundw
            case rel => exact ⟨s + 1, by omega, by go_num, HN.out⟩
            case measure => simp [intOf]; omega
        · obtain rfl : s = n := by omega
          have hF2 := hF.congr (G := y.F (t + 1)) (q' := fun j => y.q (t + 1) 0 j) (fun i hi => by have := Sw.Fp_all HOK.out t i (by omega); rw [← hyn]; exact this) (fun j hj => by rw [← hyn]; exact Sw.q_all HOK.out t (by omega))
          have hF3 := hF2.tick HFP.out hrg hbg
          have HF3 := Lib.hid hF3
          have x3 := hF.walk.cell 3
          have x3f := hF.walk.free 3
          have x3' := hF3.walk.cell 3
          simp only [List.getElem?_toArray, List.getElem?_cons_zero, List.getElem?_cons_succ] at x3 x3'
          have etk : IntKind.i64.wrap ((t : Int) + 1) = ((t + 1 : Nat) : Int) := by rw [IntWalk.i64_in _ (by omega)]; omega
          clear hF hF2 hF3 HF
          go_wp2_with fail
          go_roundw
          case rel => exact ⟨t + 1, fun _ => by omega, HF3.out⟩
          case measure =>
            have ea := HT3.out
            have eb := x3'
            rw [show ((t + 1 : Nat) : Int) = (t : Int) + 1 from by omega] at eb
            rw [ea, eb]
            simp only
            omega
    · have hcl2 : cntF (y.F t) l.length = l.length := by have := cntF_le (y.F t) l.length; have := HCF.out; omega
      have hall := cntF_all (Nat.le_of_eq hcl2.symm)
      have HAL := Lib.hid hall
      have hfin : (List.range l.length).map (y.F t) = finL ⟨n, hh⟩ l := by
        unfold finL
        apply List.map_congr_left
        intro i hi
        have hi : i < l.length := by simpa using hi
        rw [← HY.out]
        have h1 := Sw.F_of_fin HOK.out (lastT l) (fun i hi => by have := (HLT.out i (by omega)).1; rw [HY.out]; exact this) t i (by omega)
        have h2 := hall i hi
        rw [h1] at h2 ⊢
        split
        · rfl
        · rename_i h3
          rw [if_neg h3] at h2
          omega
      have HFI := Lib.hid hfin
      have hclI : ¬ (cf : Int) < (l.length : Int) := by have := HCF.out; omega
      have HCF2 : Hid (cf = l.length) := by show _ = _; rw [HCF.out]; exact hcl2
      have hbelS := HF.out.bel.size
      have hrbl := HF.out.ring.1
      have hgl := HF.out.walk.1
      have hml := HF.out.map.lt
      have hbll := HF.out.links.bl_lt (show 0 < n by omega)
      have HCSL := Lib.hid (fun j hj => HF.out.links.lt j hj)
      obtain ⟨wz, hwz⟩ : ∃ wz, wz = wr := ⟨_, rfl⟩
      subst hwz
      clear hcl2 hall hfin
      obtain ⟨i0, hi, hz0, hz1, hz2⟩ := info_parts int_info
      go_wp2_with (at_make; refine wpList_make_full _ rfl _ _ 29 rfl wz.heap.size 3 i0 _ 1 Try.underlying29 hi hz0 hz1 _ _ _ _ l.length rfl rfl rfl rfl (by rw [hz2]; omega) (by unfold maxLen; omega) (Nat.le_refl _) ?_; intro w3 hown hg3)
      have HR0 : Hid (RC w3 wz.heap.size l.length (upTo (y.F t) l.length 0)) := by
        show RC _ _ _ _
        rw [upTo_zero]
        exact RC.made hown
      have HF3 := Lib.hid (HF.out.step ((Below.refl _ _).grown hg3 (Nat.le_refl _) (by intro k hk; cases hk)))
      clear hown hg3 w4 hlen HF
      obtain ⟨tb, htb⟩ : ∃ tb, tb = wz.heap.size := ⟨_, rfl⟩
      rw [← htb] at HR0 HCSL hbelS hrbl hgl hml hbll ⊢
      clear htb
      go_wp2_with fail
      go_loopw [51] (fun i wr => ∃ j : Nat, j ≤ l.length ∧ i = .int .i64 j ∧ FW w wr ⟨n, hh⟩ l A c n rb g mb bl cs t (y.F t) (fun j => y.q t 0 j) ∧ RC wr tb l.length (upTo (y.F t) l.length j)) (fun i _ => l.length - (intOf i).toNat)
      case atStart => exact ⟨0, Nat.zero_le _, rfl, HF3.out, HR0.out⟩
      case round =>
        clear HF3 HR0
        obtain ⟨j, hj, rfl, hF, hRC⟩ := hrel
        by_cases hlt : j < l.length
        · have hjI : (j : Int) < (l.length : Int) := by omega
          obtain ⟨_, _, _, hc⟩ := HRM.out.parts
          obtain ⟨b, off, rfl, hbB, hcell⟩ := hc (by omega)
          obtain ⟨hd0, hd1, hd2⟩ := hcell j hlt
          have hc0 := (hF.bel.cell (p := ⟨b, off + j * 3, none⟩) hbB).trans hd0
          have hc1 := (hF.bel.cell (p := ⟨b, off + j * 3 + 1, none⟩) hbB).trans hd1
          have hc2 := (hF.bel.cell (p := ⟨b, off + j * 3 + 2, none⟩) hbB).trans hd2
          clear hd0 hd1 hd2 hcell hc
          have HGET := Lib.hid (fun w' (h : MapAt w' mb l (y.F t)) => h.get (k := (n : Int)) (by omega) HALL.out hl20 hlt (HAL.out j hlt))
          have HSW := Lib.hid (fun w => slotWith_any j l[j]! w (by omega))
          generalize l[j]! = m at hc0 hc1 hc2 HGET HSW
          obtain ⟨mt, mf, mo⟩ := m
          simp only [MsV, slV] at hc0 hc1 hc2 HGET HSW
          have hsw := hF.bel.size
          have HF4 := Lib.hid (hF.step ((Below.refl _ _).alloc (Nat.le_refl _) (.cells #[.int .i64 mt, .int .i64 mf, .int .i64 mo] 35)))
          have HR4 := Lib.hid (hRC.alloc (.cells #[.int .i64 mt, .int .i64 mf, .int .i64 mo] 35))
          have HM4 := Lib.hid (BK.made wr 35 #[.int .i64 mt, .int .i64 mf, .int .i64 mo])
          have htw := hRC.lt
          obtain ⟨ub, hub⟩ : ∃ ub, ub = wr.heap.size := ⟨_, rfl⟩
          clear hF hRC
          go_upto_region 14 with fail
          generalize wr.alloc (.cells #[.int .i64 mt, .int .i64 mf, .int .i64 mo] 35) = w5 at *
          rw [← hub] at HM4 htw ⊢
          clear hc0 hc1 hc2 hub
          refine wp_region_row (by kernel_rfl) (by kernel_rfl) 56 9 (by kernel_rfl) (by decide) (by simp) (fun i => [.slice (some ⟨tb, 0, none⟩) l.length l.length, .int .i64 (j : Int), .pointer (some ⟨g, 4, none⟩), .map (some mb), .int .i64 (j : Int), .agg #[.int .i64 mt, .int .i64 mf, .int .i64 mo], .agg #[.int .i64 ((j : Int) + 1), .int .i64 mf, .int .i64 mo], .int .i64 (y.F t j), .pointer (some ⟨tb, j, none⟩)].getD i undef)
            (fun D w' => FW w w' ⟨n, hh⟩ l (some ⟨b, off, none⟩) c n rb g mb bl cs t (y.F t) (fun j => y.q t 0 j) ∧ BK w' ub 35 #[.int .i64 mt, .int .i64 mf, .int .i64 mo] ∧ RC w' tb l.length (if D 9 then upTo (y.F t) l.length (j + 1) else upTo (y.F t) l.length j)) ?_ ?_ ?_
          · have hb := (Below.refl w5.heap.size w5).drew
            exact ⟨HF4.out.step hb, HM4.out.step hb, HR4.out.step hb⟩
          · intro D D' ev w' i hi' hd hpre hD' hev hec hef hW
            obtain ⟨hF, hM, hRC⟩ := hW
            have e5 := hev 5
            have e9 := hev 9
            have e10 := hev 10
            have e11 := hev 11
            simp at e5 e9 e10 e11
            have hi11 : i < 10 := hi'
            match i, hi11 with
            | 0, _ => exact .value w' (by simp [execOp, e9]) ⟨hF, hM, by simpa [hD'] using hRC⟩
            | 1, _ => exact .value w' (by simp [execOp, e10]) ⟨hF, hM, by simpa [hD'] using hRC⟩
            | 2, _ => exact .value w' (by simp [go_sem, execOp, e5]) ⟨hF, hM, by simpa [hD'] using hRC⟩
            | 3, _ =>
              have p2 : D 2 = true := hpre ⟨2, .data⟩ (by simp) rfl
              have f2 := hev 58
              simp [p2] at f2
              have c4 := hF.walk.cell 4
              simp only [List.getElem?_toArray, List.getElem?_cons_zero, List.getElem?_cons_succ] at c4
              exact .value w' (by simp [go_sem, execOp, f2, c4]) ⟨hF, hM, by simpa [hD'] using hRC⟩
            | 4, _ => exact .value w' (by simp [execOp, e10]) ⟨hF, hM, by simpa [hD'] using hRC⟩
            | 5, _ =>
              have c0 := hM.cell 0
              have c1 := hM.cell 1
              have c2 := hM.cell 2
              simp only [List.getElem?_toArray, List.getElem?_cons_zero, List.getElem?_cons_succ] at c0 c1 c2
              exact .value w' (by simp [go_sem, execOp, e11, c0, c1, c2]) ⟨hF, hM, by simpa [hD'] using hRC⟩
            | 6, _ =>
              have p4 : D 4 = true := hpre ⟨4, .data⟩ (by simp) rfl
              have p5 : D 5 = true := hpre ⟨5, .data⟩ (by simp) rfl
              have f4 := hev 60
              have f5 := hev 61
              simp [p4, p5] at f4 f5
              refine .call 47 #[.int .i64 (j : Int), .agg #[.int .i64 mt, .int .i64 mf, .int .i64 mo]] w' ((run_call_any (f := 47) (ρ := ev) (args := #[.tmp 60, .tmp 61]) (ats := #[3, 35]) rfl (hef _) Try.func47 (by kernel_rfl) rfl).trans (by simp [f4, f5])) ((HSW.out w').mono ?_)
              rintro e w'' ⟨rfl, hb''⟩
              exact ⟨rfl, hF.step hb'', hM.step hb'', by have := hRC.step hb''; simpa [hD'] using this⟩
            | 7, _ =>
              have p3 : D 3 = true := hpre ⟨3, .data⟩ (by simp) rfl
              have p6 : D 6 = true := hpre ⟨6, .data⟩ (by simp) rfl
              have f3 := hev 59
              have f6 := hev 62
              simp [p3, p6] at f3 f6
              have hget := HGET.out w' hF.map
              exact .value w' (by simp [go_sem, execOp, f3, f6, hget]) ⟨hF, hM, by simpa [hD'] using hRC⟩
            | 8, _ =>
              have p0 : D 0 = true := hpre ⟨0, .data⟩ (by simp) rfl
              have p1 : D 1 = true := hpre ⟨1, .data⟩ (by simp) rfl
              have f0 := hev 56
              have f1 := hev 57
              simp [p0, p1] at f0 f1
              exact .value w' (by simp [go_sem, execOp, f0, f1, hlt]) ⟨hF, hM, by simpa [hD'] using hRC⟩
            | 9, _ =>
              have p7 : D 7 = true := hpre ⟨7, .data⟩ (by simp) rfl
              have p8 : D 8 = true := hpre ⟨8, .data⟩ (by simp) rfl
              have f7 := hev 63
              have f8 := hev 64
              simp [p7, p8] at f7 f8
              have hd9 : D 9 = false := hd
              simp only [hd9, Bool.false_eq_true, if_false] at hRC
              have c0 := hRC.cell j (by rw [upTo_len]; exact hlt)
              have c1 := hRC.free j
              have hw : Wr tb (tb + 1) w' (w'.setCell ⟨tb, j, none⟩ (.int .i64 (y.F t j))) := (Wr.refl _ _ _).setCell (p := ⟨tb, j, none⟩) (Nat.le_refl _) (Nat.lt_succ_self _) _
              refine .skip (w'.setCell ⟨tb, j, none⟩ (.int .i64 (y.F t j))) rfl (by simp [go_sem, execOp, f7, f8, c0, c1]) ⟨hF.far hw hbelS hrbl hgl hml hbll HCSL.out, hM.far hw (by omega), ?_⟩
              have := hRC.set j (y.F t j)
              rw [upTo_set _ _ _ hlt] at this
              simpa [hD'] using this
          · intro D w' hall ⟨hF, hM, hRC⟩
            have h9 := hall 9 (by decide)
            simp only [h9, if_true] at hRC
            have HF6 := Lib.hid hF
            have HR6 := Lib.hid hRC
            clear hF hM hRC
            simp only [putAll, Act.put, List.getD_cons_zero, List.getD_cons_succ, Nat.reduceAdd, List.setIfInBounds_toArray, List.set_cons_succ, List.set_cons_zero, Exit.then, Exit.inBlock]
            refine ‹∀ (a : Act) (w : World), _ → _› _ _ ?_
            go_wp2_with fail
            go_roundw
            case rel => exact ⟨j + 1, by omega, by go_num, HF6.out, HR6.out⟩
            case measure => simp [intOf]; omega
        · obtain rfl : j = l.length := by omega
          rw [upTo_all, HFI.out] at hRC
          have HO := Lib.hid (hRC.oi (lo := w.heap.size) hbelS (Nat.le_refl _))
          rw [finL_len] at HO
          have HBL := Lib.hid hF.bel
          clear hF hRC
          go_wp2_with fail
          go_ret
          exact ⟨_, rfl, HO.out, HBL.out⟩
end Go.Proofs.Ytehmhkbiofndaaa
