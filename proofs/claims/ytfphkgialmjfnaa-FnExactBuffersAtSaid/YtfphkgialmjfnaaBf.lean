/-
  The contracts of BuffersAt, both sides.
-/
import Derived.Test.YtfphkgialmjfnaaNd
import Derived.Test.YtfphkgialmjfnaaRowPut
import Derived.Test.YtfphkgialmjfnaaClone
namespace Go.Proofs.Ytfphkgialmjfnaa
open Go.RowKit Go.Conc
set_option maxRecDepth 100000
set_option linter.unusedVariables false

def RetSB (w : World) (L : List (List Int)) (b : Bool) (e : Ending) (w' : World) : Prop := ∃ u, e = .returned (.tuple #[u, .bool b]) ∧ OS 26 3 w' w.heap.size w'.heap.size u L ∧ Below w.heap.size w w'
theorem bfInts_info : (Try.prog.info? 26).map (fun i => (i.zero, i.size, i.bytes)) = some (some (.slice none 0 0), 1, 24) := by kernel_rfl
theorem total_le (m : Nat) (L : List (List Int)) (h : ∀ r ∈ L, r.length ≤ m) : total L ≤ L.length * m := by
  induction L with
  | nil => simp [total]
  | cons r L ih =>
    have h1 := h r (by simp)
    have h2 := ih fun q hq => h q (by simp [hq])
    simp only [total, List.length_cons, Nat.add_mul, Nat.one_mul]
    omega
/-- The rows of the first s, then none. -/
def bfP (B : Nat → List Nat) (n s : Nat) : List (List Int) := (List.range n).map fun i => if i < s then nJ (B i) else []
theorem bfP_len (B : Nat → List Nat) (n s : Nat) : (bfP B n s).length = n := by simp [bfP]
theorem bfP_zero (B : Nat → List Nat) (n : Nat) : bfP B n 0 = List.replicate n [] := by
  apply List.ext_getElem (by simp [bfP])
  intro i h1 h2
  simp [bfP]
theorem bfP_all (B : Nat → List Nat) (n : Nat) : bfP B n n = (List.range n).map fun i => nJ (B i) := by
  apply List.map_congr_left
  intro i hi
  have : i < n := by simpa using hi
  rw [if_pos this]
theorem bfP_set (B : Nat → List Nat) (n s : Nat) (hs : s < n) : (bfP B n s).set s (nJ (B s)) = bfP B n (s + 1) := by
  apply List.ext_getElem (by simp [bfP])
  intro i h1 h2
  rw [List.getElem_set]
  simp only [bfP, List.getElem_map, List.getElem_range]
  by_cases e : s = i
  · subst e; simp
  · have e2 : (i < s + 1) ↔ (i < s) := by omega
    simp only [e, if_false, e2]
/-- What BuffersAt says. -/
def bfSays (x : Ir) (l : List Ms) (b : Int) : List (List Int) × Bool := if (inOk x l && wi b 0 600) = true then (bfP ((iwOf x l).run (b.toNat + 1)).B x.n.toNat x.n.toNat, true) else ([], false)
theorem bf_len {x : Ir} {l : List Ms} (h : inOk x l = true) (t s : Nat) (hs : s < x.n.toNat) : (((iwOf x l).run t).B s).length ≤ x.r.toNat := by
  refine Nat.le_trans ((Iw.run_inv (iwOk h) t).len s hs) ?_
  unfold Iw.mg
  show (if s < 0 then x.r.toNat else x.r.toNat - 1) ≤ _
  split <;> omega
theorem bfSays_len (x : Ir) (l : List Ms) (b : Int) : (bfSays x l b).1.length ≤ 1048576 ∧ total (bfSays x l b).1 ≤ 1048576 := by
  unfold bfSays
  split
  · next h =>
    simp only [Bool.and_eq_true] at h
    have h1 := isIr_in (inOk_in h.1).1
    have h2 : x.n.toNat ≤ 12 := by omega
    have h3 := total_le 20 (bfP ((iwOf x l).run (b.toNat + 1)).B x.n.toNat x.n.toNat) (fun r hr => by
      rw [bfP_all] at hr
      obtain ⟨i, hi, rfl⟩ := List.mem_map.1 hr
      have h4 := bf_len h.1 (b.toNat + 1) i (by simpa using hi)
      rw [nJ_length]
      omega)
    rw [bfP_len] at h3
    have h5 : x.n.toNat * 20 ≤ 12 * 20 := Nat.mul_le_mul_right 20 h2
    exact ⟨by simp only [bfP_len]; omega, by simp only; omega⟩
  · simp [total]
/-- A row of nil slices is made. -/
theorem OS.made {T E : TypeId} {w : World} {lo g n c : Nat} (h : w.ownsRow lo T 1 (.slice (some ⟨g, 0, none⟩) n c) n (madeCells (Value.slice none 0 0).cells (n * 1)).toList) :
    OS T E w lo w.heap.size (.slice (some ⟨g, 0, none⟩) n c) (List.replicate n []) := by
  have h1 : (Value.slice none 0 0).cells = #[Value.slice none 0 0] := rfl
  rw [Nat.mul_one, h1, toList_madeCells_one] at h
  have hlt := (row_parts h).2.1
  refine ⟨List.replicate n ⟨.slice none 0 0, 0, []⟩, by simp, by rw [List.length_replicate, List.map_replicate]; exact h, fun k hk => ?_, fun r hm => ?_, ?_⟩
  · simp [Value.ownBlock] at hk
    omega
  · obtain ⟨_, rfl⟩ := List.mem_replicate.1 hm
    exact ⟨.inl ⟨rfl, none, 0, rfl, by simp, fun _ => rfl⟩, fun h => absurd rfl h⟩
  · rw [List.pairwise_iff_getElem]
    intro p q hp hq _ hne
    simp at hne
/-- A row made behind all is put in the place of another: it may be empty. -/
theorem OS.set_row2 {T E : TypeId} {w : World} {lo hi A c n : Nat} {L : List (List Int)} (hTE : T ≠ E) (h : OS T E w lo hi (.slice (some ⟨A, 0, none⟩) n c) L) (hln : L.length = n) (j : Nat) (hj : j < n) {u : Value} {l : List Int} {h1 : Nat} (hu : OI E w hi h1 u l) (hlh : lo ≤ hi) (h12 : hi ≤ h1) :
    w.frozen? ⟨A, j, none⟩ = false ∧ (∃ u0, w.cell? ⟨A, j, none⟩ = some u0) ∧ OS T E (w.setCell ⟨A, j, none⟩ u) lo h1 (.slice (some ⟨A, 0, none⟩) n c) (L.set j l) := by
  subst hln
  by_cases hl : l = []
  · subst hl
    obtain ⟨rows, hL, hown, hhi, hr, hp⟩ := h
    have hn : rows.length = L.length := by rw [← hL, List.length_map]
    have hjr : j < rows.length := by omega
    have hown0 := hown
    have hwr := (Wr.refl A (A + 1) w).setCell (p := ⟨A, j, none⟩) (Nat.le_refl A) (Nat.lt_succ_self A) u
    refine ⟨World.ownsRow.frozenAt hown0 j, ?_, rows.set j ⟨u, 0, []⟩, by rw [List.map_set, hL], ?_, fun k hk => by have := hhi k hk; omega, ?_, ?_⟩
    · rw [World.ownsRow.cellAt hown0 j (by omega)]
      exact ⟨_, List.getElem?_eq_getElem (by simp; exact hjr)⟩
    · rw [List.length_set, List.map_set]
      exact (World.ownsRow.stored hown0 j u).1
    · intro r hm
      obtain ⟨q, hq, rfl⟩ := List.getElem_of_mem hm
      rw [List.length_set] at hq
      rw [List.getElem_set]
      by_cases e : j = q
      · rw [if_pos e]
        exact ⟨hu.empty_far, fun h => absurd rfl h⟩
      · rw [if_neg e]
        have hq2 := hr _ (List.getElem_mem hq)
        have hf := hq2.far hwr fun hl2 => by
          have hap := OS.apart (lo2 := 0) (hi2 := 0) hTE hown0 hq2.1 hl2
          have : rows[q].g ≠ A := fun h9 => hap (by rw [h9]; rfl)
          omega
        exact ⟨hf.1, fun hl2 => by have := hf.2 hl2; omega⟩
    · rw [List.pairwise_iff_getElem] at hp ⊢
      intro p q hpp hqq hlt
      rw [List.length_set] at hpp hqq
      simp only [List.getElem_set]
      by_cases e1 : j = p
      · rw [if_pos e1]
        intro hl2
        exact absurd rfl hl2
      · rw [if_neg e1]
        by_cases e2 : j = q
        · rw [if_pos e2]
          intro _ hl2
          exact absurd rfl hl2
        · rw [if_neg e2]
          exact hp p q hpp hqq hlt
  · obtain ⟨A', c', hv, _, _, _, h5, h6, h7⟩ := OS.set_row hTE h j hj hu hl hlh h12
    injection hv with hA _ hc
    injection hA with hA
    injection hA with hA
    subst hA
    subst hc
    exact ⟨h5, h6, h7⟩
theorem own_of_row {E : TypeId} {w : World} {lo : Nat} {v : Value} {l : List Int} (h : w.ownsRow lo E 1 v l.length (ics l)) (hl : l ≠ []) : ∃ b, v.ownBlock = some b ∧ lo ≤ b ∧ b < w.heap.size ∧ OI E w b (b + 1) v l := by
  rcases h.2 with ⟨_, h0⟩ | ⟨b, c, cur, rfl, h1, h2, h3⟩
  · exact absurd (List.eq_nil_of_length_eq_zero h0) hl
  · exact ⟨b, rfl, h1, (Array.getElem?_eq_some_iff.1 h2).1, .inr ⟨b, c, rfl, Nat.le_refl _, Nat.lt_succ_self _, h.1, .inr ⟨b, c, cur, rfl, Nat.le_refl _, h2, h3⟩⟩⟩
/-- The rows that a structure has gathered, each its own. -/
theorem OS.of_rows {T E : TypeId} {w : World} {lo lo2 hi g n : Nat} {vs : Nat → Value} {L : Nat → List Int} (hbk : BK w g T (rowI n vs)) (hlo : lo ≤ g) (hlo2 : lo ≤ lo2) (hhi : w.heap.size ≤ hi) (hn : n ≤ maxLen)
    (hr : ∀ s, s < n → w.ownsRow lo2 E 1 (vs s) (L s).length (ics (L s))) (hd : ∀ s s', s < n → s' < n → s ≠ s' → ∀ b, (vs s).ownBlock = some b → (vs s').ownBlock ≠ some b) :
    OS T E w lo hi (.slice (some ⟨g, 0, none⟩) n n) ((List.range n).map L) := by
  refine ⟨(List.range n).map fun s => ⟨vs s, ((vs s).ownBlock).getD 0, L s⟩, by simp, ?_, fun k hk => ?_, fun r hm => ?_, ?_⟩
  · refine ⟨by simp, .inr ⟨g, n, rowI n vs, by simp, hlo, hbk.2, by simp, hn, by rw [rowI_size]; omega, ?_⟩⟩
    simp [rowI, List.map_map, Function.comp_def]
    rw [List.take_of_length_le (by simp)]
  · simp [Value.ownBlock] at hk
    have := hbk.1
    omega
  · obtain ⟨s, hs, rfl⟩ := List.mem_map.1 hm
    have hs' : s < n := by simpa using hs
    by_cases hl : L s = []
    · refine ⟨?_, fun h => absurd hl h⟩
      have h1 : OI E w lo2 w.heap.size (vs s) (L s) := OI.of_row (hr s hs')
      simp only
      rw [hl] at h1 ⊢
      exact h1.empty_far
    · obtain ⟨b, h1, h2, h3, h4⟩ := own_of_row (hr s hs') hl
      refine ⟨?_, fun _ => ?_⟩
      · simp only [h1, Option.getD_some]
        exact h4
      · simp only [h1, Option.getD_some]
        omega
  · rw [List.pairwise_iff_getElem]
    intro p q hp hq hlt
    have hp' : p < n := by simpa using hp
    have hq' : q < n := by simpa using hq
    simp only [List.getElem_map, List.getElem_range]
    intro hl1 hl2
    obtain ⟨b1, e1, _⟩ := own_of_row (hr p hp') hl1
    obtain ⟨b2, e2, _⟩ := own_of_row (hr q hq') hl2
    rw [e1, e2]
    simp only [Option.getD_some]
    intro he
    exact hd p q hp' hq' (by omega) b1 e1 (by rw [e2, he])
theorem bfThen {a b : Nat} {w w1 w2 : World} (h : Wr a b w w1) (hb : Below w1.heap.size w1 w2) : Wr a b w w2 :=
  ⟨hb.os.trans h.os, hb.tape.trans h.tape, hb.output.trans h.output, Nat.le_trans h.size hb.size, fun k hk hn => (hb.block k (Nat.lt_of_lt_of_le hk h.size)).trans (h.block k hk hn)⟩
set_option maxHeartbeats 4000000 in
theorem specBuffersAt_any (v : Value) (x : Ir) (l : List Ms) (b : Int) (w : World) (h : RMsS w w.heap.size v l) (hn : l.length ≤ 1048576) (hb : (Lit.int .i64 b).wf = true) :
    Calls Try.prog 21 #[IrV x, v, .int .i64 b] w (RetSB w (bfSays x l b).1 (bfSays x l b).2) := by
  have HG := Lib.hid (fun w h => (inAll_any _ x l w h hn : Calls _ _ #[_, v] w _))
  have hr := h
  obtain ⟨A, c, rfl, _, hlc, _⟩ := h
  have hW : Below w.heap.size w (w.alloc (.cells #[.int .i64 x.n, .int .i64 x.r, .bool x.h] 29)) := (Below.refl _ _).alloc (Nat.le_refl _) _
  have hB := BK.made w 29 #[.int .i64 x.n, .int .i64 x.r, .bool x.h]
  cases hg : inOk x l
  · rw [show bfSays x l b = ([], false) from by simp [bfSays, hg]]
    rw [hg] at HG
    unfold IrV at HG ⊢
    clear hg hB
    go_enter Try.func21, Try.ntmps21
    go_wp2_with fail
    refine (HG.out _ ((hr.step hW (Nat.le_refl _)).more hW.size)).mono ?_; rintro e w1 ⟨rfl, hb⟩
    go_wp2_with fail
    go_ret2
    exact ⟨_, rfl, OS.nil _ _ _ _ _, hW.trans (hb.mono hW.size)⟩
  have hin := (isIr_in (inOk_in hg).1).1
  have HC0 : Hid (∀ w, Calls Try.prog 45 #[.int .i64 b] w fun e w' => e = .returned (.bool (wi b 0 600)) ∧ w = w') := fun w => inTick0_any b w
  cases g0 : wi b 0 600
  · rw [show bfSays x l b = ([], false) from by simp [bfSays, g0]]
    rw [hg] at HG
    rw [g0] at HC0
    unfold IrV at HG ⊢
    clear hg g0
    go_enter Try.func21, Try.ntmps21
    go_wp2_with fail
    refine (HG.out _ ((hr.step hW (Nat.le_refl _)).more hW.size)).mono ?_; rintro e w1 ⟨rfl, hb⟩
    have T1 := hW.trans (hb.mono hW.size)
    have hB1 := hB.step hb
    have c0 := hB1.cell 0
    have c1 := hB1.cell 1
    have c2 := hB1.cell 2
    simp only [List.getElem?_toArray, List.getElem?_cons_zero, List.getElem?_cons_succ] at c0 c1 c2
    go_wp2_with fail
    refine (HC0.out _).mono ?_; rintro e w' ⟨rfl, rfl⟩
    go_wp2_with fail
    go_ret2
    exact ⟨_, rfl, OS.nil _ _ _ _ _, T1⟩
  obtain ⟨k, rfl⟩ : ∃ k : Nat, b = (k : Int) := ⟨b.toNat, by simp [wi] at g0; omega⟩
  have hk : k ≤ 600 := by simp [wi] at g0; omega
  have hkI : (k : Int) ≤ 600 := by omega
  have HF := Lib.hid (fun w h => (inEnd_any _ x l (k + 1) w h hg (by omega) : Calls _ _ #[_, .slice A l.length c, _] w _))
  rw [show ((k + 1 : Nat) : Int) = (k : Int) + 1 by omega] at HF
  rw [show bfSays x l (k : Int) = (bfP ((iwOf x l).run ((k : Int).toNat + 1)).B x.n.toNat x.n.toNat, true) from by simp [bfSays, hg, g0]]
  rw [hg] at HG
  rw [g0] at HC0
  unfold IrV at HG HF ⊢
  clear hg g0
  go_enter Try.func21, Try.ntmps21
  go_wp2_with fail
  refine (HG.out _ ((hr.step hW (Nat.le_refl _)).more hW.size)).mono ?_; rintro e w1 ⟨rfl, hb⟩
  have T1 := hW.trans (hb.mono hW.size)
  have hB1 := hB.step hb
  have c0 := hB1.cell 0
  have c1 := hB1.cell 1
  have c2 := hB1.cell 2
  simp only [List.getElem?_toArray, List.getElem?_cons_zero, List.getElem?_cons_succ] at c0 c1 c2
  have HR1 := Lib.hid ((hr.step T1 (Nat.le_refl _)).more T1.size)
  have HT1 := Lib.hid T1
  have HB1 := Lib.hid hB1
  clear hW hB hb hB1 T1 hr
  go_wp2_with fail
  refine (HC0.out _).mono ?_; rintro e w' ⟨rfl, rfl⟩
  go_wp2_with fail
  refine (HF.out _ HR1.out).mono ?_; rintro e w2 ⟨A2, c2', hAc, p, vs, rfl, ⟨hpA, hpc⟩, hp, hS⟩
  have HO : Hid (OS 26 3 w2 w.heap.size w2.heap.size (.slice (some ⟨p.bb, 0, none⟩) x.n.toNat x.n.toNat) (bfP ((iwOf x l).run (k + 1)).B x.n.toNat x.n.toNat)) := by
    show OS _ _ _ _ _ _ _
    rw [bfP_all]
    have h0 := HT1.out.size
    have h1 := hp.b0
    have h2 := hp.bl
    refine OS.of_rows (lo2 := p.lo) hS.bufs (by omega) (by omega) (Nat.le_refl _) (by unfold maxLen; omega) (fun s hs => ?_) hS.dist
    rw [nJ_length]
    exact hS.rows s hs
  have HB := Lib.hid (HT1.out.trans (hS.bel.mono HT1.out.size))
  have c4 := hS.run.cell 4
  simp only [List.getElem?_toArray, List.getElem?_cons_zero, List.getElem?_cons_succ] at c4
  clear hS hp c0 c1 c2 hpA hpc hAc
  go_wp2_with fail
  go_ret2
  exact ⟨_, rfl, HO.out, HB.out⟩
set_option maxHeartbeats 4000000 in
theorem implBuffersAt_any (v : Value) (x : Ir) (l : List Ms) (b : Int) (w : World) (h : RMsS w w.heap.size v l) (hn : l.length ≤ 1048576) (hb : (Lit.int .i64 b).wf = true) :
    Calls Try.prog 22 #[IrV x, v, .int .i64 b] w (RetSB w (bfSays x l b).1 (bfSays x l b).2) := by
  have HG := Lib.hid (fun w h => (isInsertRingWith_any _ x l w h hn : Calls _ _ #[_, v] w _))
  have hr := h
  obtain ⟨A, c, rfl, _, hlc, _⟩ := h
  have hW : Below w.heap.size w (w.alloc (.cells #[.int .i64 x.n, .int .i64 x.r, .bool x.h] 29)) := (Below.refl _ _).alloc (Nat.le_refl _) _
  have hB := BK.made w 29 #[.int .i64 x.n, .int .i64 x.r, .bool x.h]
  cases hg : inOk x l
  · rw [show bfSays x l b = ([], false) from by simp [bfSays, hg]]
    rw [hg] at HG
    unfold IrV at HG ⊢
    clear hg hB
    go_enter Try.func22, Try.ntmps22
    go_wp2_with fail
    refine (HG.out _ ((hr.step hW (Nat.le_refl _)).more hW.size)).mono ?_; rintro e w1 ⟨rfl, hb⟩
    go_wp2_with fail
    go_ret2
    exact ⟨_, rfl, OS.nil _ _ _ _ _, hW.trans (hb.mono hW.size)⟩
  have hin := (isIr_in (inOk_in hg).1).1
  have HC0 : Hid (∀ w, Calls Try.prog 47 #[.int .i64 b, .int .i64 0, .int .i64 (600)] w fun e w' => e = .returned (.bool (wi b 0 (600))) ∧ w = w') := fun w => isWithin_wi b 0 (600) w
  cases g0 : wi b 0 (600)
  · rw [show bfSays x l b = ([], false) from by simp [bfSays, g0]]
    rw [hg] at HG
    rw [g0] at HC0
    unfold IrV at HG ⊢
    clear hg g0
    go_enter Try.func22, Try.ntmps22
    go_wp2_with fail
    refine (HG.out _ ((hr.step hW (Nat.le_refl _)).more hW.size)).mono ?_; rintro e w1 ⟨rfl, hb⟩
    have T1 := hW.trans (hb.mono hW.size)
    have hB1 := hB.step hb
    have c0 := hB1.cell 0
    have c1 := hB1.cell 1
    have c2 := hB1.cell 2
    simp only [List.getElem?_toArray, List.getElem?_cons_zero, List.getElem?_cons_succ] at c0 c1 c2
    go_wp2_with fail
    refine (HC0.out _).mono ?_; rintro e w' ⟨rfl, rfl⟩
    go_wp2_with fail
    go_ret2
    exact ⟨_, rfl, OS.nil _ _ _ _ _, T1⟩
  obtain ⟨k, rfl⟩ : ∃ k : Nat, b = (k : Int) := ⟨b.toNat, by simp [wi] at g0; omega⟩
  have hk : k ≤ 600 := by simp [wi] at g0; omega
  have hkI : (k : Int) ≤ 600 := by omega
  have HF := Lib.hid (fun w h => (walkThrough_any _ x l k w h hg (by omega) : Calls _ _ #[_, .slice A l.length c, _] w _))
  have HBL := Lib.hid (fun s hs => bf_len hg (k + 1) s hs)
  have hrr := (isIr_in (inOk_in hg).1).2
  obtain ⟨i0, hi, hz0, hz1, hz2⟩ := info_parts bfInts_info
  obtain ⟨n, hn1⟩ : ∃ n, n = x.n.toNat := ⟨_, rfl⟩
  have HN1 := Lib.hid hn1
  have HN2 : Hid (x.n = (n : Int)) := by show _ = _; omega
  have hn2 : n ≤ 12 := by omega
  have hn3 : (n : Int) ≤ 12 := by omega
  have hrn : x.r.toNat ≤ 20 := by omega
  obtain ⟨B, hBB⟩ : ∃ B, B = ((iwOf x l).run (k + 1)).B := ⟨_, rfl⟩
  have HBB := Lib.hid hBB
  rw [← hBB, ← hn1] at HBL
  clear hn1 hBB
  rw [show bfSays x l (k : Int) = (bfP B n n, true) from by rw [HBB.out, HN1.out]; simp [bfSays, hg, g0]]
  rw [hg] at HG
  rw [g0] at HC0
  unfold IrV at HG HF ⊢
  clear hg g0
  go_enter Try.func22, Try.ntmps22
  go_wp2_with fail
  refine (HG.out _ ((hr.step hW (Nat.le_refl _)).more hW.size)).mono ?_; rintro e w1 ⟨rfl, hb⟩
  have T1 := hW.trans (hb.mono hW.size)
  have hB1 := hB.step hb
  have c0 := hB1.cell 0
  have c1 := hB1.cell 1
  have c2 := hB1.cell 2
  simp only [List.getElem?_toArray, List.getElem?_cons_zero, List.getElem?_cons_succ] at c0 c1 c2
  have HR1 := Lib.hid ((hr.step T1 (Nat.le_refl _)).more T1.size)
  have HT1 := Lib.hid T1
  have HB1 := Lib.hid hB1
  clear hW hB hb hB1 T1 hr
  go_wp2_with fail
  refine (HC0.out _).mono ?_; rintro e w' ⟨rfl, rfl⟩
  rw [HN2.out] at c0
  go_wp2_with (at_make; refine wpList_make_full _ rfl _ _ 40 rfl w1.heap.size 26 i0 _ 1 Try.underlying40 hi hz0 hz1 _ _ _ _ n rfl rfl rfl rfl (by rw [hz2]; omega) (by unfold maxLen; omega) (Nat.le_refl _) ?_; intro w3 hown hg3; have hb3 : Below w1.heap.size w1 w3 := ((Below.refl _ _).grown hg3 (Nat.le_refl _) (by intro k hk; cases hk)); have hb1 := HB1.out.step hb3; have d0 := hb1.cell 0; have d1 := hb1.cell 1; have d2 := hb1.cell 2; simp only [List.getElem?_toArray, List.getElem?_cons_zero, List.getElem?_cons_succ] at d0 d1 d2)
  have hos : OS 26 3 w3 w1.heap.size w3.heap.size (.slice (some ⟨w1.heap.size, 0, none⟩) n n) (List.replicate n []) := OS.made hown
  have htl : w1.heap.size < w3.heap.size := (row_parts hown).2.1
  have HOS3 := Lib.hid hos
  have HB3 := Lib.hid hb3
  have HR3 := Lib.hid ((HR1.out.step hb3 (Nat.le_refl _)).more hb3.size)
  clear hown hg3 hos hb3 hb1 c0 c1 c2
  refine (HF.out _ HR3.out).mono ?_; rintro e w4 ⟨A2, c2', hAc, p, rfl, ⟨hpA, hpc⟩, hp, hS⟩
  have c6 := hS.run.cell 6
  simp only [List.getElem?_toArray, List.getElem?_cons_zero, List.getElem?_cons_succ] at c6
  rw [← HN1.out] at c6
  have h0 := hp.b0
  have h1 := hp.bg
  have h2 := hp.gr
  have HOS4 := Lib.hid (OS.step HOS3.out hS.bel (Nat.le_refl _))
  have HBL2 := Lib.hid HBL.out
  have hmem := hS.mem
  have hbuf := hS.bufs
  rw [← HN1.out, ← HBB.out] at hmem hbuf
  have HT4 : Hid (Below w.heap.size w w4) := HT1.out.trans ((HB3.out.trans (hS.bel.mono HB3.out.size)).mono HT1.out.size)
  have hs4 : w3.heap.size ≤ w4.heap.size := hS.bel.size
  rw [← bfP_zero B] at HOS4
  obtain ⟨rr, hrr2⟩ : ∃ rr, rr = x.r.toNat := ⟨_, rfl⟩
  rw [← hrr2] at hmem hbuf HBL2 hrn
  obtain ⟨tb, htb⟩ : ∃ tb, tb = w1.heap.size := ⟨_, rfl⟩
  have hwt : w.heap.size ≤ tb := by rw [htb]; exact HT1.out.size
  rw [← htb] at HOS4 htl ⊢
  have HMEM := Lib.hid hmem
  have HBUF := Lib.hid hbuf
  obtain ⟨bb, hbb⟩ : ∃ bb, bb = p.bb := ⟨_, rfl⟩
  obtain ⟨rm, hrm⟩ : ∃ rm, rm = p.rm := ⟨_, rfl⟩
  obtain ⟨gp, hgp⟩ : ∃ gp, gp = p.g := ⟨_, rfl⟩
  rw [← hbb] at HBUF c6 h0 h1
  rw [← hrm] at HBUF HMEM h2
  rw [← hgp] at c6 h1 h2 ⊢
  clear hS hp d0 d1 d2 hpA hpc hAc hmem hbuf hrr2 htb hbb hrm hgp HOS3 HBL
  go_wp2_with fail
  go_loopg [31] n (fun g sI wx => ∃ s : Nat, s + g = n ∧ sI = .int .i64 (s : Int) ∧ OS 26 3 wx tb wx.heap.size (.slice (some ⟨tb, 0, none⟩) n n) (bfP B n s) ∧ Wr tb (tb + 1) w4 wx)
  case atStart => exact ⟨0, by omega, rfl, HOS4.out.wide (Nat.le_refl _) hs4, Wr.refl _ _ _⟩
  case round =>
    clear HOS4 c6
    obtain ⟨s, hsg, rfl, hos, hwr⟩ := hrel
    cases gk with
    | zero =>
      have hse : s = n := by omega
      have hz : ¬ ((n : Int) < (n : Int)) := by omega
      rw [hse] at hos ⊢
      have HO := Lib.hid (hos.wide (lo' := w.heap.size) hwt (Nat.le_refl _))
      have HB := Lib.hid (HT4.out.trans (hwr.below hwt HT4.out.size))
      clear hos hwr hse hsg
      go_wp2_with fail
      go_ret2
      exact ⟨_, rfl, HO.out, HB.out⟩
    | succ g =>
      have hs : s < n := by omega
      have hsI : (s : Int) < (n : Int) := by omega
      have e0 := (HBUF.out.far hwr (.inr (by omega))).cell s
      rw [rowA_at _ _ _ hs] at e0
      have hme := HMEM.out.far hwr (.inr (by omega))
      have hbl := HBL2.out s hs
      have hri : RI wr wr.heap.size (bufV rm rr s (B s).length) (nJ (B s)) := by
        refine ⟨some ⟨rm, s * rr, none⟩, rr, by rw [nJ_length]; rfl, ⟨by rw [nJ_length]; exact hbl, by unfold maxLen; omega, fun h => by cases h⟩, fun _ => ⟨rm, s * rr, rfl, hme.lt, fun j hj => ?_⟩⟩
        rw [nJ_length] at hj
        rw [hme.cell s hs j hj, nJ_at _ _ hj]
        rfl
      have HC := Lib.hid (clone_any _ _ wr hri (by rw [nJ_length]; omega))
      unfold bufV at e0 HC
      have HOS := Lib.hid hos
      have HWR := Lib.hid hwr
      have HSET := Lib.hid (bfP_set B n s hs)
      have hlen := bfP_len B n s
      have hsw := hwr.size
      have hwr5 : tb ≤ wr.heap.size := by omega
      clear hos hwr hme hri
      go_wp2_with fail
      refine HC.out.mono ?_; rintro e w5 ⟨u, rfl, hu, hb5⟩
      obtain ⟨ua, un, uc, rfl⟩ : ∃ a m c, u = .slice a m c := by
        rcases hu with ⟨_, a, c, h, _⟩ | ⟨g, c, h, _⟩
        · exact ⟨_, _, _, h⟩
        · exact ⟨_, _, _, h⟩
      have hos5 := HOS.out.step hb5 (Nat.le_refl _)
      obtain ⟨hfz, ⟨u0, hcx⟩, hos6⟩ := OS.set_row2 (by decide) hos5 hlen s hs hu (by have := hwr5; omega) hb5.size
      rw [HSET.out] at hos6
      have HOS6 := Lib.hid hos6
      have HWR6 := Lib.hid ((bfThen HWR.out hb5).setCell (p := ⟨tb, s, none⟩) (Nat.le_refl _) (Nat.lt_succ_self _) (.slice ua un uc))
      have HSZ : Hid ((w5.setCell ⟨tb, s, none⟩ (.slice ua un uc)).heap.size = w5.heap.size) := by show _ = _; simp [World.setCell]
      clear hos5 hos6 hu hb5 HOS HWR
      go_wp2_with fail
      go_roundg g
      case measure => omega
      case rel => exact ⟨s + 1, by omega, by go_num, by rw [HSZ.out]; exact HOS6.out, HWR6.out⟩
end Go.Proofs.Ytfphkgialmjfnaa
