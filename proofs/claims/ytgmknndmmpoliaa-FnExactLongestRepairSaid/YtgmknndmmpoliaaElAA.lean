/-
  Chapter 7: the model's election by rounds.
-/
import Derived.Test.YtgmknndmmpoliaaElJ
import Derived.Maps.AppendAt
namespace Go.Proofs.Ytgmknndmmpoliaa
open Go.RowKit Go.Maps
set_option maxRecDepth 100000
set_option linter.unusedVariables false

theorem wpList_pushAtE {P : Program} {w : World} {ops : Array Oper} {rest : List Oper} {o : Oper} {a : Act} {Q : Exit → Act → World → Prop} (hgd : o.guard = none) (s x : Operand) (t : TypeId)
    (ho : o.op = .call { callee := .builtin .append, args := #[s, x], argTypes := #[t, t] }) (E : TypeId) (i : TypeInfo) (ht : P.underlying t = some (.slice E)) (hi : P.info? E = some i)
    (hz0 : i.zero = some (.int .i64 0)) (hz1 : i.size = 1) (hz2 : i.bytes = 8) (W : World) (lo : Nat) (v : Value) (n : Nat) (l : List Int) (y : Int)
    (hw : w = W.alloc (.cells #[.int .i64 y] E)) (hs : a.eval s = v) (hacc : W.ownsRow lo E 1 v n (ics l)) (hx : a.eval x = .slice (some ⟨W.heap.size, 0, none⟩) 1 1) (hn : n < 1000000000) (hlo : lo ≤ W.heap.size)
    (h : ∀ v' w', w'.ownsRow lo E 1 v' (n + 1) (ics (l ++ [y])) → W.grownBy w' v.ownBlock → (v'.ownBlock = v.ownBlock ∨ ∃ b, v'.ownBlock = some b ∧ W.heap.size ≤ b) → wpList P ops Q rest (a.put o.dst v') w') : wpList P ops Q (o :: rest) a w := by
  subst hw
  have hown : (W.alloc (.cells #[.int .i64 y] E)).ownsRow lo E 1 v n (ics l) := World.ownsRow.alloc hacc _
  have hcl : lo ≤ (W.alloc (.cells #[.int .i64 y] E)).heap.size := by simp; omega
  refine wpList_append_own_at _ hgd s x t ho lo E i (.int .i64 0) 1 8 ht hi hz0 hz1 hz2 rfl (by decide) v n (ics l) hs hown ⟨W.heap.size, 0, none⟩ 1 1 [.int .i64 y] hx rfl ?_ ?_ (by unfold maxLen; omega) (by omega) hcl ?_
  · intro j u hj
    match j, hj with
    | 0, hj =>
      simp at hj
      subst hj
      rw [addr_add]
      simp
  · intro u hu
    simp at hu
    subst hu
    rfl
  · intro v' w' h1 h2 _ h4
    refine h v' w' ?_ ((World.grownBy_alloc W _ _).trans h2) ?_
    · have e : ics (l ++ [y]) = ics l ++ [.int .i64 y] := by simp [ics]
      rw [e]
      exact h1
    · rcases h4 with h4 | h4
      · exact .inl h4
      · exact .inr ⟨_, h4, by simp⟩
theorem ownsRow_grownE {w w' : World} {lo n : Nat} {E : TypeId} {v : Value} {xs : List Value} {row : Option Nat} (h : w.ownsRow lo E 1 v n xs) (hg : w.grownBy w' row) (hne : ∀ b, v.ownBlock = some b → some b ≠ row) : w'.ownsRow lo E 1 v n xs := by
  rcases h.2 with ⟨hv, hr⟩ | ⟨g, c, cur, hv, h1, h2, rest⟩
  · exact ⟨h.1, .inl ⟨hv, hr⟩⟩
  · refine ⟨h.1, .inr ⟨g, c, cur, hv, h1, ?_, rest⟩⟩
    have hlt : g < w.heap.size := (Array.getElem?_eq_some_iff.1 h2).1
    rw [hg.block g hlt (hne g (by rw [hv]; rfl))]
    exact h2
/-- Two lists of ints that are gathered side by side. -/
structure Pr (w : World) (lo : Nat) (u v : Value) (A B : List Int) : Prop where
  fst : w.ownsRow lo 3 1 u A.length (ics A)
  snd : w.ownsRow lo 3 1 v B.length (ics B)
  ne : ∀ k, u.ownBlock = some k → v.ownBlock ≠ some k
theorem Pr.nil (w : World) (lo : Nat) : Pr w lo (.slice none 0 0) (.slice none 0 0) [] [] :=
  ⟨World.ownsRow_nil _ _ _ _, World.ownsRow_nil _ _ _ _, fun k hk => by simp [Value.ownBlock] at hk⟩
theorem Pr.put1 {w w' : World} {lo : Nat} {u v u' : Value} {A B : List Int} {x : Int} (h : Pr w lo u v A B) (hr : w'.ownsRow lo 3 1 u' (A.length + 1) (ics (A ++ [x]))) (hg : w.grownBy w' u.ownBlock)
    (hu : u'.ownBlock = u.ownBlock ∨ ∃ b, u'.ownBlock = some b ∧ w.heap.size ≤ b) : Pr w' lo u' v (A ++ [x]) B :=
  ⟨by rw [List.length_append]; exact hr, ownsRow_grownE h.snd hg (fun b hb e => h.ne b e.symm hb), fun k hk hv => by
    rcases hu with e | ⟨b, e, hb⟩
    · rw [e] at hk
      exact h.ne k hk hv
    · rw [e] at hk
      injection hk with hk
      have := (World.ownsRow.lt h.snd k hv).2
      omega⟩
theorem Pr.put2 {w w' : World} {lo : Nat} {u v v' : Value} {A B : List Int} {x : Int} (h : Pr w lo u v A B) (hr : w'.ownsRow lo 3 1 v' (B.length + 1) (ics (B ++ [x]))) (hg : w.grownBy w' v.ownBlock)
    (hu : v'.ownBlock = v.ownBlock ∨ ∃ b, v'.ownBlock = some b ∧ w.heap.size ≤ b) : Pr w' lo u v' A (B ++ [x]) :=
  ⟨ownsRow_grownE h.fst hg (fun b hb e => h.ne b hb e.symm), by rw [List.length_append]; exact hr, fun k hk hv => by
    rcases hu with e | ⟨b, e, hb⟩
    · rw [e] at hv
      exact h.ne k hk hv
    · rw [e] at hv
      injection hv with hv
      have := (World.ownsRow.lt h.fst k hk).2
      omega⟩
theorem Pr.drewN {w : World} {lo : Nat} {u v : Value} {A B : List Int} (h : Pr w lo u v A B) (m : Nat) : Pr (w.drewN m) lo u v A B := ⟨h.fst, h.snd, h.ne⟩
/-- 'out = append(out, row)': nothing is written but the cells of out. -/
theorem wp_pushS2 {P : Program} {w : World} {o : Oper} {a : Act} {K : Act → World → Prop} {Q : Exit → Act → World → Prop} (s x : Operand) (t : TypeId)
    (ho : o.op = .call { callee := .builtin .append, args := #[s, x], argTypes := #[t, t] }) (T E : TypeId) (hTE : T ≠ E) (i : TypeInfo) (ht : P.underlying t = some (.slice T)) (hi : P.info? T = some i)
    (hz0 : i.zero = some (.slice none 0 0)) (hz1 : i.size = 1) (hz2 : i.bytes = 24) (W : World) (lo h0 h1 : Nat) (v u : Value) (L : List (List Int)) (l : List Int)
    (hw : w = W.alloc (.cells #[u] T)) (hs : a.eval s = v) (hacc : OS T E W lo h0 v L) (hu : OI E W h0 h1 u l) (hlo : lo ≤ h0) (hh1 : h1 ≤ W.heap.size) (hh0 : h0 ≤ W.heap.size)
    (hx : a.eval x = .slice (some ⟨W.heap.size, 0, none⟩) 1 1) (hn : L.length < 1000000)
    (h : ∀ v' w', OS T E w' lo w'.heap.size v' (L ++ [l]) → Wr lo h0 W w' → K (a.put o.dst v') w') : o.wp P a w K Q := by
  subst hw
  obtain ⟨rows, hL, hown0, hhi, hr, hp⟩ := hacc
  have hone : u.oneCell' = true := by
    obtain ⟨A, c, rfl, _⟩ := hu.ri
    rfl
  obtain ⟨g, hg0, hg1, hut⟩ : ∃ g, h0 ≤ g ∧ (l ≠ [] → g < h1) ∧ OI E W g (g + 1) u l := by
    by_cases hl : l = []
    · subst hl
      exact ⟨h0, Nat.le_refl _, fun h => absurd rfl h, hu.empty⟩
    · obtain ⟨g, h2, h3, h4⟩ := hu.tight hl
      exact ⟨g, h2, fun _ => h3, h4⟩
  have hlo2 : lo ≤ W.heap.size := by omega
  have hown : (W.alloc (.cells #[u] T)).ownsRow lo T 1 v L.length (rows.map (·.u)) := World.ownsRow.alloc hown0 _
  have hcl : lo ≤ (W.alloc (.cells #[u] T)).heap.size := by simp; omega
  refine wp_append_own _ s x t ho lo T i (.slice none 0 0) 1 24 ht hi hz0 hz1 hz2 rfl (by decide) v L.length (rows.map (·.u)) hs hown ⟨W.heap.size, 0, none⟩ 1 1 [u] hx rfl ?_ ?_ (by unfold maxLen; omega) (by omega) hcl ?_
  · intro j y hj
    match j, hj with
    | 0, hj => simp at hj; subst hj; simp [Addr.add]
    | j + 1, hj => simp at hj
  · intro y hy
    simp at hy
    subst hy
    exact hone
  · intro v' w' h2 h3 _
    have hsz : W.heap.size ≤ w'.heap.size := Nat.le_trans (by simp) h3.size
    have hkeep : ∀ k, k < W.heap.size → v.ownBlock ≠ some k → w'.heap[k]? = W.heap[k]? := fun k hk hne => by
      rw [h3.block k (by simp; omega) (fun e => hne e.symm)]
      exact Below.heap_alloc _ _ _ hk
    have hrow : ∀ r : Rw, RwOK E W lo W.heap.size r → RwOK E w' lo w'.heap.size r := by
      intro r hr1
      refine ⟨?_, fun hl => by have := hr1.2 hl; omega⟩
      by_cases hl : r.l = []
      · have h4 := hr1.1
        rw [hl] at h4 ⊢
        exact h4.empty_far
      · have hne := OS.apart (lo2 := 0) (hi2 := 0) hTE hown0 hr1.1 hl
        rcases hr1.1 with ⟨h4, _⟩ | ⟨g', c, he, h5, h6, hrw⟩
        · exact absurd h4 hl
        · obtain rfl : g' = r.g := by omega
          obtain ⟨_, h12, h7, h8, cur, h9, h10, h11⟩ := row_parts hrw
          exact .inr ⟨r.g, c, he, h5, h6, hrw.1, .inr ⟨r.g, c, cur, rfl, Nat.le_refl _, by rw [hkeep r.g h12 hne]; exact h9, h7, h8, h10, h11⟩⟩
    have hwr : Wr lo h0 W w' := ⟨h3.os, h3.tape, h3.output, hsz, fun k hk hn => hkeep k hk fun e => by
      have h4 := hhi k e
      have h5 := (World.ownsRow.lt hown0 k e).1
      omega⟩
    refine h v' w' ⟨rows ++ [⟨u, g, l⟩], by simp [hL], ?_, fun k hk => (World.ownsRow.lt h2 k hk).2, fun r hm => ?_, ?_⟩ hwr
    · rw [List.length_append, List.map_append]
      exact h2
    · rcases List.mem_append.1 hm with hm | hm
      · exact hrow r ⟨(hr r hm).1, fun hl => by have := (hr r hm).2 hl; omega⟩
      · simp only [List.mem_singleton] at hm
        subst hm
        exact hrow _ ⟨hut, fun hl => by have := hg1 hl; simp only; omega⟩
    · refine List.pairwise_append.2 ⟨hp, List.pairwise_singleton _ _, fun r hm r2 hm2 hl _ => ?_⟩
      simp only [List.mem_singleton] at hm2
      subst hm2
      have := (hr r hm).2 hl
      simp only
      omega
theorem wpList_pushS2 {P : Program} {w : World} {ops : Array Oper} {rest : List Oper} {o : Oper} {a : Act} {Q : Exit → Act → World → Prop} (hgd : o.guard = none) (s x : Operand) (t : TypeId)
    (ho : o.op = .call { callee := .builtin .append, args := #[s, x], argTypes := #[t, t] }) (T E : TypeId) (hTE : T ≠ E) (i : TypeInfo) (ht : P.underlying t = some (.slice T)) (hi : P.info? T = some i)
    (hz0 : i.zero = some (.slice none 0 0)) (hz1 : i.size = 1) (hz2 : i.bytes = 24) (W : World) (lo h0 h1 : Nat) (v u : Value) (L : List (List Int)) (l : List Int)
    (hw : w = W.alloc (.cells #[u] T)) (hs : a.eval s = v) (hacc : OS T E W lo h0 v L) (hu : OI E W h0 h1 u l) (hlo : lo ≤ h0) (hh1 : h1 ≤ W.heap.size) (hh0 : h0 ≤ W.heap.size)
    (hx : a.eval x = .slice (some ⟨W.heap.size, 0, none⟩) 1 1) (hn : L.length < 1000000)
    (h : ∀ v' w', OS T E w' lo w'.heap.size v' (L ++ [l]) → Wr lo h0 W w' → wpList P ops Q rest (a.put o.dst v') w') : wpList P ops Q (o :: rest) a w :=
  wpList_plain hgd fun _ hK => wp_pushS2 s x t ho T E hTE i ht hi hz0 hz1 hz2 W lo h0 h1 v u L l hw hs hacc hu hlo hh1 hh0 hx hn fun v' w' h2 h3 => hK _ _ (h v' w' h2 h3)

theorem cntA_true (n : Nat) : cntA (fun _ => true) n = n := by
  induction n with
  | zero => rfl
  | succ n ih => rw [cntA, ih]; simp
theorem ownL_start (l : List Int) : ownL (fun _ => true) (fun i => l.getD i 0) l.length = l := by
  have hlen : (ownL (fun _ => true) (fun i => l.getD i 0) l.length).length = l.length := by rw [ownL_len, cntA_true]
  refine List.ext_getElem hlen fun i h1 h2 => ?_
  have h3 := ownL_at (A := fun _ => true) (V := fun i => l.getD i 0) (n := l.length) (s := i) h2 rfl
  rw [cntA_true] at h3
  have key : ∀ (X : List Int) (h : i < X.length), X.getD i 0 = X[i] := fun X h => by simp [h]
  exact (key _ h1).symm.trans (h3.trans (key _ h2))
theorem svB_two {own : List Int} (hl : own.length = 2) {j : Nat} (hj : j < 2) : svB own j = decide (own.getD j 0 < own.getD (1 - j) 0) ∧ nrI own.length j = 1 - j := by
  unfold svB nrI frI
  rw [hl]
  obtain rfl | rfl : j = 0 ∨ j = 1 := by omega
  · simp
  · simp
theorem rnd_yes {all own : List Int} {j : Nat} (h : svB own j = true) : rndN all own (j + 1) = ((rndN all own j).1 ++ [all.getD j 0], (rndN all own j).2 ++ [own.getD (nrI own.length j) 0]) := by rw [rndN, if_pos h]
theorem rnd_no {all own : List Int} {j : Nat} (h : svB own j = false) : rndN all own (j + 1) = rndN all own j := by rw [rndN, if_neg (by rw [h]; simp)]
theorem rnd_len (all own : List Int) (j : Nat) : (rndN all own j).1.length ≤ j ∧ (rndN all own j).2.length ≤ j := by
  induction j with
  | zero => exact ⟨Nat.le_refl _, Nat.le_refl _⟩
  | succ j ih =>
    rw [rndN]
    split
    · simp only [List.length_append, List.length_singleton]
      omega
    · omega

set_option maxHeartbeats 16000000 in
theorem elSurvivors_any (v : Value) (l : List Int) (w : World) (h : RI w w.heap.size v l) (hn : 2 ≤ l.length ∧ l.length ≤ 12) :
    Calls Try.prog 32 #[v] w (RetSL w (srvT l (rdN l))) := by
  obtain ⟨i0, hi, hz0, hz1, hz2⟩ := info_parts int_info
  obtain ⟨i1, hi1, ht0, ht1, ht2⟩ := info_parts elInts_info
  have hn' : (2 : Int) ≤ (l.length : Int) ∧ (l.length : Int) ≤ 12 := by omega
  have HRI := Lib.hid h
  obtain ⟨A, c, rfl, hlc, hc⟩ := h
  clear hc
  go_enter Try.func32, Try.ntmps32
  go_wp2_with fail
  go_loopw [3, 19] (fun u i wr => ∃ k : Nat, k ≤ l.length ∧ i = .int .i64 k ∧ Acc 3 wr w.heap.size u (alL (fun _ => true) k) ∧ Below w.heap.size w wr) (fun _ i _ => l.length - (intOf i).toNat)
  case atStart => exact ⟨0, Nat.zero_le _, rfl, Acc.nil _ _ _, Below.refl _ _⟩
  case round =>
    obtain ⟨k, hk, rfl, hacc, hb⟩ := hrel
    rename World => W1
    have HA := Lib.hid hacc
    have HB := Lib.hid hb
    by_cases hlt : k < l.length
    · have hln : Hid ((alL (fun _ => true) k).length < 1000000000) := by
        show _ < _
        have := alL_le (fun _ => true) k
        omega
      clear hacc hb
      go_wp2_with (at_builtin; refine wpList_push rfl (.tmp 22) (.tmp 24) 22 rfl 3 i0 Try.underlying22 hi hz0 hz1 hz2 W1 w w.heap.size _ _ (k : Int) rfl rfl HA.out rfl hln.out HB.out.size HB.out ?_; intro v2 w2 ha2 hb2)
      go_roundw
      case rel => exact ⟨k + 1, by omega, by go_num, by rw [alL_yes rfl]; exact ha2, hb2⟩
      case measure => simp [intOf]; omega
    · obtain rfl : k = l.length := by omega
      have HO1 := Lib.hid (elOwn_any _ l W1 ((HRI.out.below hb).more hb.size) (by omega))
      clear hacc hb
      go_wp2_with fail
      refine HO1.out.mono ?_; rintro e Wa ⟨u5, rfl, ho5, hb5⟩
      have hoa : OI 3 Wa w.heap.size W1.heap.size _ (alL (fun _ => true) l.length) := HA.out.oi.step hb5
      have hra := hoa.ri
      have hos0 := OS.lit1 (T := 22) (w := Wa) (g := Wa.heap.size) rfl (hoa.wide (Nat.le_refl _) hb5.size) (Nat.le_trans HB.out.size hb5.size) (Nat.le_refl _)
      have hba : Below W1.heap.size W1 Wa := hb5
      obtain ⟨A3, c3, rfl, _, _⟩ := hra
      have hr5 := ho5.ri
      obtain ⟨A5, c5, rfl, _, _⟩ := hr5
      have HO := Lib.hid hos0
      have HRA := Lib.hid (hoa.ri.more hb5.size)
      have HR5 := Lib.hid ho5.ri
      have HBA : Hid (Below w.heap.size w Wa) := HB.out.trans (hb5.mono HB.out.size)
      clear hos0 hoa hb5 hba ho5
      go_wp2_with fail
      have hs2 : (Wa.alloc (.cells #[.slice A3 (alL (fun _ => true) l.length).length c3] 22)).heap.size = Wa.heap.size + 1 := by simp
      have HAL0 : Hid (Below Wa.heap.size Wa (Wa.alloc (.cells #[.slice A3 (alL (fun _ => true) l.length).length c3] 22))) := (Below.refl _ _).alloc (Nat.le_refl _) _
      have HS2 := Lib.hid hs2
      clear hs2
      go_loopg [3, 5, 6] l.length (fun g s3 s5 s6 wx => ∃ p : Nat, p + g = l.length ∧ Hid (∀ q, q < p → 1 < nmA l q) ∧ RI wx wx.heap.size s3 (alL (apF l p).1 l.length) ∧ RI wx wx.heap.size s5 (ownL (apF l p).1 (apF l p).2 l.length) ∧
        OS 22 3 wx w.heap.size wx.heap.size s6 (srvT l p) ∧ Below w.heap.size w wx)
      case atStart => exact ⟨0, by omega, fun q hq => absurd hq (by omega), (HRA.out.below HAL0.out).more HAL0.out.size, by
        show RI _ _ _ (ownL (fun _ => true) (fun i => l.getD i 0) l.length)
        rw [ownL_start]
        exact (HR5.out.below HAL0.out).more HAL0.out.size, HO.out.wide (Nat.le_refl _) (by rw [HS2.out]; exact Nat.le_refl _), HBA.out.trans (HAL0.out.mono HBA.out.size)⟩
      case round =>
        obtain ⟨p, hpg, HQ, hr3, hr5, hos, hbw⟩ := hrel
        rename World => W2
        have HBW := Lib.hid hbw
        have HOS := Lib.hid hos
        have HSL : Hid ((srvT l p).length < 1000000) := by
          show _ < _
          rw [srvT_len]
          omega
        have hdown := nmA_down l p HQ.out
        obtain ⟨ALL, hALL⟩ : ∃ X, X = alL (apF l p).1 l.length := ⟨_, rfl⟩
        obtain ⟨OWN, hOWN⟩ : ∃ X, X = ownL (apF l p).1 (apF l p).2 l.length := ⟨_, rfl⟩
        rw [← hALL] at hr3
        rw [← hOWN] at hr5
        have hm3 : ALL.length = nmA l p := by rw [hALL, alL_len]; rfl
        have hm5 : OWN.length = nmA l p := by rw [hOWN, ownL_len]; rfl
        have HAL := Lib.hid hALL
        have HOW := Lib.hid hOWN
        clear hALL hOWN
        obtain ⟨VA, va, vc, rfl, _, _, _, _⟩ := hos.rd
        obtain ⟨A3', c3', rfl, hl3, hc3⟩ := hr3
        obtain ⟨A5', c5', rfl, hl5, hc5⟩ := hr5
        obtain ⟨M, hM⟩ : ∃ M, M = nmA l p := ⟨_, rfl⟩
        rw [← hM] at hm3 hm5 hdown
        have HMA : Hid (ALL.length = M) := hm3
        have HMO : Hid (OWN.length = M) := hm5
        have HMN := Lib.hid hM
        rw [hm3] at hl3 hc3 ⊢
        rw [hm5] at hl5 hc5 ⊢
        clear hM hm3 hm5 hos hbw
        have hM12 : (M : Int) ≤ 12 := by omega
        by_cases hlt1 : 1 < M
        · have hlt1' : (1 : Int) < (M : Int) := by omega
          have HNM : Hid (1 < nmA l p) := by show _ < _; rw [← HMN.out]; exact hlt1
          obtain ⟨b3, off3, rfl, hb3, hcell3⟩ := hc3 (by omega)
          obtain ⟨b5, off5, rfl, hb5, hcell5⟩ := hc5 (by omega)
          have HC3 := Lib.hid hcell3
          have HC5 := Lib.hid hcell5
          have HB3B : Hid (b3 < W2.heap.size) := hb3
          have HB5B : Hid (b5 < W2.heap.size) := hb5
          clear hc3 hc5 hcell3 hcell5 hb3 hb5
          go_wp2_with fail

          go_loopg [8, 9, 38] M (fun g s8 s9 sx wx => ∃ j : Nat, j + g = M ∧ sx = .int .i64 j ∧ Hid (Pr wx W2.heap.size s8 s9 (rndN ALL OWN j).1 (rndN ALL OWN j).2) ∧ Hid (Below W2.heap.size W2 wx))
          case atStart => exact ⟨0, by omega, rfl, Pr.nil _ _, Below.refl _ _⟩
          case round =>
            obtain ⟨j, hjg, rfl, HPR, HB3⟩ := hrel
            rename World => W3
            cases gk with
            | succ g =>
              have hj : j < M := by omega
              have hj' : (j : Int) < (M : Int) := by omega
              have HPRL1 : Hid ((rndN ALL OWN j).1.length < 1000000000) := by
                show _ < _
                have := (rnd_len ALL OWN j).1
                omega
              have HPRL2 : Hid ((rndN ALL OWN j).2.length < 1000000000) := by
                show _ < _
                have := (rnd_len ALL OWN j).2
                omega
              have ca := (HB3.out.cell (p := ⟨b3, off3 + j, none⟩) HB3B.out).trans (HC3.out j hj)
              have c0 := (HB3.out.cell (p := ⟨b5, off5 + j, none⟩) HB5B.out).trans (HC5.out j hj)
              obtain ⟨x0, hx0⟩ : ∃ y, y = ALL.getD j 0 := ⟨_, rfl⟩
              obtain ⟨y0, hy0⟩ : ∃ y, y = OWN.getD j 0 := ⟨_, rfl⟩
              have hq1 : nrI OWN.length j < M := by rw [HMO.out]; exact Nat.mod_lt _ (by omega)
              have hq2 : frI OWN.length j < M := by rw [HMO.out]; exact Nat.mod_lt _ (by omega)
              have c1 := (HB3.out.cell (p := ⟨b5, off5 + nrI OWN.length j, none⟩) HB5B.out).trans (HC5.out _ hq1)
              have c2 := (HB3.out.cell (p := ⟨b5, off5 + frI OWN.length j, none⟩) HB5B.out).trans (HC5.out _ hq2)
              obtain ⟨y1, hy1⟩ : ∃ y, y = OWN.getD (nrI OWN.length j) 0 := ⟨_, rfl⟩
              obtain ⟨y2, hy2⟩ : ∃ y, y = OWN.getD (frI OWN.length j) 0 := ⟨_, rfl⟩
              have HSVB : Hid (svB OWN j = (decide (y2 < y1) && decide (y0 < y1))) := by show _ = _; rw [svB, hy0, hy1, hy2]
              have HYES : Hid (svB OWN j = true → rndN ALL OWN (j + 1) = ((rndN ALL OWN j).1 ++ [x0], (rndN ALL OWN j).2 ++ [y1])) := fun h => by rw [rnd_yes h, hx0, hy1]
              have e1 : ((j : Int) + (M : Int) - 1) % (M : Int) = ((nrI OWN.length j : Nat) : Int) := by
                rw [HMO.out]
                unfold nrI
                rw [Int.natCast_emod]
                congr 1
                omega
              have e2 : ((j : Int) + (M : Int) - 2) % (M : Int) = ((frI OWN.length j : Nat) : Int) := by
                rw [HMO.out]
                unfold frI
                rw [Int.natCast_emod]
                congr 1
                omega
              have e3 : ((j : Int) + (M : Int) - 1).tmod (M : Int) = ((nrI OWN.length j : Nat) : Int) := by rw [Int.tmod_eq_emod_of_nonneg (by omega), e1]
              have e4 : ((j : Int) + (M : Int) - 2).tmod (M : Int) = ((frI OWN.length j : Nat) : Int) := by rw [Int.tmod_eq_emod_of_nonneg (by omega), e2]
              rw [← hx0] at ca
              rw [← hy0] at c0
              rw [← hy1] at c1
              rw [← hy2] at c2
              clear hx0 hy0 hy1 hy2
              generalize nrI OWN.length j = q1 at e1 e3 hq1 c1
              generalize frI OWN.length j = q2 at e2 e4 hq2 c2
              have hq1' : (q1 : Int) < (M : Int) := by omega
              have hq2' : (q2 : Int) < (M : Int) := by omega
              have hz : (M : Int) ≠ 0 := by omega
              have hzM : M ≠ 0 := by omega
              by_cases h21 : y2 < y1
              · by_cases h01 : y0 < y1
                · skip
                  have hsb : svB OWN j = true := by rw [HSVB.out]; simp [h21, h01]
                  have HY := Lib.hid (HYES.out hsb)
                  clear hsb
                  go_wp2_with fail
                  go_quiet (fail)
                  go_wp2_with
                    (first
                      | (at_builtin; refine wpList_pushAtE rfl (.tmp 72) (.tmp 74) 22 rfl 3 i0 Try.underlying22 hi hz0 hz1 hz2 _ W2.heap.size _ _ _ x0 rfl rfl (HPR.out.drewN _).fst rfl HPRL1.out (below_drewN HB3.out _).size ?_; intro v4 w4 hr4 hg4 hb4; have HP4 := Lib.hid ((HPR.out.drewN _).put1 hr4 hg4 hb4); have HB4 := Lib.hid ((below_drewN HB3.out _).grown hg4 (below_drewN HB3.out _).size (fun k hk => (World.ownsRow.lt HPR.out.fst k hk).1)); clear hr4 hg4 hb4)
                      | (at_builtin; refine wpList_pushAtE rfl (.tmp 76) (.tmp 78) 22 rfl 3 i0 Try.underlying22 hi hz0 hz1 hz2 _ W2.heap.size _ _ _ y1 rfl rfl HP4.out.snd rfl HPRL2.out HB4.out.size ?_; intro v5 w5 hr5 hg5 hb5; have HP5 := Lib.hid (HP4.out.put2 hr5 hg5 hb5); have HB5 := Lib.hid (HB4.out.grown hg5 HB4.out.size (fun k hk => (World.ownsRow.lt HP4.out.snd k hk).1)); clear hr5 hg5 hb5))
                  go_roundg g
                  case measure => omega
                  case rel => exact ⟨j + 1, by omega, by go_num, by rw [HY.out]; exact HP5.out, HB5.out⟩
                · skip
                  have hsb : svB OWN j = false := by rw [HSVB.out]; simp [h01]
                  have HNO := Lib.hid (rnd_no (all := ALL) hsb)
                  clear hsb
                  go_wp2_with fail
                  try go_quiet (fail)
                  go_wp2_with fail
                  go_roundg g
                  case measure => omega
                  case rel => exact ⟨j + 1, by omega, by go_num, by rw [HNO.out]; first | exact HPR.out | exact HPR.out.drewN _, by first | exact HB3.out | exact below_drewN HB3.out _⟩
              · skip
                have hsb : svB OWN j = false := by rw [HSVB.out]; simp [h21]
                have HNO := Lib.hid (rnd_no (all := ALL) hsb)
                clear hsb
                go_wp2_with fail
                try go_quiet (fail)
                go_wp2_with fail
                go_roundg g
                case measure => omega
                case rel => exact ⟨j + 1, by omega, by go_num, by rw [HNO.out]; first | exact HPR.out | exact HPR.out.drewN _, by first | exact HB3.out | exact below_drewN HB3.out _⟩
            | zero =>
              have hjM : j = M := by omega
              rw [hjM] at HPR ⊢
              have hz : ¬ ((M : Int) < (M : Int)) := by omega
              clear hjg hjM
              by_cases hM2 : M = 2
              · have HM2 := Lib.hid hM2
                have hM2b : ((M : Int) == 2) = true := by simp [hM2]
                clear hM2
                go_wp2_with fail
                go_loopg [8, 9, 85] M (fun g s8 s9 sx wx => ∃ j : Nat, j + g = M ∧ sx = .int .i64 j ∧ Hid (Pr wx W2.heap.size s8 s9 (rndN ALL OWN j).1 (rndN ALL OWN j).2) ∧ Hid (Below W2.heap.size W2 wx))
                case atStart => exact ⟨0, by omega, rfl, Pr.nil _ _, HB3.out⟩
                case round =>
                  obtain ⟨j, hjg, rfl, HPR, HB3⟩ := hrel
                  rename World => W3
                  cases gk with
                  | succ g =>
                    have hj : j < M := by omega
                    have hj' : (j : Int) < (M : Int) := by omega
                    have HPRL1 : Hid ((rndN ALL OWN j).1.length < 1000000000) := by
                      show _ < _
                      have := (rnd_len ALL OWN j).1
                      omega
                    have HPRL2 : Hid ((rndN ALL OWN j).2.length < 1000000000) := by
                      show _ < _
                      have := (rnd_len ALL OWN j).2
                      omega
                    have ca := (HB3.out.cell (p := ⟨b3, off3 + j, none⟩) HB3B.out).trans (HC3.out j hj)
                    have c0 := (HB3.out.cell (p := ⟨b5, off5 + j, none⟩) HB5B.out).trans (HC5.out j hj)
                    obtain ⟨x0, hx0⟩ : ∃ y, y = ALL.getD j 0 := ⟨_, rfl⟩
                    obtain ⟨y0, hy0⟩ : ∃ y, y = OWN.getD j 0 := ⟨_, rfl⟩
                    obtain ⟨hsv, hnr⟩ := svB_two (own := OWN) (by rw [HMO.out]; exact HM2.out) (j := j) (by have := HM2.out; omega)
                    have hq1 : 1 - j < M := by have := HM2.out; omega
                    have c1 := (HB3.out.cell (p := ⟨b5, off5 + (1 - j), none⟩) HB5B.out).trans (HC5.out _ hq1)
                    obtain ⟨y1, hy1⟩ : ∃ y, y = OWN.getD (1 - j) 0 := ⟨_, rfl⟩
                    have HSVB : Hid (svB OWN j = decide (y0 < y1)) := by show _ = _; rw [hsv, hy0, hy1]
                    have HYES : Hid (svB OWN j = true → rndN ALL OWN (j + 1) = ((rndN ALL OWN j).1 ++ [x0], (rndN ALL OWN j).2 ++ [y1])) := fun h => by rw [rnd_yes h, hx0, hnr, hy1]
                    have e1 : (1 : Int) - (j : Int) = ((1 - j : Nat) : Int) := by have := HM2.out; omega
                    rw [← hx0] at ca
                    rw [← hy0] at c0
                    rw [← hy1] at c1
                    clear hx0 hy0 hy1 hsv hnr
                    generalize 1 - j = q1 at e1 hq1 c1
                    have hq1' : (q1 : Int) < (M : Int) := by omega
                    by_cases h01 : y0 < y1
                    · skip
                      have hsb : svB OWN j = true := by rw [HSVB.out]; simp [h01]
                      have HY := Lib.hid (HYES.out hsb)
                      clear hsb
                      go_wp2_with
                        (first
                          | (at_builtin; refine wpList_pushAtE rfl (.tmp 101) (.tmp 103) 22 rfl 3 i0 Try.underlying22 hi hz0 hz1 hz2 _ W2.heap.size _ _ _ x0 rfl rfl HPR.out.fst rfl HPRL1.out HB3.out.size ?_; intro v4 w4 hr4 hg4 hb4; have HP4 := Lib.hid (HPR.out.put1 hr4 hg4 hb4); have HB4 := Lib.hid (HB3.out.grown hg4 HB3.out.size (fun k hk => (World.ownsRow.lt HPR.out.fst k hk).1)); clear hr4 hg4 hb4)
                          | (at_builtin; refine wpList_pushAtE rfl (.tmp 105) (.tmp 107) 22 rfl 3 i0 Try.underlying22 hi hz0 hz1 hz2 _ W2.heap.size _ _ _ y1 rfl rfl HP4.out.snd rfl HPRL2.out HB4.out.size ?_; intro v5 w5 hr5 hg5 hb5; have HP5 := Lib.hid (HP4.out.put2 hr5 hg5 hb5); have HB5 := Lib.hid (HB4.out.grown hg5 HB4.out.size (fun k hk => (World.ownsRow.lt HP4.out.snd k hk).1)); clear hr5 hg5 hb5))
                      go_roundg g
                      case measure => omega
                      case rel => exact ⟨j + 1, by omega, by go_num, by rw [HY.out]; exact HP5.out, HB5.out⟩
                    · skip
                      have hsb : svB OWN j = false := by rw [HSVB.out]; simp [h01]
                      have HNO := Lib.hid (rnd_no (all := ALL) hsb)
                      clear hsb
                      go_wp2_with fail
                      try go_quiet (fail)
                      go_wp2_with fail
                      go_roundg g
                      case measure => omega
                      case rel => exact ⟨j + 1, by omega, by go_num, by rw [HNO.out]; first | exact HPR.out | exact HPR.out.drewN _, by first | exact HB3.out | exact below_drewN HB3.out _⟩
                  | zero =>
                    have hjM : j = M := by omega
                    rw [hjM] at HPR ⊢
                    have hz : ¬ ((M : Int) < (M : Int)) := by omega
                    clear hjg hjM
                    have hrl := rnd_len ALL OWN M
                    have HOI1 := Lib.hid (OI.of_row HPR.out.fst)
                    have HOI2 := Lib.hid (OI.of_row HPR.out.snd)
                    have HX1 : Hid ((rndN ALL OWN M).1 = alL (apF l (p + 1)).1 l.length) := by
                      show _ = _
                      have h9 := rnd_all (apF l p).1 (apF l p).2 l.length
                      rw [← HOW.out, ← HAL.out, HMO.out] at h9
                      rw [h9]
                      rfl
                    have HX2 : Hid ((rndN ALL OWN M).2 = ownL (apF l (p + 1)).1 (apF l (p + 1)).2 l.length) := by
                      show _ = _
                      have h9 := rnd_all (apF l p).1 (apF l p).2 l.length
                      rw [← HOW.out, ← HAL.out, HMO.out] at h9
                      rw [h9]
                      rfl
                    obtain ⟨A8, c8, rfl, _, _⟩ := HOI1.out.ri
                    obtain ⟨A9, c9, rfl, _, _⟩ := HOI2.out.ri
                    have HOS5 := Lib.hid (HOS.out.step HB3.out (Nat.le_refl _))
                    have HBW5 := Lib.hid (HBW.out.trans (HB3.out.mono HBW.out.size))
                    have HS5 := Lib.hid HB3.out.size
                    clear hrl
                    go_wp2_with (at_builtin; go_loud (refine wpList_pushS2 rfl (.tmp 112) (.tmp 114) 23 rfl 22 3 (by decide) i1 Try.underlying23 hi1 ht0 ht1 ht2 _ w.heap.size W2.heap.size _ _ _ (srvT l p) _ rfl rfl HOS5.out HOI1.out HBW.out.size (Nat.le_refl _) HS5.out rfl HSL.out ?_); intro v6 w6 hos6 hwr6)
                    have HWR := Lib.hid hwr6
                    have HOS6 := Lib.hid hos6
                    clear hos6 hwr6
                    try go_wp2_with fail
                    go_roundg (l.length - (p + 1))
                    case measure => omega
                    case rel => exact ⟨p + 1, by omega, fun q hq => by
                        by_cases e : q = p
                        · rw [e]; exact HNM.out
                        · exact HQ.out q (by omega), by rw [← HX1.out]; exact (HOI1.out.far HWR.out (.inr (Nat.le_refl _))).ri.more HWR.out.size, by rw [← HX2.out]; exact (HOI2.out.far HWR.out (.inr (Nat.le_refl _))).ri.more HWR.out.size, by rw [srvT, ← HX1.out]; exact HOS6.out, HBW5.out.trans (HWR.out.below (Nat.le_refl _) (Nat.le_trans HBW.out.size HS5.out))⟩
              · have hM2b : ((M : Int) == 2) = false := by simp; omega
                have hrl := rnd_len ALL OWN M
                have HOI1 := Lib.hid (OI.of_row HPR.out.fst)
                have HOI2 := Lib.hid (OI.of_row HPR.out.snd)
                have HX1 : Hid ((rndN ALL OWN M).1 = alL (apF l (p + 1)).1 l.length) := by
                  show _ = _
                  have h9 := rnd_all (apF l p).1 (apF l p).2 l.length
                  rw [← HOW.out, ← HAL.out, HMO.out] at h9
                  rw [h9]
                  rfl
                have HX2 : Hid ((rndN ALL OWN M).2 = ownL (apF l (p + 1)).1 (apF l (p + 1)).2 l.length) := by
                  show _ = _
                  have h9 := rnd_all (apF l p).1 (apF l p).2 l.length
                  rw [← HOW.out, ← HAL.out, HMO.out] at h9
                  rw [h9]
                  rfl
                obtain ⟨A8, c8, rfl, _, _⟩ := HOI1.out.ri
                obtain ⟨A9, c9, rfl, _, _⟩ := HOI2.out.ri
                have HOS5 := Lib.hid (HOS.out.step HB3.out (Nat.le_refl _))
                have HBW5 := Lib.hid (HBW.out.trans (HB3.out.mono HBW.out.size))
                have HS5 := Lib.hid HB3.out.size
                clear hrl
                go_wp2_with (at_builtin; go_loud (refine wpList_pushS2 rfl (.tmp 112) (.tmp 114) 23 rfl 22 3 (by decide) i1 Try.underlying23 hi1 ht0 ht1 ht2 _ w.heap.size W2.heap.size _ _ _ (srvT l p) _ rfl rfl HOS5.out HOI1.out HBW.out.size (Nat.le_refl _) HS5.out rfl HSL.out ?_); intro v6 w6 hos6 hwr6)
                have HWR := Lib.hid hwr6
                have HOS6 := Lib.hid hos6
                clear hos6 hwr6
                try go_wp2_with fail
                go_roundg (l.length - (p + 1))
                case measure => omega
                case rel => exact ⟨p + 1, by omega, fun q hq => by
                    by_cases e : q = p
                    · rw [e]; exact HNM.out
                    · exact HQ.out q (by omega), by rw [← HX1.out]; exact (HOI1.out.far HWR.out (.inr (Nat.le_refl _))).ri.more HWR.out.size, by rw [← HX2.out]; exact (HOI2.out.far HWR.out (.inr (Nat.le_refl _))).ri.more HWR.out.size, by rw [srvT, ← HX1.out]; exact HOS6.out, HBW5.out.trans (HWR.out.below (Nat.le_refl _) (Nat.le_trans HBW.out.size HS5.out))⟩
        · have hge : ¬ ((1 : Int) < (M : Int)) := by omega
          have HP : Hid (rdN l = p) := rdN_is l p HQ.out (by rw [← HMN.out]; omega)
          go_wp2_with fail
          go_ret
          unfold RetSL
          exact ⟨_, rfl, by rw [HP.out]; exact HOS.out, HBW.out⟩

end Go.Proofs.Ytgmknndmmpoliaa
