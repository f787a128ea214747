/-
  The model's ring is made.
-/
import Derived.Test.YtehmhkbiofndaaaTickS
import Derived.Maps.AppendAt
import Derived.Deep.OwnRows
namespace Go.Proofs.Ytehmhkbiofndaaa
open Go.RowKit Go.Maps
set_option maxRecDepth 100000
set_option linter.unusedVariables false

theorem wpList_pushAt {P : Program} {w : World} {ops : Array Oper} {rest : List Oper} {o : Oper} {a : Act} {Q : Exit → Act → World → Prop} (hgd : o.guard = none) (s x : Operand) (t : TypeId)
    (ho : o.op = .call { callee := .builtin .append, args := #[s, x], argTypes := #[t, t] }) (E : TypeId) (i : TypeInfo) (ht : P.underlying t = some (.slice E)) (hi : P.info? E = some i)
    (hz0 : i.zero = some (.int .i64 0)) (hz1 : i.size = 1) (hz2 : i.bytes = 8) (W : World) (lo : Nat) (v : Value) (n : Nat) (l : List Int) (y : Int)
    (hw : w = W.alloc (.cells #[.int .i64 y] E)) (hs : a.eval s = v) (hacc : W.ownsRow lo E 1 v n (ics l)) (hx : a.eval x = .slice (some ⟨W.heap.size, 0, none⟩) 1 1) (hn : n < 1000000000) (hlo : lo ≤ W.heap.size)
    (h : ∀ v' w', w'.ownsRow lo E 1 v' (n + 1) (ics (l ++ [y])) → W.grownBy w' v.ownBlock → (v'.ownBlock = v.ownBlock ∨ ∃ b, v'.ownBlock = some b ∧ W.heap.size ≤ b) → wpList P ops Q rest (a.put o.dst v') w') : wpList P ops Q (o :: rest) a w := by
  subst hw
  have hown : (W.alloc (.cells #[.int .i64 y] E)).ownsRow lo E 1 v n (ics l) := World.ownsRow.alloc hacc _
  have hcl : lo ≤ (W.alloc (.cells #[.int .i64 y] E)).heap.size := by simp; omega
  refine wpList_append_own_at _ hgd s x t ho lo E i (.int .i64 0) 1 8 ht hi hz0 hz1 hz2 rfl (by decide) v n (ics l) hs hown ⟨W.heap.size, 0, none⟩ 1 1 [.int .i64 y] hx rfl ?_ ?_ (by unfold maxLen; omega) (by omega) hcl ?_
  · intro j u hj
    match j, hj with
    | 0, hj =>
      simp at hj
      subst hj
      rw [addr_add]
      simp
  · intro u hu
    simp at hu
    subst hu
    rfl
  · intro v' w' h1 h2 _ h4
    refine h v' w' ?_ ((World.grownBy_alloc W _ _).trans h2) ?_
    · have e : ics (l ++ [y]) = ics l ++ [.int .i64 y] := by simp [ics]
      rw [e]
      exact h1
    · rcases h4 with h4 | h4
      · exact .inl h4
      · exact .inr ⟨_, h4, by simp⟩
theorem BK.grown {w w' : World} {g : Nat} {t : TypeId} {cs : Array Value} {row : Option Nat} (h : BK w g t cs) (hg : w.grownBy w' row) (hne : some g ≠ row) : BK w' g t cs := ⟨Nat.lt_of_lt_of_le h.1 hg.size, (hg.block g h.1 hne).trans h.2⟩
theorem ownsRow_grown {w w' : World} {lo n : Nat} {E : TypeId} {v : Value} {xs : List Value} {row : Option Nat} (h : w.ownsRow lo E 1 v n xs) (hg : w.grownBy w' row) (hne : ∀ b, v.ownBlock = some b → some b ≠ row) : w'.ownsRow lo E 1 v n xs := by
  rcases h.2 with ⟨hv, hr⟩ | ⟨g, c, cur, hv, h1, h2, rest⟩
  · exact ⟨h.1, .inl ⟨hv, hr⟩⟩
  · refine ⟨h.1, .inr ⟨g, c, cur, hv, h1, ?_, rest⟩⟩
    have hlt : g < w.heap.size := (Array.getElem?_eq_some_iff.1 h2).1
    rw [hg.block g hlt (hne g (by rw [hv]; rfl))]
    exact h2
theorem own_in {w : World} {lo n b : Nat} {E : TypeId} {v : Value} {xs : List Value} (h : w.ownsRow lo E 1 v n xs) (hb : v.ownBlock = some b) : lo ≤ b ∧ b < w.heap.size := by
  rcases h.2 with ⟨hv, hr⟩ | ⟨g, c, cur, hv, h1, h2, rest⟩
  · subst hv; cases hb
  · subst hv
    have e : g = b := by injection hb
    subst e
    exact ⟨h1, (Array.getElem?_eq_some_iff.1 h2).1⟩
theorem below_grown {B : Nat} {w0 w w' : World} {row : Option Nat} (h : Below B w0 w) (hg : w.grownBy w' row) (hr : ∀ b, row = some b → B ≤ b) (hB : B ≤ w.heap.size) : Below B w0 w' := h.grown hg hB hr
theorem GV.of_row {w : World} {lo : Nat} {v : Value} {L : List Int} (h : w.ownsRow lo 3 1 v L.length (ics L)) (d : Nat) : ∃ b, GV w v b L ∧ ((v.ownBlock = none ∧ b = d) ∨ (v.ownBlock = some b ∧ lo ≤ b ∧ b < w.heap.size)) := by
  rcases h.2 with ⟨hv, hr⟩ | ⟨g, c, cur, hv, h1, h2, rest⟩
  · exact ⟨d, .inl ⟨List.eq_nil_of_length_eq_zero hr, hv⟩, .inl ⟨by rw [hv]; rfl, rfl⟩⟩
  · subst hv
    exact ⟨g, .inr ⟨c, rfl, RC.of h rfl⟩, .inr ⟨rfl, h1, (Array.getElem?_eq_some_iff.1 h2).1⟩⟩
theorem tab_const (v : Int) (n : Nat) : tab (fun _ => v) n = List.replicate n v := by
  unfold tab
  apply List.ext_getElem (by simp)
  intro i h1 h2
  simp
theorem rep_snoc (v : Int) (n : Nat) : List.replicate n v ++ [v] = List.replicate (n + 1) v := by rw [List.replicate_succ']

theorem ownB {g n c b : Nat} (h : (Value.slice (some ⟨g, 0, none⟩) n c).ownBlock = some b) : g = b := Option.some.inj (show some g = some b from h)
theorem own_slice {w : World} {lo n : Nat} {E : TypeId} {v : Value} {xs : List Value} (h : w.ownsRow lo E 1 v n xs) : ∃ a c, v = .slice a n c := by
  rcases h.2 with ⟨hv, hr⟩ | ⟨g, c, cur, hv, rest⟩
  · subst hr; exact ⟨_, _, hv⟩
  · exact ⟨_, _, hv⟩
/-- The model's ring while its ticks are laid. -/
structure NewI (w0 w : World) (n : Nat) (hh : Bool) (l : List Ms) (A : Option Addr) (c : Nat) (vf vr : Value) (a b : Nat) : Prop where
  run : BK w (w0.heap.size + 1 + 1) 56 #[.int .i64 n, .bool hh, .slice A l.length c, .slice (some ⟨w0.heap.size + 1, 0, none⟩) n n, vf, vr]
  slots : RC w (w0.heap.size + 1) n (List.replicate n 0)
  fil : w.ownsRow (w0.heap.size + 3) 3 1 vf a (ics (List.replicate a (-1)))
  rd : w.ownsRow (w0.heap.size + 3) 3 1 vr b (ics (List.replicate b (-1)))
  ne : ∀ k, vf.ownBlock = some k → vr.ownBlock ≠ some k
  bel : Below w0.heap.size w0 w
  big : w0.heap.size + 3 ≤ w.heap.size
theorem NewI.putF {w0 w w' : World} {n : Nat} {hh : Bool} {l : List Ms} {A : Option Addr} {c : Nat} {vf vr v' : Value} {a b : Nat} (h : NewI w0 w n hh l A c vf vr a b) (hr : w'.ownsRow (w0.heap.size + 3) 3 1 v' (a + 1) (ics (List.replicate a (-1) ++ [-1]))) (hg : w.grownBy w' vf.ownBlock) (hv : v'.ownBlock = vf.ownBlock ∨ ∃ b, v'.ownBlock = some b ∧ w.heap.size ≤ b) :
    BK w' (w0.heap.size + 1 + 1) 56 #[.int .i64 n, .bool hh, .slice A l.length c, .slice (some ⟨w0.heap.size + 1, 0, none⟩) n n, vf, vr] ∧ NewI w0 (w'.setCell ⟨w0.heap.size + 1 + 1, 4, none⟩ v') n hh l A c v' vr (a + 1) b := by
  have hne : ∀ g, g < w0.heap.size + 3 → some g ≠ vf.ownBlock := fun g hg e => by have := (own_in h.fil e.symm).1; omega
  have h1 := h.run.grown hg (hne _ (by omega))
  refine ⟨h1, ?_, ?_, ?_, ?_, ?_, ?_, ?_⟩
  · exact h1.put 4 v'
  · exact RC.other (ownsRow_grown h.slots hg (fun b hb => ownB hb ▸ hne _ (by omega))) _ _ (by simp)
  · rw [rep_snoc] at hr; exact ownsRow_setCell_below hr (by simp) _
  · exact ownsRow_setCell_below (ownsRow_grown h.rd hg (fun b hb e => h.ne b e.symm hb)) (by simp) _
  · intro k hk hk2
    rcases hv with hv | ⟨b1, hv, hb1⟩
    · exact h.ne k (hv ▸ hk) hk2
    · have h3 := (own_in h.rd hk2).2
      rw [hv] at hk
      injection hk with hk
      omega
  · exact (below_grown h.bel hg (fun b hb => by have := (own_in h.fil hb).1; omega) h.bel.size).setCell (by simp; omega) _
  · have := hg.size; have := h.big; simp [World.setCell]; omega
theorem NewI.putR {w0 w w' : World} {n : Nat} {hh : Bool} {l : List Ms} {A : Option Addr} {c : Nat} {vf vr v' : Value} {a b : Nat} (h : NewI w0 w n hh l A c vf vr a b) (hr : w'.ownsRow (w0.heap.size + 3) 3 1 v' (b + 1) (ics (List.replicate b (-1) ++ [-1]))) (hg : w.grownBy w' vr.ownBlock) (hv : v'.ownBlock = vr.ownBlock ∨ ∃ b, v'.ownBlock = some b ∧ w.heap.size ≤ b) :
    BK w' (w0.heap.size + 1 + 1) 56 #[.int .i64 n, .bool hh, .slice A l.length c, .slice (some ⟨w0.heap.size + 1, 0, none⟩) n n, vf, vr] ∧ NewI w0 (w'.setCell ⟨w0.heap.size + 1 + 1, 5, none⟩ v') n hh l A c vf v' a (b + 1) := by
  have hne : ∀ g, g < w0.heap.size + 3 → some g ≠ vr.ownBlock := fun g hg e => by have := (own_in h.rd e.symm).1; omega
  have h1 := h.run.grown hg (hne _ (by omega))
  refine ⟨h1, ?_, ?_, ?_, ?_, ?_, ?_, ?_⟩
  · exact h1.put 5 v'
  · exact RC.other (ownsRow_grown h.slots hg (fun b hb => ownB hb ▸ hne _ (by omega))) _ _ (by simp)
  · exact ownsRow_setCell_below (ownsRow_grown h.fil hg (fun b hb e => h.ne b hb e.symm)) (by simp) _
  · rw [rep_snoc] at hr; exact ownsRow_setCell_below hr (by simp) _
  · intro k hk hk2
    rcases hv with hv | ⟨b1, hv, hb1⟩
    · exact h.ne k hk (hv ▸ hk2)
    · have h3 := (own_in h.fil hk).2
      rw [hv] at hk2
      injection hk2 with hk2
      omega
  · exact (below_grown h.bel hg (fun b hb => by have := (own_in h.rd hb).1; omega) h.bel.size).setCell (by simp; omega) _
  · have := hg.size; have := h.big; simp [World.setCell]; omega
theorem NewI.done {w0 w : World} {n : Nat} {hh : Bool} {l : List Ms} {A : Option Addr} {c : Nat} {vf vr : Value} {a : Nat} (h : NewI w0 w n hh l A c vf vr a a) : ∃ fb qb, RP w0 (w0.heap.size + 1 + 1) (w0.heap.size + 1) fb qb ∧ GV w vf fb (List.replicate a (-1)) ∧ GV w vr qb (List.replicate a (-1)) := by
  have hf : w.ownsRow (w0.heap.size + 3) 3 1 vf (List.replicate a (-1 : Int)).length (ics (List.replicate a (-1))) := by rw [List.length_replicate]; exact h.fil
  have hr : w.ownsRow (w0.heap.size + 3) 3 1 vr (List.replicate a (-1 : Int)).length (ics (List.replicate a (-1))) := by rw [List.length_replicate]; exact h.rd
  obtain ⟨fb, g1, d1⟩ := GV.of_row hf w.heap.size
  obtain ⟨qb, g2, d2⟩ := GV.of_row hr (w.heap.size + 1)
  have hb := h.big
  have e1 : w0.heap.size + 3 ≤ fb ∧ fb ≤ w.heap.size := by rcases d1 with ⟨_, d1⟩ | ⟨_, d1, d3⟩ <;> omega
  have e2 : w0.heap.size + 3 ≤ qb := by rcases d2 with ⟨_, d2⟩ | ⟨_, d2, d3⟩ <;> omega
  have e3 : fb ≠ qb := by
    rcases d1 with ⟨_, d1⟩ | ⟨d0, d1, d3⟩ <;> rcases d2 with ⟨_, d2⟩ | ⟨d5, d2, d4⟩
    · omega
    · omega
    · omega
    · intro e
      subst e
      exact h.ne _ d0 d5
  exact ⟨fb, qb, ⟨by omega, by omega, by omega, by omega, by omega, by omega, by omega, by omega, by omega, e3⟩, g1, g2⟩
theorem NewI.start {w0 w1 w : World} {n : Nat} (hh : Bool) (l : List Ms) (A : Option Addr) (c : Nat) (hB : Below w0.heap.size w0 w1) (hz : w1.heap.size = w0.heap.size + 1) (hn : n ≤ 12)
    (hw : w = ((w1.alloc (.cells (madeCells #[Value.int IntKind.i64 0] n) 3)).alloc (.cells #[.int .i64 n, .bool hh, .slice A l.length c, .slice (some ⟨w0.heap.size + 1, 0, none⟩) n n, .slice none 0 0, .slice none 0 0] 56)).drew) :
    NewI w0 w n hh l A c (.slice none 0 0) (.slice none 0 0) 0 0 := by
  subst hw
  have h1 : RC (w1.alloc (.cells (madeCells #[Value.int IntKind.i64 0] n) 3)) w1.heap.size n (List.replicate n 0) := by
    have h := World.ownsRow_lit (base := w1.heap.size) (e := 3) (size := 1) w1 (madeCells #[Value.int IntKind.i64 0] n) n (Nat.le_refl _) (by unfold maxLen; omega) (by rw [size_madeCells]; simp)
    rw [toList_madeCells_one] at h
    exact RC.of (by simpa [ics] using h) (by simp)
  have h2 := BK.made (w1.alloc (.cells (madeCells #[Value.int IntKind.i64 0] n) 3)) 56 #[.int .i64 n, .bool hh, .slice A l.length c, .slice (some ⟨w0.heap.size + 1, 0, none⟩) n n, .slice none 0 0, .slice none 0 0]
  have h3 : (w1.alloc (.cells (madeCells #[Value.int IntKind.i64 0] n) 3)).heap.size = w0.heap.size + 1 + 1 := by simp [hz]
  have hd : ∀ (w : World), Below w.heap.size w w.drew := fun w => (Below.refl _ _).drew
  have h5 := h1.alloc (.cells #[.int .i64 n, .bool hh, .slice A l.length c, .slice (some ⟨w0.heap.size + 1, 0, none⟩) n n, .slice none 0 0, .slice none 0 0] 56)
  rw [hz] at h5
  rw [h3] at h2
  refine ⟨h2.step (hd _), h5.step (hd _), ⟨by simp [ics], .inl ⟨rfl, rfl⟩⟩, ⟨by simp [ics], .inl ⟨rfl, rfl⟩⟩, (fun k hk => by cases hk), ?_, ?_⟩
  · exact ((hB.alloc hB.size _).alloc (by simp [hz]; omega) _).drew
  · show _ ≤ (World.alloc _ _).heap.size
    simp [hz]

set_option maxHeartbeats 4000000 in
theorem slNew_any (x : Sr) (l : List Ms) (A : Option Addr) (c : Nat) (w : World) (hin : 2 ≤ x.n ∧ x.n ≤ 12) (hl20 : l.length ≤ 20) (hlc : l.length ≤ c) :
    Calls Try.prog 33 #[SrV x, .slice A l.length c] w fun e w' => ∃ g sb fb qb vf vr, e = .returned (.pointer (some ⟨g, 0, none⟩)) ∧ RP w g sb fb qb ∧ RunS w w' x l A c g sb fb qb vf vr ((swOf x l).S 0) ((swOf x l).F 0) ((swOf x l).Rd 0) := by
  have hS0 : ∀ k, (swOf x l).S 0 k = 0 := fun _ => rfl
  have hF0 : ∀ i, (swOf x l).F 0 i = -1 := fun _ => rfl
  have hR0 : ∀ i, (swOf x l).Rd 0 i = -1 := fun i => by unfold Sw.Rd; rw [hF0, if_neg (by omega)]
  have HZ : Hid (∀ (w' : World) g sb fb qb vf vr, BK w' g 56 #[.int .i64 x.n, .bool x.h, .slice A l.length c, .slice (some ⟨sb, 0, none⟩) x.n.toNat x.n.toNat, vf, vr] → RC w' sb x.n.toNat (List.replicate x.n.toNat 0) → GV w' vf fb (List.replicate l.length (-1)) → GV w' vr qb (List.replicate l.length (-1)) → Below w.heap.size w w' → RunS w w' x l A c g sb fb qb vf vr ((swOf x l).S 0) ((swOf x l).F 0) ((swOf x l).Rd 0)) := by
    intro w' g sb fb qb vf vr h1 h2 h3 h4 h5
    refine ⟨h1, ?_, ?_, ?_, h5⟩
    · rw [tab_congr (G := fun _ => 0) (fun k _ => by rw [hS0]; rfl), tab_const]; exact h2
    · rw [tab_congr (G := fun _ => -1) (fun k _ => hF0 k), tab_const]; exact h3
    · rw [tab_congr (G := fun _ => -1) (fun k _ => hR0 k), tab_const]; exact h4
  clear hS0 hF0 hR0
  obtain ⟨k, hh⟩ := x
  simp only [SrV] at hin HZ ⊢
  obtain ⟨n, hN⟩ : ∃ n : Nat, n = k.toNat := ⟨_, rfl⟩
  have hk : k = (n : Int) := by omega
  subst hk
  have hn12 : (n : Int) ≤ 12 ∧ 2 ≤ (n : Int) := by omega
  simp only [Int.toNat_natCast] at HZ
  clear hN
  have hl2 : (l.length : Int) ≤ 20 := by omega
  obtain ⟨i0, hi, hz0, hz1', hz2⟩ := info_parts int_info
  have hW : Below w.heap.size w (w.alloc (.cells #[.int .i64 (n : Int), .bool hh] 25)) := (Below.refl _ _).alloc (Nat.le_refl _) _
  go_enter Try.func33, Try.ntmps33
  go_upto_region 1 with fail
  have b0 : (w.alloc (.cells #[.int .i64 (n : Int), .bool hh] 25)).cell? ⟨w.heap.size, 0, none⟩ = some (.int .i64 (n : Int)) := by simp
  have b1 : (w.alloc (.cells #[.int .i64 (n : Int), .bool hh] 25)).cell? ⟨w.heap.size, 1, none⟩ = some (.bool hh) := by simp
  have hz3 : (w.alloc (.cells #[.int .i64 (n : Int), .bool hh] 25)).heap.size = w.heap.size + 1 := by simp
  generalize w.alloc (.cells #[.int .i64 (n : Int), .bool hh] 25) = w1 at *
  have hmk := run_make_row (P := Try.prog) 29 3 i0 _ Try.underlying29 hi hz0 hz1' rfl .i64 .i64 n (by rw [hz2]; omega) (by omega)
  go_region
  have HN0 := Lib.hid (NewI.start (n := n) hh l A c hW hz3 (by omega) rfl)
  clear hW b0 b1 hz3 hmk
  generalize World.drew _ = w3 at *
  go_wp2_with fail
  go_loopw [15] (fun i wr => ∃ (j : Nat) (vf vr : Value), j ≤ l.length ∧ i = .int .i64 j ∧ NewI w wr n hh l A c vf vr j j) (fun i _ => l.length - (intOf i).toNat)
  case atStart => exact ⟨0, _, _, Nat.zero_le _, rfl, HN0.out⟩
  case round =>
    clear HN0
    obtain ⟨j, vf, vr, hj, rfl, hI⟩ := hrel
    have HI := Lib.hid hI
    clear hI
    by_cases hlt : j < l.length
    · have hji : (j : Int) < (l.length : Int) := by omega
      have c4 := HI.out.run.cell 4
      simp only [List.getElem?_toArray, List.getElem?_cons_zero, List.getElem?_cons_succ] at c4
      go_upto_region 5 with (at_builtin; refine wpList_pushAt rfl _ _ _ rfl 3 i0 Try.underlying29 hi hz0 hz1' hz2 wr (w.heap.size + 3) _ _ _ (-1) rfl rfl HI.out.fil rfl (by omega) HI.out.big ?_; intro v2 w2 hr2 hg2 hb2; obtain ⟨a2, c2, hv2⟩ := own_slice hr2; subst hv2; obtain ⟨h5, h6⟩ := HI.out.putF hr2 hg2 hb2; have HI2 := Lib.hid h6; have x4 := h5.cell 4; have y4 := h5.free 4; simp only [List.getElem?_toArray, List.getElem?_cons_zero, List.getElem?_cons_succ] at x4; clear h5 h6 hr2 hg2 hb2)
      clear c4 x4 y4
      generalize World.setCell _ _ _ = w4 at *
      have c5 := HI2.out.run.cell 5
      simp only [List.getElem?_toArray, List.getElem?_cons_zero, List.getElem?_cons_succ] at c5
      go_wp2_with (at_builtin; refine wpList_pushAt rfl _ _ _ rfl 3 i0 Try.underlying29 hi hz0 hz1' hz2 w4 (w.heap.size + 3) _ _ _ (-1) rfl rfl HI2.out.rd rfl (by omega) HI2.out.big ?_; intro v3 w5 hr3 hg3 hb3; obtain ⟨a3, c3, hv3⟩ := own_slice hr3; subst hv3; obtain ⟨h5, h6⟩ := HI2.out.putR hr3 hg3 hb3; have HI3 := Lib.hid h6; have x5 := h5.cell 5; have y5 := h5.free 5; simp only [List.getElem?_toArray, List.getElem?_cons_zero, List.getElem?_cons_succ] at x5; clear h5 h6 hr3 hg3 hb3)
      go_roundw
      case rel => exact ⟨j + 1, _, _, by omega, by go_num, HI3.out⟩
      case measure => simp [intOf]; omega
    · obtain rfl : j = l.length := by omega
      obtain ⟨fb, qb, hp, hf, hr⟩ := HI.out.done
      have HR := Lib.hid (HZ.out wr _ _ fb qb vf vr HI.out.run HI.out.slots hf hr HI.out.bel)
      have HP := Lib.hid hp
      clear hf hr hp HI
      go_wp2_with fail
      go_ret
      exact ⟨_, _, fb, qb, vf, vr, rfl, HP.out, HR.out⟩
end Go.Proofs.Ytehmhkbiofndaaa
