/-
  The links with free slots are made.
-/
import Derived.Test.YtehmhkbiofndaaaLinks
namespace Go.Proofs.Ytehmhkbiofndaaa
open Go.RowKit Go.Conc Go.Maps
set_option maxRecDepth 100000
set_option linter.unusedVariables false

theorem slBytes : ∃ i, Try.prog.info? 78 = some i ∧ i.bytes = 24 := by
  have h : (Try.prog.info? 78).map (·.bytes) = some 24 := by kernel_rfl
  obtain ⟨i, hi, hb⟩ := Option.map_eq_some_iff.1 h
  exact ⟨i, hi, hb⟩
theorem mkChan2 (w : World) : (Instr.makeChan 76 (.int .i64 2)).run Try.prog w = .ok (.chan (some w.heap.size)) (w.alloc (.chan 2 #[] false 0 0 false)) := by
  obtain ⟨i, hi, hb⟩ := slBytes
  simpa using run_makeChan (P := Try.prog) (w := w) Try.underlying76 hi .i64 2 (by omega) (by rw [hb]; omega)
theorem chan_info : (Try.prog.info? 76).map (fun i => (i.zero, i.size, i.bytes)) = some (some (.chan none), 1, 8) := by kernel_rfl
theorem rowBK {w : World} {lo g n : Nat} {E : TypeId} {xs : List Value} (h : w.ownsRow lo E 1 (.slice (some ⟨g, 0, none⟩) n n) n xs) : ∃ cur : Array Value, BK w g E cur ∧ cur.size = n := by
  obtain ⟨_, h2, _, _, cur, h5, h6, _⟩ := row_parts h
  exact ⟨cur, ⟨h2, h5⟩, by omega⟩
/-- So far. -/
structure FreeTo (w0 w : World) (n bl s : Nat) (l : List Ms) (cur : Array Value) (cs : Nat → Nat) : Prop where
  row : BK w bl 76 cur
  size : cur.size = n
  cell : ∀ j, j < s → cur[j]? = some (.chan (some (cs j)))
  inj : ∀ i j, i < s → j < s → cs i = cs j → i = j
  low : ∀ j, j < s → w0.heap.size ≤ cs j ∧ cs j ≠ bl
  ch : ∀ j, j < s → ∃ s' r, w.heap[cs j]? = some (.chan 2 #[slotV l 0] false s' r false)
  bel : Below w0.heap.size w0 w
theorem FreeTo.next {w0 w : World} {n bl s : Nat} {l : List Ms} {cur : Array Value} {cs : Nat → Nat} (h : FreeTo w0 w n bl s l cur cs) (hs : s < n) (hbl : w0.heap.size ≤ bl) (c s' r : Nat) (hc : c = w.heap.size) :
    FreeTo w0 (((w.alloc (.chan 2 #[] false 0 0 false)).setCell ⟨bl, s, none⟩ (.chan (some c))).setChan c 2 #[slotV l 0] false s' r false) n bl (s + 1) l (cur.setIfInBounds s (.chan (some c))) (fun j => if j = s then c else cs j) := by
  subst hc
  have hlt := h.row.1
  have hsz : ((w.alloc (.chan 2 #[] false 0 0 false)).setCell ⟨bl, s, none⟩ (.chan (some w.heap.size))).heap.size = w.heap.size + 1 := by simp [World.setCell]
  have old : ∀ j, j < s → cs j < w.heap.size := fun j hj => by
    obtain ⟨s1, r1, h1⟩ := h.ch j hj
    exact (Array.getElem?_eq_some_iff.1 h1).1
  refine ⟨?_, by simpa using h.size, ?_, ?_, ?_, ?_, ?_⟩
  · refine BK.far (a := w.heap.size) (b := w.heap.size + 1) ((h.row.alloc (.chan 2 #[] false 0 0 false)).put s (.chan (some w.heap.size))) (Wr.setChan (Wr.refl _ _ _) (.inr ⟨Nat.le_refl _, Nat.lt_succ_self _⟩) _ _ _ _ _ _) (.inl hlt)
  · intro j hj
    rw [Array.getElem?_setIfInBounds]
    by_cases e : s = j
    · subst e
      rw [if_pos rfl, if_pos (by rw [h.size]; exact hs), if_pos rfl]
    · rw [if_neg e, if_neg (fun h => e h.symm)]
      exact h.cell j (by omega)
  · intro i j hi hj e
    by_cases e1 : i = s
    · by_cases e2 : j = s
      · omega
      · rw [if_pos e1, if_neg e2] at e
        have := old j (by omega)
        omega
    · by_cases e2 : j = s
      · rw [if_neg e1, if_pos e2] at e
        have := old i (by omega)
        omega
      · rw [if_neg e1, if_neg e2] at e
        exact h.inj i j (by omega) (by omega) e
  · intro j hj
    by_cases e1 : j = s
    · rw [if_pos e1]
      exact ⟨h.bel.size, by omega⟩
    · rw [if_neg e1]
      exact h.low j (by omega)
  · intro j hj
    by_cases e1 : j = s
    · rw [if_pos e1]
      exact ⟨s', r, heap_setChan _ _ _ _ _ _ _ _ (by rw [hsz]; omega)⟩
    · rw [if_neg e1]
      obtain ⟨s1, r1, h1⟩ := h.ch j (by omega)
      have h2 := old j (by omega)
      have h3 := (h.low j (by omega)).2
      refine ⟨s1, r1, ?_⟩
      rw [setChan_block _ _ _ _ _ _ _ _ _ (by omega)]
      have : (w.alloc (.chan 2 #[] false 0 0 false)).heap[cs j]? = w.heap[cs j]? := (MapKept.heap_alloc w _).2 _ h2
      rw [← h1, ← this]
      unfold World.setCell
      have h4 : bl ≠ cs j := fun e => h3 e.symm
      simp [Array.getElem?_modify, h4]
  · exact below_setChan ((h.bel.alloc h.bel.size _).setCell (p := ⟨bl, s, none⟩) hbl _) h.bel.size _ _ _ _ _ _

theorem setCell_alloc5 (w : World) (o : Obj) (p : Addr) (v : Value) (hp : p.block < w.heap.size) : (w.setCell p v).alloc o = (w.alloc o).setCell p v := by
  unfold World.setCell World.alloc
  congr 1
  simp only
  apply Array.ext_getElem?
  intro i
  rw [Array.getElem?_modify]
  rw [Array.getElem?_push, Array.getElem?_push, Array.getElem?_modify, Array.size_modify]
  by_cases e : i = w.heap.size
  · rw [if_pos e, if_pos e, if_neg (by omega)]
  · rw [if_neg e, if_neg e]
set_option maxHeartbeats 2000000 in
theorem linksWithFree_any (x : Sr) (l : List Ms) (w : World) (hin : 2 ≤ x.n ∧ x.n ≤ 12) : Calls Try.prog 44 #[SrV x] w fun e w' => ∃ (bl : Nat) (cs : Nat → Nat), e = .returned (.slice (some ⟨bl, 0, none⟩) x.n.toNat x.n.toNat) ∧ w.heap.size ≤ bl ∧ (∀ j, j < x.n.toNat → w.heap.size ≤ cs j) ∧ Links w' x.n.toNat bl cs (fun _ => [0]) l ∧ Below w.heap.size w w' := by
  obtain ⟨k, hh⟩ := x
  simp only [SrV] at hin ⊢
  obtain ⟨n, hN⟩ : ∃ n : Nat, n = k.toNat := ⟨_, rfl⟩
  have hk : k = (n : Int) := by omega
  have hn12 : (n : Int) ≤ 12 ∧ 2 ≤ (n : Int) := by omega
  rw [← hN]
  subst hk
  clear hN
  have hW : Below w.heap.size w (w.alloc (.cells #[.int .i64 (n : Int), .bool hh] 25)) := (Below.refl _ _).alloc (Nat.le_refl _) _
  have hz1 : w.heap.size + 1 = (w.alloc (.cells #[.int .i64 (n : Int), .bool hh] 25)).heap.size := by simp
  obtain ⟨i0, hi, hz0, hz1', hz2⟩ := info_parts chan_info
  have hmc := mkChan2
  go_enter Try.func44, Try.ntmps44
  go_wp2_with (at_make; refine wpList_make_full _ rfl _ _ 74 rfl (w.heap.size + 1) 76 i0 _ 1 Try.underlying74 hi hz0 hz1' _ _ _ _ n rfl rfl rfl rfl (by rw [hz2]; omega) (by unfold maxLen; omega) (by simp) ?_; intro w2 hown hg2)
  have hbl : (w.alloc (.cells #[.int .i64 (n : Int), .bool hh] 25)).heap.size = w.heap.size + 1 := by simp
  rw [hbl] at hown ⊢
  have hb2 : Below w.heap.size w w2 := hW.grown hg2 (by omega) (by intro k hk; cases hk)
  obtain ⟨cur, hrow, hsz⟩ := rowBK hown
  have HF0 : Hid (FreeTo w w2 n (w.heap.size + 1) 0 l cur (fun _ => 0)) := ⟨hrow, hsz, fun j hj => absurd hj (Nat.not_lt_zero _), fun i j hi => absurd hi (Nat.not_lt_zero _), fun j hj => absurd hj (Nat.not_lt_zero _), fun j hj => absurd hj (Nat.not_lt_zero _), hb2⟩
  obtain ⟨bl, hbl2⟩ : ∃ bl, bl = w.heap.size + 1 := ⟨_, rfl⟩
  rw [← hbl2] at HF0 ⊢
  have hbw : w.heap.size ≤ bl := by omega
  clear hown hg2 hrow hsz hb2 hW hz1 hbl hbl2 hz0 hz1' hz2 hi
  go_wp2_with fail
  go_loopw [10] (fun i wr => ∃ (s : Nat) (cur : Array Value) (cs : Nat → Nat), s ≤ n ∧ i = .int .i64 s ∧ FreeTo w wr n bl s l cur cs) (fun i _ => n - (intOf i).toNat)
  case atStart => exact ⟨0, _, _, Nat.zero_le _, rfl, HF0.out⟩
  case round =>
    clear HF0
    obtain ⟨s, cur, cs, hs, rfl, hF⟩ := hrel
    by_cases hlt : s < n
    · have hsI : (s : Int) < (n : Int) := by omega
      have hNX := fun c s' r hc => hF.next hlt hbw c s' r hc
      simp only [← setCell_alloc5 wr (.chan 2 #[] false 0 0 false) ⟨bl, s, none⟩ _ hF.row.1] at hNX
      obtain ⟨w3, hw3⟩ : ∃ w3, w3 = (wr.alloc (.chan 2 #[] false 0 0 false)).setCell ⟨bl, s, none⟩ (.chan (some wr.heap.size)) := ⟨_, rfl⟩
      have hc3 : w3.cell? ⟨bl, s, none⟩ = some (.chan (some wr.heap.size)) := by
        rw [hw3]
        have := ((hF.row.alloc (.chan 2 #[] false 0 0 false)).put s (.chan (some wr.heap.size))).cell s
        rw [this, Array.getElem?_setIfInBounds, if_pos rfl, if_pos (by rw [hF.size]; exact hlt)]
      have hh3 : w3.heap[wr.heap.size]? = some (.chan 2 #[] false 0 0 false) := by
        rw [hw3, ← setCell_alloc5 wr _ ⟨bl, s, none⟩ _ hF.row.1]
        have := heap_alloc_new (wr.setCell ⟨bl, s, none⟩ (.chan (some wr.heap.size))) (.chan 2 #[] false 0 0 false)
        have e : (wr.setCell ⟨bl, s, none⟩ (.chan (some wr.heap.size))).heap.size = wr.heap.size := by simp [World.setCell]
        rw [e] at this
        exact this
      have hc1 : ∃ u, wr.cell? ⟨bl, s, none⟩ = some u := by
        rw [hF.row.cell s]
        exact ⟨_, Array.getElem?_eq_getElem (by rw [hF.size]; exact hlt)⟩
      obtain ⟨u, hc1⟩ := hc1
      have hf1 := hF.row.free s
      have hlb := hF.row.1
      rw [← setCell_alloc5 wr _ ⟨bl, s, none⟩ _ hF.row.1] at hw3
      have HW3 := Lib.hid hw3
      have HNX := Lib.hid hNX
      clear hF hNX hw3
      go_upto_region 6 with fail
      rw [← HW3.out]
      refine wp_region_sem ?_
      show SemOps _ _ _ [0, 1, 2, 3, 4, 5] _ _
      refine SemOps.value (v := .slice (some ⟨bl, 0, none⟩) n n) (w' := w3) rfl rfl (by simp [go_sem]) ?_
      walk_nrm
      refine SemOps.value (v := .int .i64 (s : Int)) (w' := w3) rfl rfl (by simp [go_sem]) ?_
      walk_nrm
      refine SemOps.value (v := .pointer (some ⟨bl, s, none⟩)) (w' := w3) rfl rfl (by simp [go_sem, hlt]) ?_
      walk_nrm
      refine SemOps.value (v := .chan (some wr.heap.size)) (w' := w3) rfl rfl (by simp [go_sem, hc3]) ?_
      walk_nrm
      refine SemOps.value (v := .agg #[.int .i64 0, .int .i64 0, .int .i64 0]) (w' := w3) rfl rfl (by simp [go_sem]) ?_
      walk_nrm
      refine SemOps.send (c := wr.heap.size) (v := .agg #[.int .i64 0, .int .i64 0, .int .i64 0]) (z := .tuple #[]) (w' := w3) rfl rfl (by simp [go_sem, scase]) hh3 (by simp) ?_
      walk_nrm
      refine SemOps.nil ?_
      have HN := HNX.out wr.heap.size 1 0 rfl
      rw [← HW3.out] at HN
      have HN2 : Hid (FreeTo w (w3.setChan wr.heap.size 2 #[.agg #[.int .i64 0, .int .i64 0, .int .i64 0]] false 1 0 false) n bl (s + 1) l (cur.setIfInBounds s (.chan (some wr.heap.size))) (fun j => if j = s then wr.heap.size else cs j)) := HN
      generalize w3.setChan wr.heap.size 2 #[.agg #[.int .i64 0, .int .i64 0, .int .i64 0]] false 1 0 false = w4 at HN2 ⊢
      clear HN hh3 hc3 HNX HW3 hc1 hf1
      simp only [Exit.inBlock, Exit.then]
      refine ‹∀ (a : Act) (w : World), _ → _› _ _ ?_
      go_wp2_with fail
      go_roundw
      case rel => exact ⟨s + 1, _, _, by omega, by go_num, HN2.out⟩
      case measure => simp [intOf]; omega
    · obtain rfl : s = n := by omega
      have HR : Hid (Links wr s bl cs (fun _ => [0]) l) := ⟨hF.inj, fun j hj => (hF.low j hj).2, fun j hj => by rw [hF.row.cell j]; exact hF.cell j hj, fun j hj => hF.ch j hj⟩
      have HL := Lib.hid hF.low
      have HB := Lib.hid hF.bel
      clear hF
      go_wp2_with fail
      go_ret
      exact ⟨bl, cs, rfl, hbw, fun j hj => (HL.out j hj).1, HR.out, HB.out⟩
end Go.Proofs.Ytehmhkbiofndaaa
