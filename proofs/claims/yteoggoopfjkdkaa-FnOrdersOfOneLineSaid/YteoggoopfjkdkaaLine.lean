/-
  A line: its cells, a copy of the jobs, a line for jobs, a turn that begins anew.
-/
import Derived.Test.YteoggoopfjkdkaaJobs
import Derived.Test.YteoggoopfjkdkaaAcc
import Derived.RegionTactic
import Derived.BigRegion
namespace Go.Proofs.Yteoggoopfjkdkaa
open Go.RowKit
set_option maxRecDepth 100000
set_option linter.unusedVariables false

theorem Wr.at {g : Nat} {a w : World} (h : Wr g (g + 1) a w) (i : Nat) (u : Value) : Wr g (g + 1) a (w.setCell ⟨g, i, none⟩ u) := h.setCell (p := ⟨g, i, none⟩) (Nat.le_refl g) (Nat.lt_succ_self g) u
theorem BK.under {w w' : World} {g B : Nat} {t : TypeId} {cs : Array Value} (h : BK w g t cs) (hg : g < B) (hb : Below B w w') : BK w' g t cs := ⟨Nat.lt_of_lt_of_le h.1 hb.size, (hb.block g hg).trans h.2⟩
set_option maxHeartbeats 1000000 in
theorem cloneJb_any (v : Value) (l : List Jb) (w : World) (h : RJbS w w.heap.size v l) (hn : l.length ≤ 1048576) :
    Calls Try.prog 58 #[v] w (RetJbS w l) := by
  obtain ⟨A, c, rfl, hfl, hlc, hc⟩ := h
  obtain ⟨i0, hi, hz0, hz1, hz2⟩ := info_parts job_info
  rcases A with _ | ad
  · have hnil : l = [] := by
      rcases Nat.eq_zero_or_pos l.length with h0 | h0
      · exact List.eq_nil_of_length_eq_zero h0
      · obtain ⟨b, off, hA, _⟩ := hc h0
        cases hA
    subst hnil
    obtain rfl : c = 0 := hlc.2.2 rfl
    have he := fun (wx : World) => Lib.run_eql_slice_nil (P := Try.prog) wx 24 43 none 0 0 0 0 Try.underlying24
    clear hfl hc
    go_enter Try.func58, Try.ntmps58
    go_wp2
    go_ret
    exact ⟨_, rfl, OK.nil _ _ _ _ _, Below.refl _ _⟩
  · have he := fun (wx : World) => Lib.run_eql_slice_nil (P := Try.prog) wx 24 43 (some ad) l.length c 0 0 Try.underlying24
    have hcell : ∀ j u, (ics (flatJb l))[j]? = some u → (w.alloc (.cells #[] 43)).cell? (ad.add j) = some u := by
      intro j u hj
      have hjl : j < l.length * 3 := by
        rcases Nat.lt_or_ge j (l.length * 3) with h | h
        · exact h
        · rw [List.getElem?_eq_none (by rw [ics_length, hfl]; omega)] at hj; cases hj
      obtain ⟨b, off, hA, hb, hcl⟩ := hc (by omega)
      injection hA with hA
      subst hA
      rw [ics_get _ j (by omega)] at hj
      injection hj with hj
      rw [addr_add, World.cell?_alloc_lt w _ _ hb, hcl j hjl, hj]
    have hown : (w.alloc (.cells #[] 43)).ownsRow w.heap.size 43 3 (.slice (some ⟨w.heap.size, 0, none⟩) 0 0) 0 [] := World.ownsRow_made w #[] 0 (Nat.le_refl _) (by simp) rfl
    have hlen := ics_length (flatJb l)
    have HL := Lib.hid hlen
    have HFL := Lib.hid hfl
    clear hlen hfl hc
    go_enter Try.func58, Try.ntmps58
    go_wp2_with (at_builtin; refine wpList_append_own _ rfl _ _ 24 rfl w.heap.size 43 i0 (.agg #[.int .i64 0, .int .i64 0, .int .i64 0]) 3 24 Try.underlying24 hi hz0 hz1 hz2 rfl (by decide) (.slice (some ⟨w.heap.size, 0, none⟩) 0 0) 0 [] rfl hown ad l.length c (ics (flatJb l)) rfl (by rw [HL.out, HFL.out]) hcell (ics_oneCell _) (by unfold maxLen; omega) (by omega) (by simp) ?_; intro v1 w1 hown1 hg1 _)
    go_ret
    have e1 : 0 + l.length = l.length := by omega
    rw [e1, List.nil_append] at hown1
    exact ⟨_, rfl, OK.of_row HFL.out hown1, ((Below.refl _ _).alloc (Nat.le_refl _) _).grown hg1 (by simp) (fun k hk => Nat.le_of_eq (by simpa [Value.ownBlock] using hk))⟩

/-- The cells of a line. -/
structure LC (cs : Array Value) (tick : Int) (v : Value) (step tc : Int) (tb : Bool) (gr pr : Value) (cr : Nat → Int) : Prop where
  size : cs.size = 15
  tick : cs[0]? = some (.int .i64 tick)
  left : cs[1]? = some v
  step : cs[2]? = some (.int .i64 step)
  tc : cs[3]? = some (.int .i64 tc)
  tb : cs[4]? = some (.bool tb)
  gr : cs[5]? = some gr
  pr : cs[6]? = some pr
  cr : ∀ i, i < 8 → cs[7 + i]? = some (.int .i64 (cr i))
/-- .. behind 'beginAnew'. -/
def anew (cs : Array Value) : Array Value :=
  (((((((((cs.setIfInBounds 7 (.int .i64 0)).setIfInBounds 8 (.int .i64 0)).setIfInBounds 9 (.int .i64 0)).setIfInBounds 10 (.int .i64 0)).setIfInBounds 11 (.int .i64 0)).setIfInBounds 12 (.int .i64 0)).setIfInBounds 13 (.int .i64 0)).setIfInBounds 14 (.int .i64 0)).setIfInBounds 3 (.int .i64 7)).setIfInBounds 4 (.bool false)
theorem LC.anew {cs : Array Value} {tick : Int} {v : Value} {step tc : Int} {tb : Bool} {gr pr : Value} {cr : Nat → Int} (h : LC cs tick v step tc tb gr pr cr) : LC (anew cs) tick v step 7 false gr pr (fun _ => 0) := by
  have hs := h.size
  refine ⟨by simp [Proofs.Yteoggoopfjkdkaa.anew, hs], ?_, ?_, ?_, ?_, ?_, ?_, ?_, ?_⟩
  · simp [Proofs.Yteoggoopfjkdkaa.anew, h.tick]
  · simp [Proofs.Yteoggoopfjkdkaa.anew, h.left]
  · simp [Proofs.Yteoggoopfjkdkaa.anew, h.step]
  · simp [Proofs.Yteoggoopfjkdkaa.anew, hs]
  · simp [Proofs.Yteoggoopfjkdkaa.anew, hs]
  · simp [Proofs.Yteoggoopfjkdkaa.anew, h.gr]
  · simp [Proofs.Yteoggoopfjkdkaa.anew, h.pr]
  · intro i hi
    have : i = 0 ∨ i = 1 ∨ i = 2 ∨ i = 3 ∨ i = 4 ∨ i = 5 ∨ i = 6 ∨ i = 7 := by omega
    rcases this with rfl | rfl | rfl | rfl | rfl | rfl | rfl | rfl <;> simp [Proofs.Yteoggoopfjkdkaa.anew, hs]
set_option maxHeartbeats 1000000 in
theorem beginAnew_any (g : Nat) (cs : Array Value) (tick : Int) (v : Value) (step tc : Int) (tb : Bool) (gr pr : Value) (cr : Nat → Int) (w : World)
    (h : BK w g 65 cs) (hl : LC cs tick v step tc tb gr pr cr) :
    Calls Try.prog 59 #[.pointer (some ⟨g, 3, none⟩)] w fun e w' => e = .returned (.tuple #[]) ∧ BK w' g 65 (anew cs) ∧ Wr g (g + 1) w w' := by
  have c3 := (h.cell 3).trans hl.tc
  have c4 := (h.cell 4).trans hl.tb
  have d0 := (h.cell 7).trans (hl.cr 0 (by omega))
  have d1 := (h.cell 8).trans (hl.cr 1 (by omega))
  have d2 := (h.cell 9).trans (hl.cr 2 (by omega))
  have d3 := (h.cell 10).trans (hl.cr 3 (by omega))
  have d4 := (h.cell 11).trans (hl.cr 4 (by omega))
  have d5 := (h.cell 12).trans (hl.cr 5 (by omega))
  have d6 := (h.cell 13).trans (hl.cr 6 (by omega))
  have d7 := (h.cell 14).trans (hl.cr 7 (by omega))
  have f3 := h.free 3
  have f4 := h.free 4
  have f7 := h.free 7
  have f8 := h.free 8
  have f9 := h.free 9
  have f10 := h.free 10
  have f11 := h.free 11
  have f12 := h.free 12
  have f13 := h.free 13
  have f14 := h.free 14
  have HB := Lib.hid h
  have HL := Lib.hid hl
  clear h hl
  go_enter Try.func59, Try.ntmps59
  go_wp2_with fail
  go_end0
  refine ⟨rfl, ?_, ?_⟩
  · exact (((((((((HB.out.put 7 _).put 8 _).put 9 _).put 10 _).put 11 _).put 12 _).put 13 _).put 14 _).put 3 _).put 4 _
  · exact ((((((((((Wr.refl g (g + 1) w).at 7 _).at 8 _).at 9 _).at 10 _).at 11 _).at 12 _).at 13 _).at 14 _).at 3 _).at 4 _
/-- A line for jobs: block g, what is left of the jobs in [lo, g). -/
structure LN (w : World) (lo g : Nat) (tick step tc : Int) (tb : Bool) (gr pr : Value) (cr : Nat → Int) (l : List Jb) : Prop where
  cells : ∃ cs v, BK w g 65 cs ∧ LC cs tick v step tc tb gr pr cr ∧ OJbS w lo g v l
def RetLN (w : World) (l : List Jb) (e : Ending) (w' : World) : Prop :=
  ∃ g, e = .returned (.pointer (some ⟨g, 0, none⟩)) ∧ w.heap.size ≤ g ∧ g < w'.heap.size ∧ LN w' w.heap.size g 0 0 7 false (.slice none 0 0) .nilFunc (fun _ => 0) l ∧ Below w.heap.size w w'
def lineZ (u : Value) : Array Value := #[.int .i64 0, u, .int .i64 0, .int .i64 0, .bool false, .slice none 0 0, .nilFunc, .int .i64 0, .int .i64 0, .int .i64 0, .int .i64 0, .int .i64 0, .int .i64 0, .int .i64 0, .int .i64 0]
theorem LC.zero (u : Value) : LC (lineZ u) 0 u 0 0 false (.slice none 0 0) .nilFunc (fun _ => 0) := by
  refine ⟨rfl, rfl, rfl, rfl, rfl, rfl, rfl, rfl, fun i hi => ?_⟩
  have : i = 0 ∨ i = 1 ∨ i = 2 ∨ i = 3 ∨ i = 4 ∨ i = 5 ∨ i = 6 ∨ i = 7 := by omega
  rcases this with rfl | rfl | rfl | rfl | rfl | rfl | rfl | rfl <;> rfl
set_option maxHeartbeats 1000000 in
theorem lineFor_any (v : Value) (l : List Jb) (w : World) (h : RJbS w w.heap.size v l) (hn : l.length ≤ 1048576) :
    Calls Try.prog 30 #[v] w (RetLN w l) := by
  have HC := Lib.hid (cloneJb_any v l w h hn)
  obtain ⟨A, c, rfl, _⟩ := h
  go_enter Try.func30, Try.ntmps30
  go_wp2_with fail
  refine HC.out.mono ?_; rintro e w1 ⟨u, rfl, ho, hb⟩
  obtain ⟨A2, c2, rfl, _⟩ := ho.rk
  have HO := Lib.hid ho
  have HB := Lib.hid hb
  have HA := Lib.hid (beginAnew_any w1.heap.size (lineZ (.slice A2 l.length c2)) 0 (.slice A2 l.length c2) 0 0 false (.slice none 0 0) .nilFunc (fun _ => 0) (w1.alloc (.cells (lineZ (.slice A2 l.length c2)) 65)) (BK.made w1 _ _) (LC.zero _))
  have hsz : (w1.alloc (.cells (lineZ (.slice A2 l.length c2)) 65)).heap.size = w1.heap.size + 1 := by simp
  have HS := Lib.hid hsz
  clear ho hb hsz
  go_wp2_with fail
  refine HA.out.mono ?_; rintro e w2 ⟨rfl, hbk, hwr⟩
  have HK := Lib.hid hbk
  have HW := Lib.hid hwr
  clear hbk hwr
  go_wp2_with fail
  go_ret
  have s1 := HB.out.size
  have T1 := HB.out.trans (((Below.refl _ _).alloc (Nat.le_refl w1.heap.size) (.cells (lineZ (.slice A2 l.length c2)) 65)).mono s1)
  refine ⟨w1.heap.size, rfl, s1, HK.out.1, ⟨⟨_, _, HK.out, (LC.zero _).anew, ?_⟩⟩, T1.trans (HW.out.below s1 (by rw [HS.out]; omega))⟩
  exact (HO.out.step ((Below.refl _ _).alloc (Nat.le_refl w1.heap.size) _)).far HW.out (.inl (Nat.le_refl _))
end Go.Proofs.Yteoggoopfjkdkaa