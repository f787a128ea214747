/-
  Chapter 7: the contracts of RunFires, both sides.
-/
import Derived.Test.YtbmjjelffpoojaaElE
import Derived.Test.YtbmjjelffpoojaaIntSS
import Derived.Deep.LoopGhost
import Derived.Deep.RegionHeldLaw
import Derived.Deep.RegionLaw
namespace Go.Proofs.Ytbmjjelffpoojaa
open Go.RowKit
set_option maxRecDepth 100000
set_option linter.unusedVariables false

theorem elInts_info : (Try.prog.info? 22).map (fun i => (i.zero, i.size, i.bytes)) = some (some (.slice none 0 0), 1, 24) := by kernel_rfl
/-- What a function of lists and a bool leaves. -/
def RetSB (w : World) (L : List (List Int)) (b : Bool) (e : Ending) (w' : World) : Prop := ∃ u, e = .returned (.tuple #[u, .bool b]) ∧ OS 22 3 w' w.heap.size w'.heap.size u L ∧ Below w.heap.size w w'
/-- The literal of one row. -/
theorem OS.lit1 {T E : TypeId} {w : World} {lo hi g : Nat} {u : Value} {l : List Int} (hg : g = w.heap.size) (hu : OI E w lo hi u l) (hlo : lo ≤ g) (hhi : hi ≤ g) :
    OS T E (w.alloc (.cells #[u] T)) lo (g + 1) (.slice (some ⟨g, 0, none⟩) 1 1) [l] := by
  subst hg
  have hb : Below w.heap.size w (w.alloc (.cells #[u] T)) := (Below.refl _ _).alloc (Nat.le_refl _) _
  obtain ⟨g1, hg1, hut⟩ : ∃ g1, (l ≠ [] → lo ≤ g1 ∧ g1 < hi) ∧ OI E w g1 (g1 + 1) u l := by
    by_cases hl : l = []
    · subst hl
      exact ⟨0, fun h => absurd rfl h, hu.empty⟩
    · obtain ⟨g1, h2, h3, h4⟩ := hu.tight hl
      exact ⟨g1, fun _ => ⟨h2, h3⟩, h4⟩
  refine ⟨[⟨u, g1, l⟩], rfl, ⟨rfl, .inr ⟨_, 1, _, rfl, hlo, heap_alloc_new w _, Nat.le_refl _, by unfold maxLen; omega, rfl, rfl⟩⟩, fun k hk => by simp [Value.ownBlock] at hk; omega, fun r hm => ?_, List.pairwise_singleton _ _⟩
  simp only [List.mem_singleton] at hm
  subst hm
  exact ⟨hut.step hb, fun hl => by have := hg1 hl; simp only; omega⟩
theorem elRun_call {P : Program} {w : World} {ρ : Operand → Value} {o : Oper} {f : FuncId} {fn : Func} {args : Array Operand} {ats : Array TypeId} (hop : o.op = .call { callee := .value (.func f), args, argTypes := ats })
    (hρ : ρ (.func f) = .func (.func f) #[] #[]) (hf : P.funcs[f]? = some fn) (hname : (fn.name == "runtime.NumGoroutine") = false) (hb : fn.body.isNone = false) : (execOp ρ o).run P w = .ok (.enter f (args.map ρ)) w := by
  have h1 : ¬ fn.name = "runtime.NumGoroutine" := by simpa using hname
  have h2 : ¬ fn.body = none := by cases hx : fn.body <;> simp_all
  unfold execOp
  simp [hop, resolve, Deferred.ofValue, invoke, callFunc, hf, h1, h2, hρ]
/-- A call that gives a list, as one step of a region that draws. -/
theorem step_callL {P : Program} {ops : Array Oper} {o : Oper} {a : Act} {w : World} {K : Act → World → Prop} {Q : Exit → Act → World → Prop} {R : Prop} (hgd : o.guard = none) (f : FuncId) (args : Array Value) (hr : (execOp a.eval o).run P w = .ok (.enter f args) w)
    (E : TypeId) (l : List Int) (hc : Calls P f args w (RetL E w l)) (h : ∀ v w', OI E w' w.heap.size w'.heap.size v l → Below w.heap.size w w' → K (a.put o.dst v) w') :
    if Region.wanted o (yielded ops a.tmps) = true then Oper.wp P o a w K Q else R := by
  rw [if_pos (show Region.wanted o (yielded ops a.tmps) = true by simp [Region.wanted, hgd])]
  unfold Oper.wp
  rw [hr, Oper.upon_enter]
  refine hc.mono ?_
  rintro e w' ⟨u, rfl, ho, hb⟩
  exact h u w' ho hb
/-- What RunFires says. -/
def runOk (l : List Int) (k : Int) (cs : List Int) : Bool := stOk l k && decide ((cs.length : Int) ≤ 40) && okAll 0 9223372036854775807 cs
def runRg (l : List Int) (k : Int) (cs : List Int) : List (List Int) × Bool := if runOk l k cs = true then (runN l k cs cs.length, true) else ([], false)
theorem total_el (L : List (List Int)) (m : Nat) (h : ∀ l ∈ L, l.length ≤ m) : total L ≤ L.length * m := by
  induction L with
  | nil => simp [total]
  | cons l L ih =>
    have h1 := h l (by simp)
    have h2 := ih fun x hx => h x (by simp [hx])
    simp only [total, List.length_cons, Nat.succ_mul]
    omega
theorem runRg_len (l : List Int) (k : Int) (cs : List Int) : (runRg l k cs).1.length ≤ 1048576 ∧ total (runRg l k cs).1 ≤ 1048576 := by
  unfold runRg
  split
  · rename_i h
    simp only [runOk, Bool.and_eq_true, decide_eq_true_eq] at h
    have h1 := stOk_len h.1.1
    have h2 := runN_len l k cs cs.length
    have h3 := total_el (runN l k cs cs.length) 12 fun x hx => by have := runN_row l k cs cs.length x hx; omega
    simp only
    omega
  · simp [total]
theorem okAll_ge {lo hi : Int} {l : List Int} (h : okAll lo hi l = true) (j : Nat) : lo ≤ l.getD j 0 ∨ l.length ≤ j := by
  rcases Nat.lt_or_ge j l.length with hj | hj
  · exact .inl (okAll_at h j hj).1
  · exact .inr hj


set_option maxHeartbeats 4000000 in
theorem implRunFires_any (v u : Value) (l : List Int) (k : Int) (cs : List Int) (w : World) (h : RI w w.heap.size v l) (hu : RI w w.heap.size u cs) (hn : l.length ≤ 1048576) (hn2 : cs.length ≤ 1048576) (hx : (Lit.int .i64 k).wf = true) :
    Calls Try.prog 34 #[v, .int .i64 k, u] w (RetSB w (runRg l k cs).1 (runRg l k cs).2) := by
  have HS := Lib.hid (implSt_any v l k w h hn)
  obtain ⟨i0, hi, hz0, hz1, hz2⟩ := info_parts elInts_info
  have hln : (cs.length : Int) ≤ 1048576 := by omega
  cases hg : stOk l k
  · rw [show runRg l k cs = ([], false) from by simp [runRg, runOk, hg]]
    rw [hg] at HS
    clear hg
    obtain ⟨A, c, rfl, _, _⟩ := hu
    go_enter Try.func34, Try.ntmps34
    go_wp2_with fail
    refine HS.out.mono ?_; rintro e w' ⟨rfl, rfl⟩
    go_wp2_with fail
    go_ret2
    exact ⟨_, rfl, OS.nil _ _ _ _ _, Below.refl _ _⟩
  rw [hg] at HS
  by_cases hc40 : ¬ ((cs.length : Int) ≤ 40)
  · rw [show runRg l k cs = ([], false) from by simp [runRg, runOk]; intro _ h9; omega]
    obtain ⟨A, c, rfl, _, _⟩ := hu
    clear hg
    go_enter Try.func34, Try.ntmps34
    go_wp2_with fail
    refine HS.out.mono ?_; rintro e w' ⟨rfl, rfl⟩
    go_wp2_with fail
    go_ret2
    exact ⟨_, rfl, OS.nil _ _ _ _ _, Below.refl _ _⟩
  rw [Classical.not_not] at hc40
  have HA := Lib.hid (areAllUpTo_any u cs 9223372036854775807 w hu hn2)
  cases hg2 : okAll 0 9223372036854775807 cs
  · rw [show runRg l k cs = ([], false) from by simp [runRg, runOk, hg2]]
    rw [hg2] at HA
    obtain ⟨A, c, rfl, _, _⟩ := hu
    clear hg hg2
    go_enter Try.func34, Try.ntmps34
    go_wp2_with fail
    refine HS.out.mono ?_; rintro e w' ⟨rfl, rfl⟩
    go_wp2_with fail
    refine HA.out.mono ?_; rintro e w' ⟨rfl, rfl⟩
    go_wp2_with fail
    go_ret2
    exact ⟨_, rfl, OS.nil _ _ _ _ _, Below.refl _ _⟩
  rw [show runRg l k cs = (runN l k cs cs.length, true) from by simp [runRg, runOk, hg, hg2]; omega]
  rw [hg2] at HA
  have h0 := stOk_len hg
  have hk := stOk_k hg
  have hin := stOk_in hg
  have HIN := Lib.hid fun j => curN_in cs hin hk.1 (by omega) j
  have HLEN := Lib.hid fun j => curN_len l k cs j
  have HGE := Lib.hid fun j => okAll_ge hg2 j
  have HC := Lib.hid (clone_any v l w h hn)
  obtain ⟨A, c, rfl, hlc, hc⟩ := hu
  clear hg hg2 hin
  go_enter Try.func34, Try.ntmps34
  go_wp2_with fail
  refine HS.out.mono ?_; rintro e w' ⟨rfl, rfl⟩
  go_wp2_with fail
  refine HA.out.mono ?_; rintro e w' ⟨rfl, rfl⟩
  go_wp2_with fail
  refine HC.out.mono ?_; rintro e w1 ⟨u1, rfl, ho1, hb1⟩
  have hos0 := OS.lit1 (T := 22) (w := w1) (g := w1.heap.size) rfl ho1 hb1.size (Nat.le_refl _)
  have hb2 : Below w.heap.size w (w1.alloc (.cells #[u1] 22)) := hb1.alloc hb1.size _
  obtain ⟨A1, c1, rfl, _, _⟩ := ho1.ri
  have HW := Lib.hid hb2
  have HO := Lib.hid hos0
  clear hb2 hos0 hb1 ho1
  go_wp2_with fail
  have hs2 : (w1.alloc (.cells #[.slice A1 l.length c1] 22)).heap.size = w1.heap.size + 1 := by simp
  have HS2 := Lib.hid hs2
  clear hs2
  go_loopg [8, 31] cs.length (fun g s8 s31 wx => ∃ j : Nat, j + g = cs.length ∧ s31 = .int .i64 j ∧ OS 22 3 wx w.heap.size wx.heap.size s8 (runN l k cs j) ∧ Below w.heap.size w wx)
  case atStart => exact ⟨0, by omega, rfl, HO.out.wide (Nat.le_refl _) (by rw [HS2.out]; exact Nat.le_refl _), HW.out⟩
  case round =>
    obtain ⟨j, hjg, rfl, hos, hbw⟩ := hrel
    cases gk with
    | zero =>
      obtain rfl : j = cs.length := by omega
      have hz : ¬ ((cs.length : Int) < (cs.length : Int)) := by omega
      go_wp2_with fail
      go_ret2
      exact ⟨_, rfl, hos, hbw⟩
    | succ g =>
      have hjc : j < cs.length := by omega
      have hjc' : (j : Int) < (cs.length : Int) := by omega
      have hj40 : (j : Int) < 40 := by omega
      obtain ⟨b, off, rfl, hbB, hcell⟩ := hc (by omega)
      have hcx : wr.cell? ⟨b, off + j, none⟩ = some (.int .i64 (cs.getD j 0)) := (hbw.cell (p := ⟨b, off + j, none⟩) hbB).trans (hcell j hjc)
      have HCC := Lib.hid hcell
      have hge : 0 ≤ cs.getD j 0 := by have := HGE.out j; omega
      have HRN : Hid (runN l k cs (j + 1) = runN l k cs j ++ [curN l k cs (j + 1)]) := rfl
      have HST : Hid (curN l k cs (j + 1) = fireL (curN l k cs j) k (chosen (curN l k cs j) (cs.getD j 0))) := rfl
      have hcn : 2 ≤ (curN l k cs j).length ∧ (curN l k cs j).length ≤ 12 := by have := HLEN.out j; omega
      have hci := HIN.out j
      have hch := chosen_is (curN l k cs j) (cs.getD j 0) (by omega)
      have hpos := holdN_pos (curN l k cs j) (by omega)
      have hhl := holdN_len (curN l k cs j) (curN l k cs j).length
      obtain ⟨V, VA, vc, rfl, hV, hlc2, hcells, hrows⟩ := hos.rd
      have hL1 := runN_len l k cs j
      have hrow := hrows j (by omega)
      rw [runN_at l k cs j j (Nat.le_refl _)] at hrow
      obtain ⟨b2, off2, rfl, hb2B, hcell2⟩ := hcells (by omega)
      have hcy := hcell2 j (by omega)
      clear hcells hrows hcell2 hV hcell hc
      have HOS := Lib.hid hos
      have HBW := Lib.hid hbw
      have hLi : ((runN l k cs j).length : Int) = (j : Int) + 1 := by omega
      have hLj : j < (runN l k cs j).length := by omega
      have hLj' : (j : Int) < ((runN l k cs j).length : Int) := by omega
      have hLm : ((runN l k cs j).length : Int) - 1 = (j : Int) := by omega
      have hL41 : (runN l k cs j).length ≤ 41 := by omega
      obtain ⟨CR, hCR⟩ : ∃ CR, CR = curN l k cs j := ⟨_, rfl⟩
      rw [← hCR] at HST hcn hci hch hpos hhl hrow
      clear hCR
      obtain ⟨cx, hcxe⟩ : ∃ cx, cx = cs.getD j 0 := ⟨_, rfl⟩
      rw [← hcxe] at HST hch hge hcx
      clear hcxe
      obtain ⟨q, hq⟩ : ∃ q, q = chosen CR cx := ⟨_, rfl⟩
      rw [← hq] at HST hch
      clear hq
      obtain ⟨hqlt, hqe⟩ := hch
      have HQE := Lib.hid hqe
      clear hqe hos hbw
      have HH := Lib.hid (implHolders_any _ CR wr hrow hcn)
      obtain ⟨L, hL⟩ : ∃ L, L = runN l k cs j := ⟨_, rfl⟩
      rw [← hL] at HOS HRN hlc2 hLi hLj hLj' hLm hL41
      rw [← hL]
      clear hL hL1
      have HLI := Lib.hid hLi
      clear hLi
      have HFIRE : Hid (∀ W, Below wr.heap.size wr W → Calls Try.prog 61 #[V.getD j undef, .int .i64 k, .int .i64 q] W (RetL 3 W (fireL CR k q))) := by
        show ∀ W, _
        intro W hW
        exact implFire_any _ CR k q W ((hrow.below hW).more hW.size) hcn hk hci hqlt
      obtain ⟨A5, c5, e5, _, _⟩ := hrow
      rw [e5] at HFIRE HH hcy
      clear e5
      generalize CR.length = cl at hcy HFIRE HH hhl hpos HQE hcn
      obtain ⟨FL, hFL⟩ : ∃ FL, FL = fireL CR k q := ⟨_, rfl⟩
      rw [← hFL] at HFIRE HST
      clear hFL
      have HZ2 : Hid (b2 < wr.heap.size) := hb2B

      go_wp2_with fail
      refine HH.out.mono ?_; rintro e w2 ⟨u2, rfl, ho2, hb3⟩
      obtain ⟨A6, c6, rfl, _, hcell6⟩ := ho2.ri
      obtain ⟨b6, off6, rfl, hb6, hcell7⟩ := hcell6 hpos
      clear hcell6
      have hml := Nat.mod_lt cx.toNat hpos
      have hc6 := hcell7 _ hml
      rw [HQE.out] at hc6
      have et : cx.tmod ((holdN CR cl).length : Int) = ((cx.toNat % (holdN CR cl).length : Nat) : Int) := by
        rw [Int.tmod_eq_emod_of_nonneg hge, Int.natCast_emod]
        congr 1
        omega
      have HO2 := Lib.hid (HOS.out.step hb3 (Nat.le_refl _))
      have HB3 := Lib.hid hb3
      have hcy2 := (hb3.cell (p := ⟨b2, off2 + j, none⟩) HZ2.out).trans hcy
      have HWZ := Lib.hid hb3.size
      have HB6 : Hid (b6 < w2.heap.size) := hb6
      clear ho2 hcell7 hb3 hb6
      obtain ⟨m, hm⟩ : ∃ m, m = cx.toNat % (holdN CR cl).length := ⟨_, rfl⟩
      rw [← hm] at hml hc6 et
      clear hm
      generalize (holdN CR cl).length = hl at hml et hpos hhl ⊢
      have et2 : cx % (hl : Int) = (m : Int) := by rw [← et, Int.tmod_eq_emod_of_nonneg hge]
      have et3 : IntKind.i64.wrap (m : Int) = (m : Int) := IntWalk.i64_in _ (by omega)
      have et4 : (hl : Int) ≠ 0 := by omega
      have et5 : (m : Int) < (hl : Int) := by omega
      have et6 : hl ≠ 0 := by omega
      go_upto_region 8 with fail
      go_region_law
        (first
          | (refine step_pushS rfl (.tmp 41) (.tmp 55) 39 rfl 22 3 (by decide) i0 Try.underlying39 hi hz0 hz1 hz2 w4 w w.heap.size wr.heap.size w4.heap.size _ _ L FL rfl rfl HO4.out HU4.out HBW.out.size (Nat.le_refl _) hz04 rfl (by omega) HB4.out ?_; intro v5 w5 hos5 hb5)
          | (refine step_callL rfl 61 #[.slice A5 cl c5, .int .i64 k, .int .i64 (q : Int)] ((elRun_call (f := 61) (args := #[.tmp 45, .tmp 46, .tmp 53]) (ats := #[22, 3, 3]) rfl rfl Try.func61 (by kernel_rfl) rfl).trans (by simp [Act.eval])) 3 FL (HFIRE.out _ HB3.out.drew) ?_; intro u4 w4 ho4 hb4; have HO4 := Lib.hid (OS.step (w := w2.drew) HO2.out hb4 HWZ.out); have HU4 := Lib.hid (ho4.wide (lo' := wr.heap.size) HWZ.out (Nat.le_refl _)); have HB4 := Lib.hid (HBW.out.trans ((HB3.out.drew.trans (hb4.mono HWZ.out)).mono HBW.out.size)); have hz04 : wr.heap.size ≤ w4.heap.size := Nat.le_trans HWZ.out hb4.size; obtain ⟨A8, c8, rfl, _, _⟩ := ho4.ri))
      all_goals
        have HO5 := Lib.hid hos5
        have HB5 := Lib.hid hb5
        clear hos5 hb5
        go_wp2_with fail
        go_roundg g
        case measure => omega
        case rel => exact ⟨j + 1, by omega, by go_num, by rw [HRN.out, HST.out]; exact HO5.out, HB5.out⟩


set_option maxHeartbeats 4000000 in
theorem specRunFires_any (v u : Value) (l : List Int) (k : Int) (cs : List Int) (w : World) (h : RI w w.heap.size v l) (hu : RI w w.heap.size u cs) (hn : l.length ≤ 1048576) (hn2 : cs.length ≤ 1048576) (hx : (Lit.int .i64 k).wf = true) :
    Calls Try.prog 33 #[v, .int .i64 k, u] w (RetSB w (runRg l k cs).1 (runRg l k cs).2) := by
  have HS := Lib.hid (specSt_any v l k w h hn)
  obtain ⟨i0, hi, hz0, hz1, hz2⟩ := info_parts elInts_info
  have hln : (cs.length : Int) ≤ 1048576 := by omega
  cases hg : stOk l k
  · rw [show runRg l k cs = ([], false) from by simp [runRg, runOk, hg]]
    rw [hg] at HS
    clear hg
    obtain ⟨A, c, rfl, _, _⟩ := hu
    go_enter Try.func33, Try.ntmps33
    go_wp2_with fail
    refine HS.out.mono ?_; rintro e w' ⟨rfl, rfl⟩
    go_wp2_with fail
    go_ret2
    exact ⟨_, rfl, OS.nil _ _ _ _ _, Below.refl _ _⟩
  rw [hg] at HS
  by_cases hc40 : ¬ ((cs.length : Int) ≤ 40)
  · rw [show runRg l k cs = ([], false) from by simp [runRg, runOk]; intro _ h9; omega]
    obtain ⟨A, c, rfl, _, _⟩ := hu
    clear hg
    go_enter Try.func33, Try.ntmps33
    go_wp2_with fail
    refine HS.out.mono ?_; rintro e w' ⟨rfl, rfl⟩
    go_wp2_with fail
    go_ret2
    exact ⟨_, rfl, OS.nil _ _ _ _ _, Below.refl _ _⟩
  rw [Classical.not_not] at hc40
  have HA := Lib.hid (elIn_any u cs 0 9223372036854775807 w hu hn2)
  cases hg2 : okAll 0 9223372036854775807 cs
  · rw [show runRg l k cs = ([], false) from by simp [runRg, runOk, hg2]]
    rw [hg2] at HA
    obtain ⟨A, c, rfl, _, _⟩ := hu
    clear hg hg2
    go_enter Try.func33, Try.ntmps33
    go_wp2_with fail
    refine HS.out.mono ?_; rintro e w' ⟨rfl, rfl⟩
    go_wp2_with fail
    refine HA.out.mono ?_; rintro e w' ⟨rfl, rfl⟩
    go_wp2_with fail
    go_ret2
    exact ⟨_, rfl, OS.nil _ _ _ _ _, Below.refl _ _⟩
  rw [show runRg l k cs = (runN l k cs cs.length, true) from by simp [runRg, runOk, hg, hg2]; omega]
  rw [hg2] at HA
  have h0 := stOk_len hg
  have hk := stOk_k hg
  have hin := stOk_in hg
  have HIN := Lib.hid fun j => curN_in cs hin hk.1 (by omega) j
  have HLEN := Lib.hid fun j => curN_len l k cs j
  have HGE := Lib.hid fun j => okAll_ge hg2 j
  have HC := Lib.hid (elOwn_any v l w h hn)
  obtain ⟨A, c, rfl, hlc, hc⟩ := hu
  clear hg hg2 hin
  go_enter Try.func33, Try.ntmps33
  go_wp2_with fail
  refine HS.out.mono ?_; rintro e w' ⟨rfl, rfl⟩
  go_wp2_with fail
  refine HA.out.mono ?_; rintro e w' ⟨rfl, rfl⟩
  go_wp2_with fail
  refine HC.out.mono ?_; rintro e w1 ⟨u1, rfl, ho1, hb1⟩
  have hos0 := OS.lit1 (T := 22) (w := w1) (g := w1.heap.size) rfl ho1 hb1.size (Nat.le_refl _)
  have hb2 : Below w.heap.size w (w1.alloc (.cells #[u1] 22)) := hb1.alloc hb1.size _
  obtain ⟨A1, c1, rfl, _, _⟩ := ho1.ri
  have HW := Lib.hid hb2
  have HO := Lib.hid hos0
  clear hb2 hos0 hb1 ho1
  go_wp2_with fail
  have hs2 : (w1.alloc (.cells #[.slice A1 l.length c1] 22)).heap.size = w1.heap.size + 1 := by simp
  have HS2 := Lib.hid hs2
  clear hs2
  go_loopg [8, 32] cs.length (fun g s8 s31 wx => ∃ j : Nat, j + g = cs.length ∧ s31 = .int .i64 j ∧ OS 22 3 wx w.heap.size wx.heap.size s8 (runN l k cs j) ∧ Below w.heap.size w wx)
  case atStart => exact ⟨0, by omega, rfl, HO.out.wide (Nat.le_refl _) (by rw [HS2.out]; exact Nat.le_refl _), HW.out⟩
  case round =>
    obtain ⟨j, hjg, rfl, hos, hbw⟩ := hrel
    cases gk with
    | zero =>
      obtain rfl : j = cs.length := by omega
      have hz : ¬ ((cs.length : Int) < (cs.length : Int)) := by omega
      go_wp2_with fail
      go_ret2
      exact ⟨_, rfl, hos, hbw⟩
    | succ g =>
      have hjc : j < cs.length := by omega
      have hjc' : (j : Int) < (cs.length : Int) := by omega
      have hj40 : (j : Int) < 40 := by omega
      obtain ⟨b, off, rfl, hbB, hcell⟩ := hc (by omega)
      have hcx : wr.cell? ⟨b, off + j, none⟩ = some (.int .i64 (cs.getD j 0)) := (hbw.cell (p := ⟨b, off + j, none⟩) hbB).trans (hcell j hjc)
      have HCC := Lib.hid hcell
      have hge : 0 ≤ cs.getD j 0 := by have := HGE.out j; omega
      have HRN : Hid (runN l k cs (j + 1) = runN l k cs j ++ [curN l k cs (j + 1)]) := rfl
      have HST : Hid (curN l k cs (j + 1) = fireL (curN l k cs j) k (chosen (curN l k cs j) (cs.getD j 0))) := rfl
      have hcn : 2 ≤ (curN l k cs j).length ∧ (curN l k cs j).length ≤ 12 := by have := HLEN.out j; omega
      have hci := HIN.out j
      have hch := chosen_is (curN l k cs j) (cs.getD j 0) (by omega)
      have hpos := holdN_pos (curN l k cs j) (by omega)
      have hhl := holdN_len (curN l k cs j) (curN l k cs j).length
      obtain ⟨V, VA, vc, rfl, hV, hlc2, hcells, hrows⟩ := hos.rd
      have hL1 := runN_len l k cs j
      have hrow := hrows j (by omega)
      rw [runN_at l k cs j j (Nat.le_refl _)] at hrow
      obtain ⟨b2, off2, rfl, hb2B, hcell2⟩ := hcells (by omega)
      have hcy := hcell2 j (by omega)
      clear hcells hrows hcell2 hV hcell hc
      have HOS := Lib.hid hos
      have HBW := Lib.hid hbw
      have hLi : ((runN l k cs j).length : Int) = (j : Int) + 1 := by omega
      have hLj : j < (runN l k cs j).length := by omega
      have hLj' : (j : Int) < ((runN l k cs j).length : Int) := by omega
      have hLm : ((runN l k cs j).length : Int) - 1 = (j : Int) := by omega
      have hL41 : (runN l k cs j).length ≤ 41 := by omega
      obtain ⟨CR, hCR⟩ : ∃ CR, CR = curN l k cs j := ⟨_, rfl⟩
      rw [← hCR] at HST hcn hci hch hpos hhl hrow
      clear hCR
      obtain ⟨cx, hcxe⟩ : ∃ cx, cx = cs.getD j 0 := ⟨_, rfl⟩
      rw [← hcxe] at HST hch hge hcx
      clear hcxe
      obtain ⟨q, hq⟩ : ∃ q, q = chosen CR cx := ⟨_, rfl⟩
      rw [← hq] at HST hch
      clear hq
      obtain ⟨hqlt, hqe⟩ := hch
      have HQE := Lib.hid hqe
      clear hqe hos hbw
      have HH := Lib.hid (specHolders_any _ CR wr hrow hcn)
      obtain ⟨L, hL⟩ : ∃ L, L = runN l k cs j := ⟨_, rfl⟩
      rw [← hL] at HOS HRN hlc2 hLi hLj hLj' hLm hL41
      rw [← hL]
      clear hL hL1
      have HLI := Lib.hid hLi
      clear hLi
      have HFIRE : Hid (∀ W, Below wr.heap.size wr W → Calls Try.prog 59 #[V.getD j undef, .int .i64 k, .int .i64 q] W (RetL 3 W (fireL CR k q))) := by
        show ∀ W, _
        intro W hW
        exact specFire_any _ CR k q W ((hrow.below hW).more hW.size) hcn hk hci hqlt
      obtain ⟨A5, c5, e5, _, _⟩ := hrow
      rw [e5] at HFIRE HH hcy
      clear e5
      generalize CR.length = cl at hcy HFIRE HH hhl hpos HQE hcn
      obtain ⟨FL, hFL⟩ : ∃ FL, FL = fireL CR k q := ⟨_, rfl⟩
      rw [← hFL] at HFIRE HST
      clear hFL
      have HZ2 : Hid (b2 < wr.heap.size) := hb2B

      go_wp2_with fail
      refine HH.out.mono ?_; rintro e w2 ⟨u2, rfl, ho2, hb3⟩
      obtain ⟨A6, c6, rfl, _, hcell6⟩ := ho2.ri
      obtain ⟨b6, off6, rfl, hb6, hcell7⟩ := hcell6 hpos
      clear hcell6
      have hml := Nat.mod_lt cx.toNat hpos
      have hc6 := hcell7 _ hml
      rw [HQE.out] at hc6
      have et : cx.tmod ((holdN CR cl).length : Int) = ((cx.toNat % (holdN CR cl).length : Nat) : Int) := by
        rw [Int.tmod_eq_emod_of_nonneg hge, Int.natCast_emod]
        congr 1
        omega
      have HO2 := Lib.hid (HOS.out.step hb3 (Nat.le_refl _))
      have HF3 := Lib.hid (HFIRE.out w2 hb3)
      have HB3 := Lib.hid (HBW.out.trans (hb3.mono HBW.out.size))
      have HWZ := Lib.hid hb3.size
      clear ho2 hcell7 hb3 hb6
      obtain ⟨m, hm⟩ : ∃ m, m = cx.toNat % (holdN CR cl).length := ⟨_, rfl⟩
      rw [← hm] at hml hc6 et
      clear hm
      generalize (holdN CR cl).length = hl at hml et hpos hhl ⊢
      have et2 : cx % (hl : Int) = (m : Int) := by rw [← et, Int.tmod_eq_emod_of_nonneg hge]
      have et3 : IntKind.i64.wrap (m : Int) = (m : Int) := IntWalk.i64_in _ (by omega)
      have et4 : (hl : Int) ≠ 0 := by omega
      have et5 : (m : Int) < (hl : Int) := by omega
      have et6 : hl ≠ 0 := by omega
      go_wp2_with fail
      refine HF3.out.mono ?_; rintro e w4 ⟨u4, rfl, ho4, hb4⟩
      have HO4 := Lib.hid (HO2.out.step hb4 HWZ.out)
      have HU4 := Lib.hid (ho4.wide HWZ.out (Nat.le_refl _))
      have HB4 := Lib.hid (HB3.out.trans (hb4.mono HB3.out.size))
      have hz04 : wr.heap.size ≤ w4.heap.size := Nat.le_trans HWZ.out hb4.size
      obtain ⟨A8, c8, rfl, _, _⟩ := ho4.ri
      clear ho4 hb4
      go_wp2_with (at_builtin; refine wpList_pushS rfl (.tmp 44) (.tmp 55) 39 rfl 22 3 (by decide) i0 Try.underlying39 hi hz0 hz1 hz2 w4 w w.heap.size wr.heap.size w4.heap.size _ _ L FL rfl rfl HO4.out HU4.out HBW.out.size (Nat.le_refl _) hz04 rfl (by omega) HB4.out ?_; intro v5 w5 hos5 hb5)
      go_roundg g
      case measure => omega
      case rel => exact ⟨j + 1, by omega, by go_num, by rw [HRN.out, HST.out]; exact hos5, hb5⟩

end Go.Proofs.Ytbmjjelffpoojaa
