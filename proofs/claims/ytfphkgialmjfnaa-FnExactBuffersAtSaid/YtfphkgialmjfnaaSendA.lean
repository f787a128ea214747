/-
  A scope with labels that the run jumps to from each other: a law of one's own, after the library's for one label. The program's station sends: the end of its jumps. The program's station sends. The program's station sends: the whole.
-/
import Derived.Test.YtfphkgialmjfnaaBase
import Derived.ScopeJumps
import Derived.WalkMore
import Derived.Test.YtfphkgialmjfnaaGet
import Derived.Test.YtfphkgialmjfnaaLoads
import Derived.Test.YtfphkgialmjfnaaShelf
namespace Go.Proofs.Ytfphkgialmjfnaa
section
section
variable {P : Program} {a : Act} {w : World} {Q : Exit → Act → World → Prop}
/-- What holds where a code within a scope is left: J of the label, where it is left by a goto; else Q. -/
def ManyE (J : Nat → Act → World → Prop) (Q : Exit → Act → World → Prop) (e : Exit) (a : Act) (w : World) : Prop :=
  match e with
  | .goto l => J l a w
  | e => Q e a w
theorem manyE_ret {J : Nat → Act → World → Prop} : ManyE J Q .ret a w = Q .ret a w := rfl
theorem manyE_else {J : Nat → Act → World → Prop} {e : Exit} (he : ¬ ∃ l, e = .goto l) (h : ManyE J Q e a w) : Q e a w := by
  cases e <;> first | exact h | exact absurd ⟨_, rfl⟩ he
/-- Behind a scope's end one stands where one stood within it, a goto apart. -/
theorem out_of_scope {m : Machine} {b : Frame} {c : Code} {k : List Item} {cs : List Frame} {e : Exit} (he : ¬ ∃ l, e = .goto l) (h : Arrives P m b (.inScope c :: k) cs e a w) : Arrives P m b k cs e a w := by
  cases e
  case goto l => exact absurd ⟨l, rfl⟩ he
  case normal => exact Steps.trans h (.one step_inScope)
  case exit id => exact fun k' hk => h k' (by simp [exitTo, hk])
  all_goals exact h
/-- A scope that is left, or gone on with at a label whose number is less each time. -/
theorem scope_runs {c : Code} {b : Frame} {k : List Item} {cs : List Frame} {J : Nat → Act → World → Prop} {μ : Nat → Act → World → Nat}
    (pass : ∀ l a w, J l a w → ∃ rest, findLabel c l = some rest ∧ rest.wp P (ManyE (fun l' a' w' => J l' a' w' ∧ μ l' a' w' < μ l a w) Q) a w) (n : Nat) :
    ∀ e a w m, ManyE (fun l a w => J l a w ∧ μ l a w < n) Q e a w → Arrives P m b (.inScope c :: k) cs e a w → ∃ e' a' w', Q e' a' w' ∧ Arrives P m b k cs e' a' w' := by
  induction n using Nat.strongRecOn with
  | _ n less =>
    intro e a w m hq hm
    by_cases he : ∃ l, e = .goto l
    · obtain ⟨l, rfl⟩ := he
      have hq' : J l a w ∧ μ l a w < n := hq
      obtain ⟨rest, hf, hrest⟩ := pass l a w hq'.1
      obtain ⟨e1, a1, w1, hq1, hm1⟩ := hrest b (.inScope c :: k) cs
      obtain ⟨e2, a2, w2, hq2, hm2⟩ := less _ hq'.2 e1 a1 w1 _ hq1 hm1
      have hg : gotoIn l (.inScope c :: k) = some (.code rest :: .inScope c :: k) := by simp [gotoIn, hf]
      exact ⟨e2, a2, w2, hq2, .of_steps (hm _ hg) hm2⟩
    · exact ⟨e, a, w, manyE_else he hq, out_of_scope he hm⟩
theorem wp_scope_many {c : Code} (J : Nat → Act → World → Prop) (μ : Nat → Act → World → Nat) (first : c.wp P (ManyE J Q) a w)
    (pass : ∀ l a w, J l a w → ∃ rest, findLabel c l = some rest ∧ rest.wp P (ManyE (fun l' a' w' => J l' a' w' ∧ μ l' a' w' < μ l a w) Q) a w) : (Code.scope c).wp P Q a w := by
  intro b k cs
  obtain ⟨e, a1, w1, hq, hm⟩ := first b (.inScope c :: k) cs
  have hm' : Arrives P (lone (b.at a (.code (.scope c) :: k)) cs w) b (.inScope c :: k) cs e a1 w1 := .of_steps (.one step_scope) hm
  by_cases he : ∃ l, e = .goto l
  · obtain ⟨l, rfl⟩ := he
    exact scope_runs pass (μ l a1 w1 + 1) (.goto l) a1 w1 _ ⟨hq, Nat.lt_succ_self _⟩ hm'
  · exact ⟨e, a1, w1, manyE_else he hq, out_of_scope he hm'⟩
/-- What holds where a code within a scope is left, which jumps n times at most: where it is left by a goto, the code from the label on. -/
def FwdE (P : Program) (c : Code) (Q : Exit → Act → World → Prop) : Nat → Exit → Act → World → Prop
  | 0, e, a, w => (¬ ∃ l, e = .goto l) ∧ Q e a w
  | n + 1, e, a, w => match e with
    | .goto l => ∃ rest, findLabel c l = some rest ∧ rest.wp P (FwdE P c Q n) a w
    | e => Q e a w
theorem fwdE_else {c : Code} {n : Nat} {e : Exit} (he : ¬ ∃ l, e = .goto l) (h : FwdE P c Q n e a w) : Q e a w := by
  cases n with
  | zero => exact h.2
  | succ n => cases e <;> first | exact h | exact absurd ⟨_, rfl⟩ he
theorem fwd_runs {c : Code} {b : Frame} {k : List Item} {cs : List Frame} (n : Nat) :
    ∀ e a w m, FwdE P c Q n e a w → Arrives P m b (.inScope c :: k) cs e a w → ∃ e' a' w', Q e' a' w' ∧ Arrives P m b k cs e' a' w' := by
  induction n with
  | zero =>
    intro e a w m hq hm
    exact ⟨e, a, w, hq.2, out_of_scope hq.1 hm⟩
  | succ n ih =>
    intro e a w m hq hm
    by_cases he : ∃ l, e = .goto l
    · obtain ⟨l, rfl⟩ := he
      obtain ⟨rest, hf, hrest⟩ := hq
      obtain ⟨e1, a1, w1, hq1, hm1⟩ := hrest b (.inScope c :: k) cs
      obtain ⟨e2, a2, w2, hq2, hm2⟩ := ih e1 a1 w1 _ hq1 hm1
      have hg : gotoIn l (.inScope c :: k) = some (.code rest :: .inScope c :: k) := by simp [gotoIn, hf]
      exact ⟨e2, a2, w2, hq2, .of_steps (hm _ hg) hm2⟩
    · exact ⟨e, a, w, fwdE_else he hq, out_of_scope he hm⟩
theorem wp_scope_fwd {c : Code} (n : Nat) (h : c.wp P (FwdE P c Q n) a w) : (Code.scope c).wp P Q a w := by
  intro b k cs
  obtain ⟨e, a1, w1, hq, hm⟩ := h b (.inScope c :: k) cs
  have hm' : Arrives P (lone (b.at a (.code (.scope c) :: k)) cs w) b (.inScope c :: k) cs e a1 w1 := .of_steps (.one step_scope) hm
  exact fwd_runs n e a1 w1 _ hq hm'
theorem fwdE_ret {c : Code} {n : Nat} : FwdE P c Q (n + 1) .ret a w = Q .ret a w := rfl
end
end
section
open Go.RowKit Go.Conc Go.Sort
set_option maxRecDepth 100000
set_option linter.unusedVariables false

/-- A link is filled. -/
theorem Iw.qv_sent {x : Iw} (hx : x.Ok) (v : Nat → Bool) (a : Ist) {s : Nat} (hs : s < x.sw.n) (c : Nat) : x.qv (up v s true) { a with L := up a.L s (c + 1) } (x.su s) = [c] ∧ ∀ i, i < x.sw.n → i ≠ x.su s → x.qv (up v s true) { a with L := up a.L s (c + 1) } i = x.qv v { a with L := up a.L s (c + 1) } i := by
  refine ⟨by unfold Iw.qv; rw [Iw.pr_su hx hs, up_same, if_pos rfl]; simp only [up_same]; rfl, fun i hi hne => ?_⟩
  have h : x.pr i ≠ s := fun h => hne (by rw [← h, Iw.su_pr hx hi])
  unfold Iw.qv
  rw [up_ne _ _ _ h]
theorem Iw.qv_full {x : Iw} (hx : x.Ok) {v : Nat → Bool} {a : Ist} {s : Nat} (hs : s < x.sw.n) (hv : v s = false) : x.qv v a (x.su s) = [] := by
  unfold Iw.qv
  rw [Iw.pr_su hx hs, hv]
  rfl
set_option maxHeartbeats 4000000 in
theorem send_tail (x : Ir) (l : List Ms) (w0 : World) (p : GL) (t : Nat) (v : Nat → Bool) (b : Ist) (s c : Nat) (w : World) (hk : Kept x l w0 p) (hS : GoS w0 w x l p t v b) (hs : s < x.n.toNat) (hv : v s = false) (hc : c < l.length) (Q : Exit → Act → World → Prop)
    (u2 u3 u4 u6 u7 u8 u9 u10 u11 u12 u13 u14 u15 u16 u17 u18 u19 u20 u21 u22 u23 u24 u25 u26 u27 u28 u29 u30 u31 u32 u33 u34 u35 u36 u37 u38 u39 u40 u41 u42 u43 u44 u45 u46 u47 u48 u49 u50 u51 u52 u53 u54 u55 u56 u57 u58 u59 u60 u61 u62 u63 u64 u65 u66 u67 u68 u69 u70 u71 u72 u73 u74 u75 u76 u77 u78 u79 u80 u81 u82 : Value) (rest : Code) (hrest : (match Try.f61.body with | some (.scope c) => (match findLabel c 2 with | some (.seq .skip r) => some r | _ => none) | _ => none) = some rest)
    (hQ : ∀ a'' w'', a''.defers = [] → GoS w0 w'' x l p t (up v s true) { b with L := up b.L s (c + 1) } → Q .normal a'' w'') :
    rest.wp Try.prog Q { tmps := #[.pointer (some ⟨p.g, 0, none⟩), .int .i64 s, u2, u3, u4, .int .i64 (c : Nat), u6, u7, u8, u9, u10, u11, u12, u13, u14, u15, u16, u17, u18, u19, u20, u21, u22, u23, u24, u25, u26, u27, u28, u29, u30, u31, u32, u33, u34, u35, u36, u37, u38, u39, u40, u41, u42, u43, u44, u45, u46, u47, u48, u49, u50, u51, u52, u53, u54, u55, u56, u57, u58, u59, u60, u61, u62, u63, u64, u65, u66, u67, u68, u69, u70, u71, u72, u73, u74, u75, u76, u77, u78, u79, u80, u81, u82], defers := [] } w := by
  obtain ⟨hp, hok, hr⟩ := hk
  have hx := iwOk hok
  have hin := isIr_in (inOk_in hok).1
  obtain ⟨hl20, hall, _⟩ := areMs_in (inOk_in hok).2
  have HAS := Lib.hid (fun w => asSlotRing_any x w)
  have HBH : Hid (∀ w, Calls Try.prog 74 #[SrV ⟨x.n, false⟩, .int .i64 s] w (RetV w (.int .i64 (((iwOf x l).su s : Nat) : Int)))) := by
    show ∀ _, _
    intro w
    exact slBehind_any ⟨x.n, false⟩ s w hin.1 (by show (s : Int) < x.n; omega)
  have hsu := Iw.su_lt hx s
  have HSU : Hid ((iwOf x l).su s < x.n.toNat) := hsu
  have hS1 := hS.setL hp hv (c + 1)
  obtain ⟨hq1, hq2⟩ := Iw.qv_sent hx v b (s := s) hs c
  have hq0 := Iw.qv_full hx (v := v) (a := { b with L := up b.L s (c + 1) }) (s := s) hs hv
  have c7 := hS.run.cell 7
  have d0 := hS.sent.cell s (by rw [tabl_len]; exact hs)
  have d1 := hS.sent.free s
  have c5 := hS1.run.cell 5
  obtain ⟨n, hN⟩ : ∃ n, n = x.n.toNat := ⟨_, rfl⟩
  obtain ⟨g, hg⟩ : ∃ g, g = p.g := ⟨_, rfl⟩
  obtain ⟨sb, hsb⟩ : ∃ sb, sb = p.sb := ⟨_, rfl⟩
  simp only [List.getElem?_toArray, List.getElem?_cons_zero, List.getElem?_cons_succ] at c7 c5
  rw [← hN, ← hg, ← hsb] at c7
  rw [← hsb] at d0 d1
  have hsn : s < n := by rw [hN]; exact hs
  have hsI : (s : Int) < (n : Int) := by omega
  have ew : IntKind.i64.wrap ((c : Int) + 1) = ((c + 1 : Nat) : Int) := by rw [IntWalk.i64_in _ (by omega)]; omega
  rw [← hsb] at hS1 c5
  obtain ⟨w1, hw1⟩ : ∃ w1, w1 = w.setCell ⟨sb, s, none⟩ (.int .i64 ((c + 1 : Nat) : Int)) := ⟨_, rfl⟩
  rw [← hw1] at hS1 c5
  have HW1 : Hid (w.setCell ⟨sb, s, none⟩ (.int .i64 ((c : Int) + 1)) = w1) := by show _ = _; rw [hw1]; congr 1
  obtain ⟨kb, hkb⟩ : ∃ kb, kb = p.kb := ⟨_, rfl⟩
  obtain ⟨J, hJ⟩ : ∃ J, J = (iwOf x l).su s := ⟨_, rfl⟩
  rw [← hJ] at HBH hq1 hq2 hq0 HSU
  dsimp only
  rw [← hg]
  have HS1 := Lib.hid hS1
  have HP := Lib.hid hp
  have HQ1 := Lib.hid hq1
  have HQ2 := Lib.hid hq2
  have HQ0 := Lib.hid hq0
  have HRC : Hid (∀ w', GoS w0 w' x l p t v { b with L := up b.L s (c + 1) } → w'.cell? ⟨g, 0, none⟩ = some (.int .i64 x.n) ∧ w'.cell? ⟨g, 1, none⟩ = some (.int .i64 x.r) ∧ w'.cell? ⟨g, 2, none⟩ = some (.bool x.h) ∧ w'.cell? ⟨g, 5, none⟩ = some (.slice (some ⟨kb, 0, none⟩) n n) ∧ w'.cell? ⟨kb, J, none⟩ = some (.chan (some (p.cs J)))) := by
    show ∀ _, _
    intro w' h
    have a0 := h.run.cell 0
    have a1 := h.run.cell 1
    have a2 := h.run.cell 2
    have a5 := h.run.cell 5
    simp only [List.getElem?_toArray, List.getElem?_cons_zero, List.getElem?_cons_succ] at a0 a1 a2 a5
    rw [hg, hkb, hN]
    exact ⟨a0, a1, a2, a5, h.links.cell J HSU.out⟩
  have HRD : Hid (∀ w', GoS w0 w' x l p t (up v s true) { b with L := up b.L s (c + 1) } → w'.cell? ⟨g, 0, none⟩ = some (.int .i64 x.n) ∧ w'.cell? ⟨g, 1, none⟩ = some (.int .i64 x.r) ∧ w'.cell? ⟨g, 2, none⟩ = some (.bool x.h) ∧ w'.cell? ⟨g, 5, none⟩ = some (.slice (some ⟨kb, 0, none⟩) n n) ∧ w'.cell? ⟨kb, J, none⟩ = some (.chan (some (p.cs J)))) := by
    show ∀ _, _
    intro w' h
    have a0 := h.run.cell 0
    have a1 := h.run.cell 1
    have a2 := h.run.cell 2
    have a5 := h.run.cell 5
    simp only [List.getElem?_toArray, List.getElem?_cons_zero, List.getElem?_cons_succ] at a0 a1 a2 a5
    rw [hg, hkb, hN]
    exact ⟨a0, a1, a2, a5, h.links.cell J HSU.out⟩
  have hJn : J < n := by rw [hN]; exact HSU.out
  have hJI : (J : Int) < (n : Int) := by omega
  have HN := Lib.hid hN
  have HJN := Lib.hid HSU.out
  obtain ⟨b1, hb1⟩ : ∃ b1 : Ist, b1 = { b with L := up b.L s (c + 1) } := ⟨_, rfl⟩
  rw [← hb1] at HS1 HRC HRD HQ1 HQ2 HQ0 hQ
  obtain ⟨v1, hv1⟩ : ∃ v1, v1 = up v s true := ⟨_, rfl⟩
  rw [← hv1] at HRD HQ1 HQ2 hQ
  clear hS hS1 hp hq1 hq2 hq0 hr hall hok hx hg hkb hw1 hN hsb hJ HSU hb1 hv1 c5 hsu hv
  obtain rfl := Option.some.inj hrest
  clear hrest
  go_upto_region 9 with fail
  rw [HW1.out]
  clear c7 d0 d1 HW1
  refine wp_region_row (by kernel_rfl) (by kernel_rfl) 69 14 (by kernel_rfl) (by decide) (by simp) (fun i => [.pointer (some ⟨g, 0, none⟩), .pointer (some ⟨g, 0, none⟩), .pointer (some ⟨g, 5, none⟩), .slice (some ⟨kb, 0, none⟩) n n, .pointer (some ⟨g, 0, none⟩), .pointer (some ⟨g, 0, none⟩), .pointer (some ⟨g, 0, none⟩), .agg #[.int .i64 x.n, .int .i64 x.r, .bool x.h], .agg #[.int .i64 x.n, .bool false], .int .i64 (s : Int), .int .i64 (J : Int), .pointer (some ⟨kb, J, none⟩), .chan (some (p.cs J)), .int .i64 (c : Int)].getD i undef)
    (fun D w' => if D 14 = true then GoS w0 w' x l p t v1 b1 else GoS w0 w' x l p t v b1) ?_ ?_ ?_
  · rw [if_neg (by simp)]; exact HS1.out.drew
  · intro D D' ev w' i hi' hd hpre hD' hev hec hef hW
    have e0 := hev 0
    have e1 := hev 1
    have e5 := hev 5
    simp at e0 e1 e5
    have hi11 : i < 15 := hi'
    match i, hi11 with
    | 0, _ =>
      exact .value w' (by simp [go_sem, execOp, e0]) (by simpa [hD'] using hW)
    | 1, _ =>
      have p0 : D 0 = true := hpre ⟨0, .data⟩ (by simp) rfl
      have f0 := hev 69
      simp [p0] at f0
      exact .value w' (by simp [go_sem, execOp, f0]) (by simpa [hD'] using hW)
    | 2, _ =>
      have p1 : D 1 = true := hpre ⟨1, .data⟩ (by simp) rfl
      have f1 := hev 70
      simp [p1] at f1
      exact .value w' (by simp [go_sem, execOp, f1]) (by simpa [hD'] using hW)
    | 3, _ =>
      have p2 : D 2 = true := hpre ⟨2, .data⟩ (by simp) rfl
      have f2 := hev 71
      simp [p2] at f2
      have hcl : w'.cell? ⟨g, 0, none⟩ = some (.int .i64 x.n) ∧ w'.cell? ⟨g, 1, none⟩ = some (.int .i64 x.r) ∧ w'.cell? ⟨g, 2, none⟩ = some (.bool x.h) ∧ w'.cell? ⟨g, 5, none⟩ = some (.slice (some ⟨kb, 0, none⟩) n n) ∧ w'.cell? ⟨kb, J, none⟩ = some (.chan (some (p.cs J))) := by
        by_cases h14 : D 14 = true
        · rw [if_pos h14] at hW; exact HRD.out w' hW
        · rw [if_neg h14] at hW; exact HRC.out w' hW
      obtain ⟨q0, q1, q2, q5, qk⟩ := hcl
      exact .value w' (by simp [go_sem, execOp, f2, q5]) (by simpa [hD'] using hW)
    | 4, _ =>
      exact .value w' (by simp [go_sem, execOp, e0]) (by simpa [hD'] using hW)
    | 5, _ =>
      have p4 : D 4 = true := hpre ⟨4, .data⟩ (by simp) rfl
      have f4 := hev 73
      simp [p4] at f4
      exact .value w' (by simp [go_sem, execOp, f4]) (by simpa [hD'] using hW)
    | 6, _ =>
      have p5 : D 5 = true := hpre ⟨5, .data⟩ (by simp) rfl
      have f5 := hev 74
      simp [p5] at f5
      exact .value w' (by simp [go_sem, execOp, f5]) (by simpa [hD'] using hW)
    | 7, _ =>
      have p6 : D 6 = true := hpre ⟨6, .data⟩ (by simp) rfl
      have f6 := hev 75
      simp [p6] at f6
      have hcl : w'.cell? ⟨g, 0, none⟩ = some (.int .i64 x.n) ∧ w'.cell? ⟨g, 1, none⟩ = some (.int .i64 x.r) ∧ w'.cell? ⟨g, 2, none⟩ = some (.bool x.h) ∧ w'.cell? ⟨g, 5, none⟩ = some (.slice (some ⟨kb, 0, none⟩) n n) ∧ w'.cell? ⟨kb, J, none⟩ = some (.chan (some (p.cs J))) := by
        by_cases h14 : D 14 = true
        · rw [if_pos h14] at hW; exact HRD.out w' hW
        · rw [if_neg h14] at hW; exact HRC.out w' hW
      obtain ⟨q0, q1, q2, q5, qk⟩ := hcl
      exact .value w' (by simp [go_sem, execOp, f6, q0, q1, q2]) (by simpa [hD'] using hW)
    | 8, _ =>
      have p7 : D 7 = true := hpre ⟨7, .data⟩ (by simp) rfl
      have f7 := hev 76
      simp [p7] at f7
      refine .call 37 #[.agg #[.int .i64 x.n, .int .i64 x.r, .bool x.h]] w' ((run_call_any (f := 37) (ρ := ev) (args := #[.tmp 76]) (ats := #[29]) rfl (hef _) Try.func37 (by kernel_rfl) rfl).trans (by simp [f7])) ((HAS.out w').mono ?_)
      rintro e w'' ⟨rfl, hb''⟩
      refine ⟨rfl, ?_⟩
      by_cases h14 : D 14 = true
      · rw [if_pos h14] at hW; rw [if_pos (by simpa [hD'] using h14)]; exact hW.step hb''
      · rw [if_neg h14] at hW; rw [if_neg (by simpa [hD'] using h14)]; exact hW.step hb''
    | 9, _ =>
      exact .value w' (by simp [go_sem, execOp, e1]) (by simpa [hD'] using hW)
    | 10, _ =>
      have p8 : D 8 = true := hpre ⟨8, .data⟩ (by simp) rfl
      have p9 : D 9 = true := hpre ⟨9, .data⟩ (by simp) rfl
      have f8 := hev 77
      have f9 := hev 78
      simp [p8, p9] at f8 f9
      refine .call 74 #[.agg #[.int .i64 x.n, .bool false], .int .i64 (s : Int)] w' ((run_call_any (f := 74) (ρ := ev) (args := #[.tmp 77, .tmp 78]) (ats := #[64, 3]) rfl (hef _) Try.func74 (by kernel_rfl) rfl).trans (by simp [f8, f9])) ((HBH.out w').mono ?_)
      rintro e w'' ⟨rfl, hb''⟩
      refine ⟨rfl, ?_⟩
      by_cases h14 : D 14 = true
      · rw [if_pos h14] at hW; rw [if_pos (by simpa [hD'] using h14)]; exact hW.step hb''
      · rw [if_neg h14] at hW; rw [if_neg (by simpa [hD'] using h14)]; exact hW.step hb''
    | 11, _ =>
      have p3 : D 3 = true := hpre ⟨3, .data⟩ (by simp) rfl
      have p10 : D 10 = true := hpre ⟨10, .data⟩ (by simp) rfl
      have f3 := hev 72
      have f10 := hev 79
      simp [p3, p10] at f3 f10
      exact .value w' (by simp [go_sem, execOp, f3, f10, hJn]) (by simpa [hD'] using hW)
    | 12, _ =>
      have p11 : D 11 = true := hpre ⟨11, .data⟩ (by simp) rfl
      have f11 := hev 80
      simp [p11] at f11
      have hcl : w'.cell? ⟨g, 0, none⟩ = some (.int .i64 x.n) ∧ w'.cell? ⟨g, 1, none⟩ = some (.int .i64 x.r) ∧ w'.cell? ⟨g, 2, none⟩ = some (.bool x.h) ∧ w'.cell? ⟨g, 5, none⟩ = some (.slice (some ⟨kb, 0, none⟩) n n) ∧ w'.cell? ⟨kb, J, none⟩ = some (.chan (some (p.cs J))) := by
        by_cases h14 : D 14 = true
        · rw [if_pos h14] at hW; exact HRD.out w' hW
        · rw [if_neg h14] at hW; exact HRC.out w' hW
      obtain ⟨q0, q1, q2, q5, qk⟩ := hcl
      exact .value w' (by simp [go_sem, execOp, f11, qk]) (by simpa [hD'] using hW)
    | 13, _ =>
      exact .value w' (by simp [go_sem, execOp, e5]) (by simpa [hD'] using hW)
    | 14, _ =>
      have p12 : D 12 = true := hpre ⟨12, .data⟩ (by simp) rfl
      have p13 : D 13 = true := hpre ⟨13, .data⟩ (by simp) rfl
      have f12 := hev 81
      have f13 := hev 82
      simp [p12, p13] at f12 f13
      have hd14 : ¬ D 14 = true := by have : D 14 = false := hd; rw [this]; simp
      rw [if_neg hd14] at hW
      obtain ⟨sc, rc, hch⟩ := hW.links.ch J HJN.out
      rw [HQ0.out] at hch
      refine .send (p.cs J) 1 sc rc _ false (.int .i64 (c : Int)) (.tuple #[]) w' (by simp) (by simp [go_sem, f12, f13, scase]) hch (by simp) ?_
      rw [if_pos (by simp [hD'])]
      exact hW.chan HP.out HJN.out HQ2.out _ (by rw [HQ1.out]; rfl) (sc + 1) rc
  · intro D w' hall hW
    rw [if_pos (hall 14 (by decide))] at hW
    exact hQ _ _ (putAll_defers _ _ _ _) hW
end
section
open Go.RowKit Go.Conc Go.Sort
set_option maxRecDepth 100000
set_option linter.unusedVariables false

/-- A buffer's first cell is taken off, its header not yet. -/
def Half (w0 : World) (x : Ir) (l : List Ms) (p : GL) (t : Nat) (v : Nat → Bool) (a : Ist) (s : Nat) (r : List Nat) (w : World) : Prop := ∃ wp, GoS w0 wp x l p t v a ∧ Wr p.rm (p.rm + 1) wp w ∧ Mem w p.rm x.n.toNat x.r.toNat (up a.B s r)
theorem Half.step {w0 w w' : World} {x : Ir} {l : List Ms} {p : GL} {t : Nat} {v : Nat → Bool} {a : Ist} {s : Nat} {r : List Nat} (h : Half w0 x l p t v a s r w) (hb : Below w.heap.size w w') : Half w0 x l p t v a s r w' := by
  obtain ⟨wp, h1, h2, h3⟩ := h
  exact ⟨wp, h1, h2.trans (Wr.of_below hb _ _), h3.step hb⟩
theorem Half.cell6 {w0 w : World} {x : Ir} {l : List Ms} {p : GL} {t : Nat} {v : Nat → Bool} {a : Ist} {s : Nat} {r : List Nat} (h : Half w0 x l p t v a s r w) (hp : GP w0 x.n.toNat p) : w.cell? ⟨p.g, 6, none⟩ = some (.slice (some ⟨p.bb, 0, none⟩) x.n.toNat x.n.toNat) := by
  obtain ⟨wp, h1, h2, h3⟩ := h
  have := (h1.run.far h2 (by have := hp.gr; omega)).cell 6
  simpa using this
theorem putRow_facts {w : World} {q blk off : Nat} {d d' : Array Int} (hH : Holds (Value.int .i64) w blk off d) (hs : d'.size = d.size) :
    (∀ j, j < d.size → (putRow (Value.int .i64) (Sort.ahead w q) blk off d').cell? ⟨blk, off + j, none⟩ = some (.int .i64 d'[j]!)) ∧ (∀ k, (k < off ∨ off + d.size ≤ k) → (putRow (Value.int .i64) (Sort.ahead w q) blk off d').cell? ⟨blk, k, none⟩ = w.cell? ⟨blk, k, none⟩)
      ∧ (∀ k, (putRow (Value.int .i64) (Sort.ahead w q) blk off d').frozen? ⟨blk, k, none⟩ = w.frozen? ⟨blk, k, none⟩) ∧ Wr blk (blk + 1) w (putRow (Value.int .i64) (Sort.ahead w q) blk off d') ∧ (putRow (Value.int .i64) (Sort.ahead w q) blk off d').heap.size = w.heap.size := by
  have h2 : Holds (Value.int .i64) (Sort.ahead w q) blk off d := hH
  refine ⟨fun j hj => cell?_putRow (Value.int .i64) (Sort.ahead w q) blk off d d' h2 hs j (by omega), fun k hk => ?_, fun k => ?_, ⟨rfl, rfl, rfl, ?_, fun k hk hn => ?_⟩, ?_⟩
  · exact cell?_putRow_other (Value.int .i64) (Sort.ahead w q) blk off d' ⟨blk, k, none⟩ (.inr (by rw [hs]; exact hk))
  · rw [frozen?_putRow]; rfl
  · rw [size_putRow]; exact Nat.le_refl _
  · show (mapBlock (Sort.ahead w q) blk _).heap[k]? = w.heap[k]?
    unfold mapBlock
    simp only [Array.getElem?_modify]
    rw [if_neg (by omega)]
    rfl
  · rw [size_putRow]; rfl
theorem delete_any (x : Ir) (l : List Ms) (w0 : World) (p : GL) (t : Nat) (v : Nat → Bool) (a : Ist) (s c : Nat) (r : List Nat) (w : World) (hp : GP w0 x.n.toNat p) (hS : GoS w0 w x l p t v a) (hs : s < x.n.toNat) (hm : ∀ i, i < x.n.toNat → (a.B i).length ≤ x.r.toNat) (hr20 : x.r.toNat ≤ 20) (hB : a.B s = c :: r) :
    Calls Try.prog 73 #[bufV p.rm x.r.toNat s (a.B s).length, .int .i64 0, .int .i64 1] w fun e w' => e = .returned (bufV p.rm x.r.toNat s r.length) ∧ Half w0 x l p t v a s r w' := by
  have hlen : (a.B s).length = r.length + 1 := by rw [hB]; rfl
  have hH := hS.mem.holds hm hs
  have hroom := hm s hs
  have h := Try.slices_Delete_int p.rm (s * x.r.toNat) x.r.toNat 0 1 (nI (a.B s)) w hH (by simpa using hroom) (by omega) (by omega) (by simp; omega)
  have e1 : (nI (a.B s)).length = (a.B s).length := nI_length _
  rw [e1] at h
  refine h.mono ?_
  rintro e w' ⟨rfl, q, rfl⟩
  have e2 : (nI (a.B s)).take 0 ++ (nI (a.B s)).drop 1 ++ List.replicate (1 - 0) 0 = nI r ++ [0] := by rw [hB]; rfl
  have e3 : (a.B s).length - (1 - 0) = r.length := by omega
  rw [e2, e3]
  obtain ⟨f1, f2, f3, f4, f5⟩ := putRow_facts (q := q) (d' := (nI r ++ [0]).toArray) hH (by simp [hlen])
  have hsz : (nI (a.B s)).toArray.size = r.length + 1 := by simp [hlen]
  rw [hsz] at f1 f2
  exact ⟨rfl, w, hS, f4, hS.mem.drop hm hs hB (by rw [f5]; exact hS.mem.lt) f1 f2 f3⟩
set_option maxHeartbeats 4000000 in
theorem send_pass (x : Ir) (l : List Ms) (w0 : World) (p : GL) (t : Nat) (v : Nat → Bool) (a : Ist) (s c : Nat) (r : List Nat) (w : World) (hk : Kept x l w0 p) (hS : GoS w0 w x l p t v a) (hs : s < x.n.toNat) (hv : v s = false) (hm : ∀ i, i < x.n.toNat → (a.B i).length ≤ x.r.toNat) (hB : a.B s = c :: r) (hc : c < l.length) (Q : Exit → Act → World → Prop)
    (u2 u3 u5 u6 u7 u8 u9 u10 u11 u12 u13 u14 u15 u16 u17 u18 u19 u20 u21 u22 u23 u24 u25 u26 u27 u28 u29 u30 u31 u32 u33 u34 u35 u36 u37 u38 u39 u40 u41 u42 u43 u44 u45 u46 u47 u48 u49 u50 u51 u52 u53 u54 u55 u56 u57 u58 u59 u60 u61 u62 u63 u64 u65 u66 u67 u68 u69 u70 u71 u72 u73 u74 u75 u76 u77 u78 u79 u80 u81 u82 : Value) (rest : Code) (hrest : (match Try.f61.body with | some (.scope c) => findLabel c 1 | _ => none) = some rest)
    (hQ : ∀ a'' w'', a''.defers = [] → GoS w0 w'' x l p t (up v s true) { a with B := up a.B s r, L := up a.L s (c + 1) } → Q .normal a'' w'') :
    rest.wp Try.prog Q { tmps := #[.pointer (some ⟨p.g, 0, none⟩), .int .i64 s, u2, u3, bufV p.rm x.r.toNat s (a.B s).length, u5, u6, u7, u8, u9, u10, u11, u12, u13, u14, u15, u16, u17, u18, u19, u20, u21, u22, u23, u24, u25, u26, u27, u28, u29, u30, u31, u32, u33, u34, u35, u36, u37, u38, u39, u40, u41, u42, u43, u44, u45, u46, u47, u48, u49, u50, u51, u52, u53, u54, u55, u56, u57, u58, u59, u60, u61, u62, u63, u64, u65, u66, u67, u68, u69, u70, u71, u72, u73, u74, u75, u76, u77, u78, u79, u80, u81, u82], defers := [] } w := by
  have hk0 := hk
  obtain ⟨hp, hok, hr⟩ := hk
  have hin := isIr_in (inOk_in hok).1
  have hr20 : x.r.toNat ≤ 20 := by omega
  have HDE := Lib.hid (fun w h => delete_any x l w0 p t v a s c r w hp h hs hm hr20 hB)
  have hlen : (a.B s).length = r.length + 1 := by rw [hB]; rfl
  have hfin : ∀ w', Half w0 x l p t v a s r w' → BK w' p.bb 26 (rowA x.n.toNat fun s => bufV p.rm x.r.toNat s (a.B s).length) ∧ GoS w0 (w'.setCell ⟨p.bb, s, none⟩ (bufV p.rm x.r.toNat s r.length)) x l p t v { a with B := up a.B s r } := by
    rintro w' ⟨wp, h1, h2, h3⟩
    exact h1.setB hp h2 h3
  have HFIN := Lib.hid hfin
  have HC6 : Hid (∀ w', GoS w0 w' x l p t v a → w'.cell? ⟨p.g, 6, none⟩ = some (.slice (some ⟨p.bb, 0, none⟩) x.n.toNat x.n.toNat)) := by
    show ∀ _, _
    intro w' h
    have := h.run.cell 6
    simpa using this
  have HC7 : Hid (∀ w', Half w0 x l p t v a s r w' → w'.cell? ⟨p.g, 6, none⟩ = some (.slice (some ⟨p.bb, 0, none⟩) x.n.toNat x.n.toNat)) := by
    show ∀ _, _
    intro w' h
    exact h.cell6 hp
  have HC8 : Hid (∀ w', GoS w0 w' x l p t v { a with B := up a.B s r } → w'.cell? ⟨p.g, 6, none⟩ = some (.slice (some ⟨p.bb, 0, none⟩) x.n.toNat x.n.toNat)) := by
    show ∀ _, _
    intro w' h
    have := h.run.cell 6
    simpa using this
  have m0 := hS.mem.cell s hs 0 (by omega)
  rw [hB] at m0
  simp only [List.getD_cons_zero, Nat.add_zero, ctI] at m0
  have HROW : Hid (∀ w', BK w' p.bb 26 (rowA x.n.toNat fun s => bufV p.rm x.r.toNat s (a.B s).length) → w'.cell? ⟨p.bb, s, none⟩ = some (bufV p.rm x.r.toNat s (a.B s).length) ∧ w'.frozen? ⟨p.bb, s, none⟩ = false) := by
    show ∀ _, _
    intro w' h
    have h1 := h.cell s
    rw [rowA_at _ _ _ hs] at h1
    exact ⟨h1, h.free s⟩
  have HFIN2 : Hid (∀ w', Half w0 x l p t v a s r w' → (∃ u, w'.cell? ⟨p.bb, s, none⟩ = some u) ∧ w'.frozen? ⟨p.bb, s, none⟩ = false ∧ GoS w0 (w'.setCell ⟨p.bb, s, none⟩ (bufV p.rm x.r.toNat s r.length)) x l p t v { a with B := up a.B s r }) := by
    show ∀ _, _
    intro w' h
    have h1 := HFIN.out w' h
    have h2 := HROW.out w' h1.1
    exact ⟨⟨_, h2.1⟩, h2.2, h1.2⟩
  have HTAIL := Lib.hid (fun w' h => send_tail x l w0 p t v { a with B := up a.B s r } s c w' hk0 h hs hv hc Q)
  obtain ⟨n, hN⟩ : ∃ n, n = x.n.toNat := ⟨_, rfl⟩
  obtain ⟨g, hg⟩ : ∃ g, g = p.g := ⟨_, rfl⟩
  obtain ⟨bb, hbb⟩ : ∃ bb, bb = p.bb := ⟨_, rfl⟩
  have hsn : s < n := by rw [hN]; exact hs
  have HS := Lib.hid hS
  obtain ⟨len, hln⟩ : ∃ len, len = (a.B s).length := ⟨_, rfl⟩
  obtain ⟨off, hoff⟩ : ∃ off, off = s * x.r.toNat := ⟨_, rfl⟩
  obtain ⟨rmb, hrmb⟩ : ∃ rmb, rmb = p.rm := ⟨_, rfl⟩
  obtain ⟨room, hroom⟩ : ∃ room, room = x.r.toNat := ⟨_, rfl⟩
  have hl0 : 0 < len := by omega
  have hl0I : (0 : Int) < (len : Int) := by omega
  have hlr : len = r.length + 1 := by omega
  dsimp only
  unfold bufV at HDE HFIN2 ⊢
  rw [← hg] at HC6 HC7 HC8 HTAIL ⊢
  rw [← hrmb, ← hoff, ← hln, ← hroom] at HDE ⊢
  rw [← hoff, ← hrmb] at m0
  rw [← hN, ← hbb] at HC6 HC7 HC8
  rw [← hbb, ← hrmb, ← hoff, ← hroom] at HFIN2
  clear hk0 hp hok hr hin hr20 hlen hfin HFIN HROW hN hg hbb hln hoff hrmb hroom hS hm hB
  obtain rfl := Option.some.inj hrest
  clear hrest
  go_upto_region 7 with fail
  refine wp_region_row (by kernel_rfl) (by kernel_rfl) 53 8 (by kernel_rfl) (by decide) (by simp) (fun i => [.pointer (some ⟨g, 0, none⟩), .pointer (some ⟨g, 0, none⟩), .pointer (some ⟨g, 6, none⟩), .slice (some ⟨bb, 0, none⟩) n n, .int .i64 (s : Int), .slice (some ⟨rmb, off, none⟩) len room, .slice (some ⟨rmb, off, none⟩) r.length room, .pointer (some ⟨bb, s, none⟩)].getD i undef)
    (fun D w' => (D 8 = true → D 6 = true) ∧ (if D 8 = true then GoS w0 w' x l p t v { a with B := up a.B s r } else if D 6 = true then Half w0 x l p t v a s r w' else GoS w0 w' x l p t v a)) ?_ ?_ ?_
  · exact ⟨fun h => by simp at h, by rw [if_neg (by simp), if_neg (by simp)]; exact HS.out.drew⟩
  · intro D D' ev w' i hi' hd hpre hD' hev hec hef hW
    have e0 := hev 0
    have e1 := hev 1
    have e4 := hev 4
    simp at e0 e1 e4
    have hi11 : i < 9 := hi'
    match i, hi11 with
    | 0, _ =>
      exact .value w' (by simp [go_sem, execOp, e0]) (by simpa [hD'] using hW)
    | 1, _ =>
      have p0 : D 0 = true := hpre ⟨0, .data⟩ (by simp) rfl
      have f0 := hev 53
      simp [p0] at f0
      exact .value w' (by simp [go_sem, execOp, f0]) (by simpa [hD'] using hW)
    | 2, _ =>
      have p1 : D 1 = true := hpre ⟨1, .data⟩ (by simp) rfl
      have f1 := hev 54
      simp [p1] at f1
      exact .value w' (by simp [go_sem, execOp, f1]) (by simpa [hD'] using hW)
    | 3, _ =>
      have p2 : D 2 = true := hpre ⟨2, .data⟩ (by simp) rfl
      have f2 := hev 55
      simp [p2] at f2
      have c6 : w'.cell? ⟨g, 6, none⟩ = some (.slice (some ⟨bb, 0, none⟩) n n) := by
        have h2 := hW.2
        by_cases h8 : D 8 = true
        · rw [if_pos h8] at h2; exact HC8.out w' h2
        · rw [if_neg h8] at h2
          by_cases h6 : D 6 = true
          · rw [if_pos h6] at h2; exact HC7.out w' h2
          · rw [if_neg h6] at h2; exact HC6.out w' h2
      exact .value w' (by simp [go_sem, execOp, f2, c6]) (by simpa [hD'] using hW)
    | 4, _ =>
      exact .value w' (by simp [go_sem, execOp, e1]) (by simpa [hD'] using hW)
    | 5, _ =>
      exact .value w' (by simp [go_sem, execOp, e4]) (by simpa [hD'] using hW)
    | 6, _ =>
      have p5 : D 5 = true := hpre ⟨5, .data⟩ (by simp) rfl
      have f5 := hev 58
      simp [p5] at f5
      have hd6 : D 6 = false := hd
      have hn8 : ¬ D 8 = true := fun h => by have := hW.1 h; rw [hd6] at this; cases this
      have hpr := hW.2
      rw [if_neg hn8, if_neg (by rw [hd6]; simp)] at hpr
      refine .call 73 #[.slice (some ⟨rmb, off, none⟩) len room, .int .i64 0, .int .i64 1] w' ((run_call_any (f := 73) (ρ := ev) (args := #[.tmp 58, .const (.int .i64 0), .const (.int .i64 1)]) (ats := #[26, 3, 3]) rfl (hef _) Try.func73 (by kernel_rfl) rfl).trans (by simp [f5, hec])) ((HDE.out w' hpr).mono ?_)
      rintro e w'' ⟨rfl, hh⟩
      exact ⟨rfl, fun h => by simp [hD'], by rw [if_neg (by simpa [hD'] using hn8), if_pos (by simp [hD'])]; exact hh⟩
    | 7, _ =>
      have p3 : D 3 = true := hpre ⟨3, .data⟩ (by simp) rfl
      have p4 : D 4 = true := hpre ⟨4, .data⟩ (by simp) rfl
      have f3 := hev 56
      have f4 := hev 57
      simp [p3, p4] at f3 f4
      exact .value w' (by simp [go_sem, execOp, f3, f4, hsn]) (by simpa [hD'] using hW)
    | 8, _ =>
      have p6 : D 6 = true := hpre ⟨6, .data⟩ (by simp) rfl
      have p7 : D 7 = true := hpre ⟨7, .data⟩ (by simp) rfl
      have f6 := hev 59
      have f7 := hev 60
      simp [p6, p7] at f6 f7
      have hd8 : ¬ D 8 = true := by have : D 8 = false := hd; rw [this]; simp
      have hpr := hW.2
      rw [if_neg hd8, if_pos p6] at hpr
      obtain ⟨⟨uu, hu⟩, hfz, hg⟩ := HFIN2.out w' hpr
      refine .skip (w'.setCell ⟨bb, s, none⟩ (.slice (some ⟨rmb, off, none⟩) r.length room)) rfl (by simp [go_sem, execOp, f6, f7, hu, hfz]) ⟨fun _ => by simpa [hD'] using p6, ?_⟩
      rw [if_pos (by simp [hD'])]
      exact hg
  · intro D w' hall hW
    have hW := hW.2
    rw [if_pos (hall 8 (by decide))] at hW
    have HW8 := Lib.hid hW
    clear hW
    simp only [putAll, Act.put, List.getD_cons_zero, List.getD_cons_succ, Nat.reduceAdd, List.setIfInBounds_toArray, List.set_cons_succ, List.set_cons_zero, Exit.then]
    refine ‹∀ (a : Act) (w : World), _ → _› _ _ ?_
    go_wp2_with fail
    go_step3
    simp only [Exit.then]
    refine ‹∀ (a : Act) (w : World), _ → _› _ _ ?_
    exact HTAIL.out _ HW8.out _ _ _ _ _ _ _ _ _ _ _ _ _ _ _ _ _ _ _ _ _ _ _ _ _ _ _ _ _ _ _ _ _ _ _ _ _ _ _ _ _ _ _ _ _ _ _ _ _ _ _ _ _ _ _ _ _ _ _ _ _ _ _ _ _ _ _ _ _ _ _ _ _ _ _ _ _ _ _ _ _ rfl hQ
end
section
open Go.RowKit Go.Conc Go.Sort
set_option maxRecDepth 100000
set_option linter.unusedVariables false

theorem up_up {α : Type} (f : Nat → α) (j : Nat) (u v : α) : up (up f j u) j v = up f j v := by
  funext i
  unfold up
  split <;> rfl
set_option maxHeartbeats 4000000 in
theorem send_ins (x : Ir) (l : List Ms) (w0 : World) (p : GL) (t : Nat) (v : Nat → Bool) (a : Ist) (s : Nat) (w : World) (hk : Kept x l w0 p) (hS : GoS w0 w x l p t v a) (hs : s < x.n.toNat) (hv : v s = false) (hI : ∀ i, i < l.length → a.I i = -1 ∨ 0 ≤ a.I i) (hm : ∀ i, i < x.n.toNat → (a.B i).length ≤ x.r.toNat) (N : Option Nat) (hN : (iwOf x l).sw.next a.I s t = N) (c : Nat) (hNc : N = some c) (hlt : (a.B s).length < (iwOf x l).rb) :
    Calls Try.prog 61 #[.pointer (some ⟨p.g, 0, none⟩), .int .i64 s] w (DoneTo w0 x l p t (up v s true) { a with I := up a.I c t, L := up a.L s (c + 1) }) := by
  have hk0 := hk
  obtain ⟨hp, hok, hr⟩ := hk
  have hin := isIr_in (inOk_in hok).1
  obtain ⟨hl20, hall, _⟩ := areMs_in (inOk_in hok).2
  have HFO := Lib.hid (firstOwn_any x l w0 p t v a s w hall hl20 hS hr hI (by omega))
  rw [hN] at HFO
  have HRB := Lib.hid (fun w => roomBeforeOwn_any x l w (by omega))
  obtain ⟨rb, hrb⟩ : ∃ rb, rb = (iwOf x l).rb := ⟨_, rfl⟩
  rw [← hrb] at HRB
  have HRBE := Lib.hid hrb
  obtain ⟨len, hlen⟩ : ∃ len, len = (a.B s).length := ⟨_, rfl⟩
  have HB6 : Hid (w.cell? ⟨p.g, 6, none⟩ = some (.slice (some ⟨p.bb, 0, none⟩) x.n.toNat x.n.toNat)) := by
    show _ = _
    have := hS.run.cell 6
    simpa using this
  have HB7 : Hid (w.cell? ⟨p.bb, s, none⟩ = some (bufV p.rm x.r.toNat s (a.B s).length)) := by
    show _ = _
    have := hS.bufs.cell s
    rw [rowA_at _ _ _ hs] at this
    exact this
  have HS2 : Hid (∀ w1, Below w.heap.size w w1 → (w1.cell? ⟨p.g, 7, none⟩ = some (.slice (some ⟨p.sb, 0, none⟩) x.n.toNat x.n.toNat) ∧ (∃ u, w1.cell? ⟨p.sb, s, none⟩ = some u) ∧ w1.frozen? ⟨p.sb, s, none⟩ = false) ∧ GoS w0 (w1.setCell ⟨p.sb, s, none⟩ (.int .i64 0)) x l p t v { a with L := up a.L s 0 }) := by
    show ∀ _, _
    intro w1 hb
    have h1 := hS.step hb
    have h2 := h1.run.cell 7
    have h3 := h1.sent.cell s (by rw [tabl_len]; exact hs)
    exact ⟨⟨by simpa using h2, ⟨_, h3⟩, h1.sent.free s⟩, h1.setL hp hv 0⟩
  have HRG : Hid (∀ w1, GoS w0 w1 x l p t v { a with L := up a.L s 0 } → w1.cell? ⟨p.g, 0, none⟩ = some (.int .i64 x.n) ∧ w1.cell? ⟨p.g, 1, none⟩ = some (.int .i64 x.r) ∧ w1.cell? ⟨p.g, 2, none⟩ = some (.bool x.h)) := by
    show ∀ _, _
    intro w1 h
    have a0 := h.run.cell 0
    have a1 := h.run.cell 1
    have a2 := h.run.cell 2
    exact ⟨by simpa using a0, by simpa using a1, by simpa using a2⟩
  have hsn : s < x.n.toNat := hs
  have hsI : (s : Int) < ((x.n.toNat : Nat) : Int) := by omega
  subst hNc
  have hcl : c < l.length := (Sw.next_some hN).1
  rw [← hrb, ← hlen] at hlt
  have hltI : (len : Int) < (rb : Int) := by omega
  have hcI : (c : Int) < (l.length : Int) := by omega
  have HS5 : Hid (∀ w1, GoS w0 w1 x l p t v { a with L := up a.L s 0 } → ∃ cc, (w1.cell? ⟨p.g, 8, none⟩ = some (.slice (some ⟨p.ib, 0, none⟩) l.length cc) ∧ w1.cell? ⟨p.g, 4, none⟩ = some (.int .i64 (t : Int)) ∧ (∃ u, w1.cell? ⟨p.ib, c, none⟩ = some u) ∧ w1.frozen? ⟨p.ib, c, none⟩ = false) ∧ ∀ w2, Below w1.heap.size w1 w2 → GoS w0 (w2.setCell ⟨p.ib, c, none⟩ (.int .i64 (t : Int))) x l p t v { a with L := up a.L s 0, I := up a.I c t }) := by
    show ∀ _, _
    intro w1 h
    obtain ⟨cc, hvi, hrc⟩ := h.ins.at_ c (by rw [tabl_len]; exact hcl)
    have h8 := h.run.cell 8
    have h4 := h.run.cell 4
    rw [tabl_len] at hvi
    rw [hvi] at h8
    exact ⟨cc, ⟨by simpa using h8, by simpa using h4, ⟨_, hrc.cell c (by rw [tabl_len]; exact hcl)⟩, hrc.free c⟩, fun w2 hb => (h.step hb).setI hp hcl t⟩
  have HTL : Hid (∀ w1, GoS w0 w1 x l p t v { a with L := up a.L s 0, I := up a.I c t } → ∀ Q, _) := fun w1 h Q => send_tail x l w0 p t v { a with L := up a.L s 0, I := up a.I c t } s c w1 hk0 h hs hv hcl Q
  have c6 := HB6.out
  have c66 := HB7.out
  unfold bufV at c66
  rw [← hlen] at c66
  simp only [firstV] at HFO
  clear hS hk0 hp hok hr hall hin hI hm hlen hrb hN hs hv hlt HB7 HB6
  go_enter Try.func61, Try.ntmps61
  refine wp_scope_fwd 3 ?_
  go_wp2_with fail
  refine HFO.out.mono ?_; rintro e w1 ⟨rfl, hb1⟩
  obtain ⟨⟨c7, ⟨u7, d0⟩, d1⟩, hS2⟩ := HS2.out w1 hb1
  have HS3 := Lib.hid hS2
  clear hb1 hS2 c6 c66
  obtain ⟨g0, g1, g2⟩ := HRG.out _ HS3.out
  go_upto_region 3 with fail
  generalize w1.setCell ⟨p.sb, s, none⟩ (.int .i64 0) = w2 at HS3 g0 g1 g2 ⊢
  clear c7 d0 d1
  go_wp2_with fail
  refine (HRB.out _).mono ?_; rintro e w3 ⟨rfl, hb3⟩
  have HS4 := Lib.hid (HS3.out.step hb3)
  clear hb3 g0 g1 g2
  go_wp2_with fail
  go_step3
  clear HFO HRB HS2 HRG
  refine ⟨_, rfl, ?_⟩
  obtain ⟨cc, ⟨h8, h4, ⟨uu, hu⟩, hfz⟩, hset⟩ := HS5.out w3 HS4.out
  have HSET := Lib.hid (hset _ (Below.refl _ _).drew)
  clear hset HS5
  go_upto_region 5 with fail
  go_region
  go_wp2_with fail
  go_step3
  refine ⟨_, rfl, wp_seq (wp_skip ?_)⟩
  simp only [Exit.then]
  refine HTL.out _ HSET.out _ _ _ _ _ _ _ _ _ _ _ _ _ _ _ _ _ _ _ _ _ _ _ _ _ _ _ _ _ _ _ _ _ _ _ _ _ _ _ _ _ _ _ _ _ _ _ _ _ _ _ _ _ _ _ _ _ _ _ _ _ _ _ _ _ _ _ _ _ _ _ _ _ _ _ _ _ _ _ _ _ _ rfl fun a'' w'' hd h => ?_
  rw [up_up] at h
  exact ⟨hd, .tuple #[], by simp [results, Try.results61, go_sem], rfl, h⟩
set_option maxHeartbeats 4000000 in
theorem send_go_none (x : Ir) (l : List Ms) (w0 : World) (p : GL) (t : Nat) (v : Nat → Bool) (a : Ist) (s : Nat) (w : World) (hk : Kept x l w0 p) (hS : GoS w0 w x l p t v a) (hs : s < x.n.toNat) (hv : v s = false) (hI : ∀ i, i < l.length → a.I i = -1 ∨ 0 ≤ a.I i) (hm : ∀ i, i < x.n.toNat → (a.B i).length ≤ x.r.toNat) (N : Option Nat) (hN : (iwOf x l).sw.next a.I s t = N) (hNc : N = none) (c : Nat) (r : List Nat) (hB : a.B s = c :: r) (hc : c < l.length) :
    Calls Try.prog 61 #[.pointer (some ⟨p.g, 0, none⟩), .int .i64 s] w (DoneTo w0 x l p t (up v s true) { a with B := up a.B s r, L := up a.L s (c + 1) }) := by
  have hk0 := hk
  obtain ⟨hp, hok, hr⟩ := hk
  have hin := isIr_in (inOk_in hok).1
  obtain ⟨hl20, hall, _⟩ := areMs_in (inOk_in hok).2
  have HFO := Lib.hid (firstOwn_any x l w0 p t v a s w hall hl20 hS hr hI (by omega))
  rw [hN] at HFO
  have HRB := Lib.hid (fun w => roomBeforeOwn_any x l w (by omega))
  obtain ⟨rb, hrb⟩ : ∃ rb, rb = (iwOf x l).rb := ⟨_, rfl⟩
  rw [← hrb] at HRB
  have HRBE := Lib.hid hrb
  obtain ⟨len, hlen⟩ : ∃ len, len = (a.B s).length := ⟨_, rfl⟩
  have HB6 : Hid (w.cell? ⟨p.g, 6, none⟩ = some (.slice (some ⟨p.bb, 0, none⟩) x.n.toNat x.n.toNat)) := by
    show _ = _
    have := hS.run.cell 6
    simpa using this
  have HB7 : Hid (w.cell? ⟨p.bb, s, none⟩ = some (bufV p.rm x.r.toNat s (a.B s).length)) := by
    show _ = _
    have := hS.bufs.cell s
    rw [rowA_at _ _ _ hs] at this
    exact this
  have HS2 : Hid (∀ w1, Below w.heap.size w w1 → (w1.cell? ⟨p.g, 7, none⟩ = some (.slice (some ⟨p.sb, 0, none⟩) x.n.toNat x.n.toNat) ∧ (∃ u, w1.cell? ⟨p.sb, s, none⟩ = some u) ∧ w1.frozen? ⟨p.sb, s, none⟩ = false) ∧ GoS w0 (w1.setCell ⟨p.sb, s, none⟩ (.int .i64 0)) x l p t v { a with L := up a.L s 0 }) := by
    show ∀ _, _
    intro w1 hb
    have h1 := hS.step hb
    have h2 := h1.run.cell 7
    have h3 := h1.sent.cell s (by rw [tabl_len]; exact hs)
    exact ⟨⟨by simpa using h2, ⟨_, h3⟩, h1.sent.free s⟩, h1.setL hp hv 0⟩
  have HRG : Hid (∀ w1, GoS w0 w1 x l p t v { a with L := up a.L s 0 } → w1.cell? ⟨p.g, 0, none⟩ = some (.int .i64 x.n) ∧ w1.cell? ⟨p.g, 1, none⟩ = some (.int .i64 x.r) ∧ w1.cell? ⟨p.g, 2, none⟩ = some (.bool x.h)) := by
    show ∀ _, _
    intro w1 h
    have a0 := h.run.cell 0
    have a1 := h.run.cell 1
    have a2 := h.run.cell 2
    exact ⟨by simpa using a0, by simpa using a1, by simpa using a2⟩
  have hsn : s < x.n.toNat := hs
  have hsI : (s : Int) < ((x.n.toNat : Nat) : Int) := by omega
  subst hNc
  have hl0 : 0 < len := by rw [hlen, hB]; simp
  have hl0I : (0 : Int) < (len : Int) := by omega
  have HTL : Hid (∀ w1, GoS w0 w1 x l p t v { a with L := up a.L s 0 } → ∀ Q, _) := fun w1 h Q => send_pass x l w0 p t v { a with L := up a.L s 0 } s c r w1 hk0 h hs hv hm hB hc Q
  have c6 := HB6.out
  have c66 := HB7.out
  unfold bufV at c66 HTL
  simp only at HTL
  rw [← hlen] at c66 HTL
  simp only [firstV] at HFO
  clear hS hk0 hp hok hr hall hin hI hm hlen hrb hN hs hv HB7 HB6 hB
  go_enter Try.func61, Try.ntmps61
  refine wp_scope_fwd 3 ?_
  go_wp2_with fail
  refine HFO.out.mono ?_; rintro e w1 ⟨rfl, hb1⟩
  obtain ⟨⟨c7, ⟨u7, d0⟩, d1⟩, hS2⟩ := HS2.out w1 hb1
  have HS3 := Lib.hid hS2
  clear hb1 hS2 c6 c66
  go_wp2_with fail
  go_step3
  refine ⟨_, rfl, ?_⟩
  refine HTL.out _ HS3.out _ _ _ _ _ _ _ _ _ _ _ _ _ _ _ _ _ _ _ _ _ _ _ _ _ _ _ _ _ _ _ _ _ _ _ _ _ _ _ _ _ _ _ _ _ _ _ _ _ _ _ _ _ _ _ _ _ _ _ _ _ _ _ _ _ _ _ _ _ _ _ _ _ _ _ _ _ _ _ _ _ _ rfl fun a'' w'' hd h => ?_
  rw [up_up] at h
  exact ⟨hd, .tuple #[], by simp [results, Try.results61, go_sem], rfl, h⟩
set_option maxHeartbeats 4000000 in
theorem send_go_some (x : Ir) (l : List Ms) (w0 : World) (p : GL) (t : Nat) (v : Nat → Bool) (a : Ist) (s : Nat) (w : World) (hk : Kept x l w0 p) (hS : GoS w0 w x l p t v a) (hs : s < x.n.toNat) (hv : v s = false) (hI : ∀ i, i < l.length → a.I i = -1 ∨ 0 ≤ a.I i) (hm : ∀ i, i < x.n.toNat → (a.B i).length ≤ x.r.toNat) (N : Option Nat) (hN : (iwOf x l).sw.next a.I s t = N) (c' : Nat) (hNc : N = some c') (hlt : ¬ (a.B s).length < (iwOf x l).rb) (c : Nat) (r : List Nat) (hB : a.B s = c :: r) (hc : c < l.length) :
    Calls Try.prog 61 #[.pointer (some ⟨p.g, 0, none⟩), .int .i64 s] w (DoneTo w0 x l p t (up v s true) { a with B := up a.B s r, L := up a.L s (c + 1) }) := by
  have hk0 := hk
  obtain ⟨hp, hok, hr⟩ := hk
  have hin := isIr_in (inOk_in hok).1
  obtain ⟨hl20, hall, _⟩ := areMs_in (inOk_in hok).2
  have HFO := Lib.hid (firstOwn_any x l w0 p t v a s w hall hl20 hS hr hI (by omega))
  rw [hN] at HFO
  have HRB := Lib.hid (fun w => roomBeforeOwn_any x l w (by omega))
  obtain ⟨rb, hrb⟩ : ∃ rb, rb = (iwOf x l).rb := ⟨_, rfl⟩
  rw [← hrb] at HRB
  have HRBE := Lib.hid hrb
  obtain ⟨len, hlen⟩ : ∃ len, len = (a.B s).length := ⟨_, rfl⟩
  have HB6 : Hid (w.cell? ⟨p.g, 6, none⟩ = some (.slice (some ⟨p.bb, 0, none⟩) x.n.toNat x.n.toNat)) := by
    show _ = _
    have := hS.run.cell 6
    simpa using this
  have HB7 : Hid (w.cell? ⟨p.bb, s, none⟩ = some (bufV p.rm x.r.toNat s (a.B s).length)) := by
    show _ = _
    have := hS.bufs.cell s
    rw [rowA_at _ _ _ hs] at this
    exact this
  have HS2 : Hid (∀ w1, Below w.heap.size w w1 → (w1.cell? ⟨p.g, 7, none⟩ = some (.slice (some ⟨p.sb, 0, none⟩) x.n.toNat x.n.toNat) ∧ (∃ u, w1.cell? ⟨p.sb, s, none⟩ = some u) ∧ w1.frozen? ⟨p.sb, s, none⟩ = false) ∧ GoS w0 (w1.setCell ⟨p.sb, s, none⟩ (.int .i64 0)) x l p t v { a with L := up a.L s 0 }) := by
    show ∀ _, _
    intro w1 hb
    have h1 := hS.step hb
    have h2 := h1.run.cell 7
    have h3 := h1.sent.cell s (by rw [tabl_len]; exact hs)
    exact ⟨⟨by simpa using h2, ⟨_, h3⟩, h1.sent.free s⟩, h1.setL hp hv 0⟩
  have HRG : Hid (∀ w1, GoS w0 w1 x l p t v { a with L := up a.L s 0 } → w1.cell? ⟨p.g, 0, none⟩ = some (.int .i64 x.n) ∧ w1.cell? ⟨p.g, 1, none⟩ = some (.int .i64 x.r) ∧ w1.cell? ⟨p.g, 2, none⟩ = some (.bool x.h)) := by
    show ∀ _, _
    intro w1 h
    have a0 := h.run.cell 0
    have a1 := h.run.cell 1
    have a2 := h.run.cell 2
    exact ⟨by simpa using a0, by simpa using a1, by simpa using a2⟩
  have hsn : s < x.n.toNat := hs
  have hsI : (s : Int) < ((x.n.toNat : Nat) : Int) := by omega
  subst hNc
  rw [← hrb, ← hlen] at hlt
  have hltI : ¬ (len : Int) < (rb : Int) := by omega
  have hl0 : 0 < len := by rw [hlen, hB]; simp
  have hl0I : (0 : Int) < (len : Int) := by omega
  have HTL : Hid (∀ w1, GoS w0 w1 x l p t v { a with L := up a.L s 0 } → ∀ Q, _) := fun w1 h Q => send_pass x l w0 p t v { a with L := up a.L s 0 } s c r w1 hk0 h hs hv hm hB hc Q
  have c6 := HB6.out
  have c66 := HB7.out
  unfold bufV at c66 HTL
  simp only at HTL
  rw [← hlen] at c66 HTL
  simp only [firstV] at HFO
  clear hS hk0 hp hok hr hall hin hI hm hlen hrb hN hs hv HB7 HB6 hB hlt
  go_enter Try.func61, Try.ntmps61
  refine wp_scope_fwd 3 ?_
  go_wp2_with fail
  refine HFO.out.mono ?_; rintro e w1 ⟨rfl, hb1⟩
  obtain ⟨⟨c7, ⟨u7, d0⟩, d1⟩, hS2⟩ := HS2.out w1 hb1
  have HS3 := Lib.hid hS2
  clear hb1 hS2 c6 c66
  obtain ⟨g0, g1, g2⟩ := HRG.out _ HS3.out
  go_upto_region 3 with fail
  generalize w1.setCell ⟨p.sb, s, none⟩ (.int .i64 0) = w2 at HS3 g0 g1 g2 ⊢
  clear c7 d0 d1
  go_wp2_with fail
  refine (HRB.out _).mono ?_; rintro e w3 ⟨rfl, hb3⟩
  have HS4 := Lib.hid (HS3.out.step hb3)
  clear hb3 g0 g1 g2
  go_wp2_with fail
  go_step3
  refine ⟨_, rfl, ?_⟩
  refine HTL.out _ HS4.out _ _ _ _ _ _ _ _ _ _ _ _ _ _ _ _ _ _ _ _ _ _ _ _ _ _ _ _ _ _ _ _ _ _ _ _ _ _ _ _ _ _ _ _ _ _ _ _ _ _ _ _ _ _ _ _ _ _ _ _ _ _ _ _ _ _ _ _ _ _ _ _ _ _ _ _ _ _ _ _ _ _ rfl fun a'' w'' hd h => ?_
  rw [up_up] at h
  exact ⟨hd, .tuple #[], by simp [results, Try.results61, go_sem], rfl, h⟩
set_option maxHeartbeats 4000000 in
theorem send_idle (x : Ir) (l : List Ms) (w0 : World) (p : GL) (t : Nat) (v : Nat → Bool) (a : Ist) (s : Nat) (w : World) (hk : Kept x l w0 p) (hS : GoS w0 w x l p t v a) (hs : s < x.n.toNat) (hv : v s = false) (hI : ∀ i, i < l.length → a.I i = -1 ∨ 0 ≤ a.I i) (hm : ∀ i, i < x.n.toNat → (a.B i).length ≤ x.r.toNat) (N : Option Nat) (hN : (iwOf x l).sw.next a.I s t = N) (hNc : N = none) (hB : a.B s = []) :
    Calls Try.prog 61 #[.pointer (some ⟨p.g, 0, none⟩), .int .i64 s] w (DoneTo w0 x l p t (up v s true) { a with L := up a.L s 0, D := up a.D s (a.D s + 1) }) := by
  have hk0 := hk
  obtain ⟨hp, hok, hr⟩ := hk
  have hin := isIr_in (inOk_in hok).1
  obtain ⟨hl20, hall, _⟩ := areMs_in (inOk_in hok).2
  have HFO := Lib.hid (firstOwn_any x l w0 p t v a s w hall hl20 hS hr hI (by omega))
  rw [hN] at HFO
  have HRB := Lib.hid (fun w => roomBeforeOwn_any x l w (by omega))
  obtain ⟨rb, hrb⟩ : ∃ rb, rb = (iwOf x l).rb := ⟨_, rfl⟩
  rw [← hrb] at HRB
  have HRBE := Lib.hid hrb
  obtain ⟨len, hlen⟩ : ∃ len, len = (a.B s).length := ⟨_, rfl⟩
  have HB6 : Hid (w.cell? ⟨p.g, 6, none⟩ = some (.slice (some ⟨p.bb, 0, none⟩) x.n.toNat x.n.toNat)) := by
    show _ = _
    have := hS.run.cell 6
    simpa using this
  have HB7 : Hid (w.cell? ⟨p.bb, s, none⟩ = some (bufV p.rm x.r.toNat s (a.B s).length)) := by
    show _ = _
    have := hS.bufs.cell s
    rw [rowA_at _ _ _ hs] at this
    exact this
  have HS2 : Hid (∀ w1, Below w.heap.size w w1 → (w1.cell? ⟨p.g, 7, none⟩ = some (.slice (some ⟨p.sb, 0, none⟩) x.n.toNat x.n.toNat) ∧ (∃ u, w1.cell? ⟨p.sb, s, none⟩ = some u) ∧ w1.frozen? ⟨p.sb, s, none⟩ = false) ∧ GoS w0 (w1.setCell ⟨p.sb, s, none⟩ (.int .i64 0)) x l p t v { a with L := up a.L s 0 }) := by
    show ∀ _, _
    intro w1 hb
    have h1 := hS.step hb
    have h2 := h1.run.cell 7
    have h3 := h1.sent.cell s (by rw [tabl_len]; exact hs)
    exact ⟨⟨by simpa using h2, ⟨_, h3⟩, h1.sent.free s⟩, h1.setL hp hv 0⟩
  have HRG : Hid (∀ w1, GoS w0 w1 x l p t v { a with L := up a.L s 0 } → w1.cell? ⟨p.g, 0, none⟩ = some (.int .i64 x.n) ∧ w1.cell? ⟨p.g, 1, none⟩ = some (.int .i64 x.r) ∧ w1.cell? ⟨p.g, 2, none⟩ = some (.bool x.h)) := by
    show ∀ _, _
    intro w1 h
    have a0 := h.run.cell 0
    have a1 := h.run.cell 1
    have a2 := h.run.cell 2
    exact ⟨by simpa using a0, by simpa using a1, by simpa using a2⟩
  have hsn : s < x.n.toNat := hs
  have hsI : (s : Int) < ((x.n.toNat : Nat) : Int) := by omega
  subst hNc
  have hl0 : len = 0 := by rw [hlen, hB]; rfl
  subst hl0
  have HFI : Hid (∀ w1, GoS w0 w1 x l p t v { a with L := up a.L s 0 } → GoS w0 w1 x l p t (up v s true) { a with L := up a.L s 0, D := up a.D s (a.D s + 1) }) := by
    show ∀ _, _
    intro w1 h
    refine h.congr (fun j hj => ?_) rfl (fun _ _ => rfl) rfl rfl rfl
    unfold Iw.qv
    by_cases e : (iwOf x l).pr j = s
    · rw [e, hv, up_same]; simp [up_same, lkv]
    · rw [up_ne _ _ _ e]
  have c6 := HB6.out
  have c66 := HB7.out
  unfold bufV at c66
  rw [← hlen] at c66
  simp only [firstV] at HFO
  clear hS hk0 hp hok hr hall hin hI hm hlen hrb hN hs hv HB7 HB6 hB
  go_enter Try.func61, Try.ntmps61
  refine wp_scope_fwd 3 ?_
  go_wp2_with fail
  refine HFO.out.mono ?_; rintro e w1 ⟨rfl, hb1⟩
  obtain ⟨⟨c7, ⟨u7, d0⟩, d1⟩, hS2⟩ := HS2.out w1 hb1
  have HS3 := Lib.hid hS2
  clear hb1 hS2 c6 c66
  go_wp2_with fail
  exact ⟨rfl, .tuple #[], by simp [results, Try.results61, go_sem], rfl, HFI.out _ HS3.out⟩
/-- A station sends, whatever it has. -/
theorem send_any (x : Ir) (l : List Ms) (w0 : World) (p : GL) (t : Nat) (v : Nat → Bool) (m : Nat → Nat) (a : Ist) (s : Nat) (w : World) (hk : Kept x l w0 p) (hS : GoS w0 w x l p t v a) (hInv : (iwOf x l).Inv v m a) (hs : s < x.n.toNat) (hv : v s = false) (hI : ∀ i, i < l.length → a.I i = -1 ∨ 0 ≤ a.I i) (hm : ∀ i, i < x.n.toNat → (a.B i).length ≤ x.r.toNat) :
    Calls Try.prog 61 #[.pointer (some ⟨p.g, 0, none⟩), .int .i64 s] w (DoneTo w0 x l p t (up v s true) ((iwOf x l).put t s a)) := by
  have hrb : 1 ≤ (iwOf x l).rb := by unfold Iw.rb; have := (iwOk hk.ok).r1; split <;> omega
  unfold Iw.put
  cases hN : (iwOf x l).sw.next a.I s t with
  | none =>
    simp only
    unfold Iw.pass
    cases hB : a.B s with
    | nil => exact send_idle x l w0 p t v a s w hk hS hs hv hI hm none hN rfl hB
    | cons c r => exact send_go_none x l w0 p t v a s w hk hS hs hv hI hm none hN rfl c r hB (hInv.mem s hs c (by rw [hB]; simp)).1
  | some c' =>
    simp only
    by_cases hlt : (a.B s).length < (iwOf x l).rb
    · rw [if_pos hlt]
      exact send_ins x l w0 p t v a s w hk hS hs hv hI hm _ hN c' rfl hlt
    · rw [if_neg hlt]
      unfold Iw.pass
      cases hB : a.B s with
      | nil => rw [hB] at hlt; simp at hlt; omega
      | cons c r => exact send_go_some x l w0 p t v a s w hk hS hs hv hI hm _ hN c' rfl hlt c r hB (hInv.mem s hs c (by rw [hB]; simp)).1
end
end Go.Proofs.Ytfphkgialmjfnaa
