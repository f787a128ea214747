/-
  The program's station sends: the end of its jumps.
-/
import Derived.Test.YthgnflcdpmedlaaGet
import Derived.Test.YthgnflcdpmedlaaLoads
import Derived.ScopeJumps
import Derived.WalkMore
namespace Go.Proofs.Ythgnflcdpmedlaa
open Go.RowKit Go.Conc Go.Sort
set_option maxRecDepth 100000
set_option linter.unusedVariables false

/-- A link is filled. -/
theorem Iw.qv_sent {x : Iw} (hx : x.Ok) (v : Nat → Bool) (a : Ist) {s : Nat} (hs : s < x.sw.n) (c : Nat) : x.qv (up v s true) { a with L := up a.L s (c + 1) } (x.su s) = [c] ∧ ∀ i, i < x.sw.n → i ≠ x.su s → x.qv (up v s true) { a with L := up a.L s (c + 1) } i = x.qv v { a with L := up a.L s (c + 1) } i := by
  refine ⟨by unfold Iw.qv; rw [Iw.pr_su hx hs, up_same, if_pos rfl]; simp only [up_same]; rfl, fun i hi hne => ?_⟩
  have h : x.pr i ≠ s := fun h => hne (by rw [← h, Iw.su_pr hx hi])
  unfold Iw.qv
  rw [up_ne _ _ _ h]
theorem Iw.qv_full {x : Iw} (hx : x.Ok) {v : Nat → Bool} {a : Ist} {s : Nat} (hs : s < x.sw.n) (hv : v s = false) : x.qv v a (x.su s) = [] := by
  unfold Iw.qv
  rw [Iw.pr_su hx hs, hv]
  rfl
set_option maxHeartbeats 4000000 in
theorem send_tail (x : Ir) (l : List Ms) (w0 : World) (p : GL) (t : Nat) (v : Nat → Bool) (b : Ist) (s c : Nat) (w : World) (hk : Kept x l w0 p) (hS : GoS w0 w x l p t v b) (hs : s < x.n.toNat) (hv : v s = false) (hc : c < l.length) (Q : Exit → Act → World → Prop)
    (u2 u3 u4 u6 u7 u8 u9 u10 u11 u12 u13 u14 u15 u16 u17 u18 u19 u20 u21 u22 u23 u24 u25 u26 u27 u28 u29 u30 u31 u32 u33 u34 u35 u36 u37 u38 u39 u40 u41 u42 u43 u44 u45 u46 u47 u48 u49 u50 u51 u52 u53 u54 u55 u56 u57 u58 u59 u60 u61 u62 u63 u64 u65 u66 u67 u68 u69 u70 u71 u72 u73 u74 u75 u76 u77 u78 u79 u80 u81 u82 : Value) (rest : Code) (hrest : (match Try.f65.body with | some (.scope c) => (match findLabel c 2 with | some (.seq .skip r) => some r | _ => none) | _ => none) = some rest)
    (hQ : ∀ a'' w'', a''.defers = [] → GoS w0 w'' x l p t (up v s true) { b with L := up b.L s (c + 1) } → Q .normal a'' w'') :
    rest.wp Try.prog Q { tmps := #[.pointer (some ⟨p.g, 0, none⟩), .int .i64 s, u2, u3, u4, .int .i64 (c : Nat), u6, u7, u8, u9, u10, u11, u12, u13, u14, u15, u16, u17, u18, u19, u20, u21, u22, u23, u24, u25, u26, u27, u28, u29, u30, u31, u32, u33, u34, u35, u36, u37, u38, u39, u40, u41, u42, u43, u44, u45, u46, u47, u48, u49, u50, u51, u52, u53, u54, u55, u56, u57, u58, u59, u60, u61, u62, u63, u64, u65, u66, u67, u68, u69, u70, u71, u72, u73, u74, u75, u76, u77, u78, u79, u80, u81, u82], defers := [] } w := by
  obtain ⟨hp, hok, hr⟩ := hk
  have hx := iwOk hok
  have hin := isIr_in (inOk_in hok).1
  obtain ⟨hl20, hall, _⟩ := areMs_in (inOk_in hok).2
  have HAS := Lib.hid (fun w => asSlotRing_any x w)
  have HBH : Hid (∀ w, Calls Try.prog 72 #[SrV ⟨x.n, false⟩, .int .i64 s] w (RetV w (.int .i64 (((iwOf x l).su s : Nat) : Int)))) := by
    show ∀ _, _
    intro w
    exact slBehind_any ⟨x.n, false⟩ s w hin.1 (by show (s : Int) < x.n; omega)
  have hsu := Iw.su_lt hx s
  have HSU : Hid ((iwOf x l).su s < x.n.toNat) := hsu
  have hS1 := hS.setL hp hv (c + 1)
  obtain ⟨hq1, hq2⟩ := Iw.qv_sent hx v b (s := s) hs c
  have hq0 := Iw.qv_full hx (v := v) (a := { b with L := up b.L s (c + 1) }) (s := s) hs hv
  have c7 := hS.run.cell 7
  have d0 := hS.sent.cell s (by rw [tabl_len]; exact hs)
  have d1 := hS.sent.free s
  have c5 := hS1.run.cell 5
  obtain ⟨n, hN⟩ : ∃ n, n = x.n.toNat := ⟨_, rfl⟩
  obtain ⟨g, hg⟩ : ∃ g, g = p.g := ⟨_, rfl⟩
  obtain ⟨sb, hsb⟩ : ∃ sb, sb = p.sb := ⟨_, rfl⟩
  simp only [List.getElem?_toArray, List.getElem?_cons_zero, List.getElem?_cons_succ] at c7 c5
  rw [← hN, ← hg, ← hsb] at c7
  rw [← hsb] at d0 d1
  have hsn : s < n := by rw [hN]; exact hs
  have hsI : (s : Int) < (n : Int) := by omega
  have ew : IntKind.i64.wrap ((c : Int) + 1) = ((c + 1 : Nat) : Int) := by rw [IntWalk.i64_in _ (by omega)]; omega
  rw [← hsb] at hS1 c5
  obtain ⟨w1, hw1⟩ : ∃ w1, w1 = w.setCell ⟨sb, s, none⟩ (.int .i64 ((c + 1 : Nat) : Int)) := ⟨_, rfl⟩
  rw [← hw1] at hS1 c5
  have HW1 : Hid (w.setCell ⟨sb, s, none⟩ (.int .i64 ((c : Int) + 1)) = w1) := by show _ = _; rw [hw1]; congr 1
  obtain ⟨kb, hkb⟩ : ∃ kb, kb = p.kb := ⟨_, rfl⟩
  obtain ⟨J, hJ⟩ : ∃ J, J = (iwOf x l).su s := ⟨_, rfl⟩
  rw [← hJ] at HBH hq1 hq2 hq0 HSU
  dsimp only
  rw [← hg]
  have HS1 := Lib.hid hS1
  have HP := Lib.hid hp
  have HQ1 := Lib.hid hq1
  have HQ2 := Lib.hid hq2
  have HQ0 := Lib.hid hq0
  have HRC : Hid (∀ w', GoS w0 w' x l p t v { b with L := up b.L s (c + 1) } → w'.cell? ⟨g, 0, none⟩ = some (.int .i64 x.n) ∧ w'.cell? ⟨g, 1, none⟩ = some (.int .i64 x.r) ∧ w'.cell? ⟨g, 2, none⟩ = some (.bool x.h) ∧ w'.cell? ⟨g, 5, none⟩ = some (.slice (some ⟨kb, 0, none⟩) n n) ∧ w'.cell? ⟨kb, J, none⟩ = some (.chan (some (p.cs J)))) := by
    show ∀ _, _
    intro w' h
    have a0 := h.run.cell 0
    have a1 := h.run.cell 1
    have a2 := h.run.cell 2
    have a5 := h.run.cell 5
    simp only [List.getElem?_toArray, List.getElem?_cons_zero, List.getElem?_cons_succ] at a0 a1 a2 a5
    rw [hg, hkb, hN]
    exact ⟨a0, a1, a2, a5, h.links.cell J HSU.out⟩
  have HRD : Hid (∀ w', GoS w0 w' x l p t (up v s true) { b with L := up b.L s (c + 1) } → w'.cell? ⟨g, 0, none⟩ = some (.int .i64 x.n) ∧ w'.cell? ⟨g, 1, none⟩ = some (.int .i64 x.r) ∧ w'.cell? ⟨g, 2, none⟩ = some (.bool x.h) ∧ w'.cell? ⟨g, 5, none⟩ = some (.slice (some ⟨kb, 0, none⟩) n n) ∧ w'.cell? ⟨kb, J, none⟩ = some (.chan (some (p.cs J)))) := by
    show ∀ _, _
    intro w' h
    have a0 := h.run.cell 0
    have a1 := h.run.cell 1
    have a2 := h.run.cell 2
    have a5 := h.run.cell 5
    simp only [List.getElem?_toArray, List.getElem?_cons_zero, List.getElem?_cons_succ] at a0 a1 a2 a5
    rw [hg, hkb, hN]
    exact ⟨a0, a1, a2, a5, h.links.cell J HSU.out⟩
  have hJn : J < n := by rw [hN]; exact HSU.out
  have hJI : (J : Int) < (n : Int) := by omega
  have HN := Lib.hid hN
  have HJN := Lib.hid HSU.out
  obtain ⟨b1, hb1⟩ : ∃ b1 : Ist, b1 = { b with L := up b.L s (c + 1) } := ⟨_, rfl⟩
  rw [← hb1] at HS1 HRC HRD HQ1 HQ2 HQ0 hQ
  obtain ⟨v1, hv1⟩ : ∃ v1, v1 = up v s true := ⟨_, rfl⟩
  rw [← hv1] at HRD HQ1 HQ2 hQ
  clear hS hS1 hp hq1 hq2 hq0 hr hall hok hx hg hkb hw1 hN hsb hJ HSU hb1 hv1 c5 hsu hv
  obtain rfl := Option.some.inj hrest
  clear hrest
  go_upto_region 9 with fail
  rw [HW1.out]
  clear c7 d0 d1 HW1
  refine wp_region_row (by kernel_rfl) (by kernel_rfl) 69 14 (by kernel_rfl) (by decide) (by simp) (fun i => [.pointer (some ⟨g, 0, none⟩), .pointer (some ⟨g, 0, none⟩), .pointer (some ⟨g, 5, none⟩), .slice (some ⟨kb, 0, none⟩) n n, .pointer (some ⟨g, 0, none⟩), .pointer (some ⟨g, 0, none⟩), .pointer (some ⟨g, 0, none⟩), .agg #[.int .i64 x.n, .int .i64 x.r, .bool x.h], .agg #[.int .i64 x.n, .bool false], .int .i64 (s : Int), .int .i64 (J : Int), .pointer (some ⟨kb, J, none⟩), .chan (some (p.cs J)), .int .i64 (c : Int)].getD i undef)
    (fun D w' => if D 14 = true then GoS w0 w' x l p t v1 b1 else GoS w0 w' x l p t v b1) ?_ ?_ ?_
  · rw [if_neg (by simp)]; exact HS1.out.drew
  · intro D D' ev w' i hi' hd hpre hD' hev hec hef hW
    have e0 := hev 0
    have e1 := hev 1
    have e5 := hev 5
    simp at e0 e1 e5
    have hi11 : i < 15 := hi'
    match i, hi11 with
    | 0, _ =>
      exact .value w' (by simp [go_sem, execOp, e0]) (by simpa [hD'] using hW)
    | 1, _ =>
      have p0 : D 0 = true := hpre ⟨0, .data⟩ (by simp) rfl
      have f0 := hev 69
      simp [p0] at f0
      exact .value w' (by simp [go_sem, execOp, f0]) (by simpa [hD'] using hW)
    | 2, _ =>
      have p1 : D 1 = true := hpre ⟨1, .data⟩ (by simp) rfl
      have f1 := hev 70
      simp [p1] at f1
      exact .value w' (by simp [go_sem, execOp, f1]) (by simpa [hD'] using hW)
    | 3, _ =>
      have p2 : D 2 = true := hpre ⟨2, .data⟩ (by simp) rfl
      have f2 := hev 71
      simp [p2] at f2
      have hcl : w'.cell? ⟨g, 0, none⟩ = some (.int .i64 x.n) ∧ w'.cell? ⟨g, 1, none⟩ = some (.int .i64 x.r) ∧ w'.cell? ⟨g, 2, none⟩ = some (.bool x.h) ∧ w'.cell? ⟨g, 5, none⟩ = some (.slice (some ⟨kb, 0, none⟩) n n) ∧ w'.cell? ⟨kb, J, none⟩ = some (.chan (some (p.cs J))) := by
        by_cases h14 : D 14 = true
        · rw [if_pos h14] at hW; exact HRD.out w' hW
        · rw [if_neg h14] at hW; exact HRC.out w' hW
      obtain ⟨q0, q1, q2, q5, qk⟩ := hcl
      exact .value w' (by simp [go_sem, execOp, f2, q5]) (by simpa [hD'] using hW)
    | 4, _ =>
      exact .value w' (by simp [go_sem, execOp, e0]) (by simpa [hD'] using hW)
    | 5, _ =>
      have p4 : D 4 = true := hpre ⟨4, .data⟩ (by simp) rfl
      have f4 := hev 73
      simp [p4] at f4
      exact .value w' (by simp [go_sem, execOp, f4]) (by simpa [hD'] using hW)
    | 6, _ =>
      have p5 : D 5 = true := hpre ⟨5, .data⟩ (by simp) rfl
      have f5 := hev 74
      simp [p5] at f5
      exact .value w' (by simp [go_sem, execOp, f5]) (by simpa [hD'] using hW)
    | 7, _ =>
      have p6 : D 6 = true := hpre ⟨6, .data⟩ (by simp) rfl
      have f6 := hev 75
      simp [p6] at f6
      have hcl : w'.cell? ⟨g, 0, none⟩ = some (.int .i64 x.n) ∧ w'.cell? ⟨g, 1, none⟩ = some (.int .i64 x.r) ∧ w'.cell? ⟨g, 2, none⟩ = some (.bool x.h) ∧ w'.cell? ⟨g, 5, none⟩ = some (.slice (some ⟨kb, 0, none⟩) n n) ∧ w'.cell? ⟨kb, J, none⟩ = some (.chan (some (p.cs J))) := by
        by_cases h14 : D 14 = true
        · rw [if_pos h14] at hW; exact HRD.out w' hW
        · rw [if_neg h14] at hW; exact HRC.out w' hW
      obtain ⟨q0, q1, q2, q5, qk⟩ := hcl
      exact .value w' (by simp [go_sem, execOp, f6, q0, q1, q2]) (by simpa [hD'] using hW)
    | 8, _ =>
      have p7 : D 7 = true := hpre ⟨7, .data⟩ (by simp) rfl
      have f7 := hev 76
      simp [p7] at f7
      refine .call 44 #[.agg #[.int .i64 x.n, .int .i64 x.r, .bool x.h]] w' ((run_call_any (f := 44) (ρ := ev) (args := #[.tmp 76]) (ats := #[25]) rfl (hef _) Try.func44 (by kernel_rfl) rfl).trans (by simp [f7])) ((HAS.out w').mono ?_)
      rintro e w'' ⟨rfl, hb''⟩
      refine ⟨rfl, ?_⟩
      by_cases h14 : D 14 = true
      · rw [if_pos h14] at hW; rw [if_pos (by simpa [hD'] using h14)]; exact hW.step hb''
      · rw [if_neg h14] at hW; rw [if_neg (by simpa [hD'] using h14)]; exact hW.step hb''
    | 9, _ =>
      exact .value w' (by simp [go_sem, execOp, e1]) (by simpa [hD'] using hW)
    | 10, _ =>
      have p8 : D 8 = true := hpre ⟨8, .data⟩ (by simp) rfl
      have p9 : D 9 = true := hpre ⟨9, .data⟩ (by simp) rfl
      have f8 := hev 77
      have f9 := hev 78
      simp [p8, p9] at f8 f9
      refine .call 72 #[.agg #[.int .i64 x.n, .bool false], .int .i64 (s : Int)] w' ((run_call_any (f := 72) (ρ := ev) (args := #[.tmp 77, .tmp 78]) (ats := #[63, 3]) rfl (hef _) Try.func72 (by kernel_rfl) rfl).trans (by simp [f8, f9])) ((HBH.out w').mono ?_)
      rintro e w'' ⟨rfl, hb''⟩
      refine ⟨rfl, ?_⟩
      by_cases h14 : D 14 = true
      · rw [if_pos h14] at hW; rw [if_pos (by simpa [hD'] using h14)]; exact hW.step hb''
      · rw [if_neg h14] at hW; rw [if_neg (by simpa [hD'] using h14)]; exact hW.step hb''
    | 11, _ =>
      have p3 : D 3 = true := hpre ⟨3, .data⟩ (by simp) rfl
      have p10 : D 10 = true := hpre ⟨10, .data⟩ (by simp) rfl
      have f3 := hev 72
      have f10 := hev 79
      simp [p3, p10] at f3 f10
      exact .value w' (by simp [go_sem, execOp, f3, f10, hJn]) (by simpa [hD'] using hW)
    | 12, _ =>
      have p11 : D 11 = true := hpre ⟨11, .data⟩ (by simp) rfl
      have f11 := hev 80
      simp [p11] at f11
      have hcl : w'.cell? ⟨g, 0, none⟩ = some (.int .i64 x.n) ∧ w'.cell? ⟨g, 1, none⟩ = some (.int .i64 x.r) ∧ w'.cell? ⟨g, 2, none⟩ = some (.bool x.h) ∧ w'.cell? ⟨g, 5, none⟩ = some (.slice (some ⟨kb, 0, none⟩) n n) ∧ w'.cell? ⟨kb, J, none⟩ = some (.chan (some (p.cs J))) := by
        by_cases h14 : D 14 = true
        · rw [if_pos h14] at hW; exact HRD.out w' hW
        · rw [if_neg h14] at hW; exact HRC.out w' hW
      obtain ⟨q0, q1, q2, q5, qk⟩ := hcl
      exact .value w' (by simp [go_sem, execOp, f11, qk]) (by simpa [hD'] using hW)
    | 13, _ =>
      exact .value w' (by simp [go_sem, execOp, e5]) (by simpa [hD'] using hW)
    | 14, _ =>
      have p12 : D 12 = true := hpre ⟨12, .data⟩ (by simp) rfl
      have p13 : D 13 = true := hpre ⟨13, .data⟩ (by simp) rfl
      have f12 := hev 81
      have f13 := hev 82
      simp [p12, p13] at f12 f13
      have hd14 : ¬ D 14 = true := by have : D 14 = false := hd; rw [this]; simp
      rw [if_neg hd14] at hW
      obtain ⟨sc, rc, hch⟩ := hW.links.ch J HJN.out
      rw [HQ0.out] at hch
      refine .send (p.cs J) 1 sc rc _ false (.int .i64 (c : Int)) (.tuple #[]) w' (by simp) (by simp [go_sem, f12, f13, scase]) hch (by simp) ?_
      rw [if_pos (by simp [hD'])]
      exact hW.chan HP.out HJN.out HQ2.out _ (by rw [HQ1.out]; rfl) (sc + 1) rc
  · intro D w' hall hW
    rw [if_pos (hall 14 (by decide))] at hW
    exact hQ _ _ (putAll_defers _ _ _ _) hW
end Go.Proofs.Ythgnflcdpmedlaa
