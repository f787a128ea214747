/-
  The program's ring makes one tick.
-/
import Derived.Test.YtfphkgialmjfnaaSendA
namespace Go.Proofs.Ytfphkgialmjfnaa
open Go.RowKit Go.Conc Go.Sort
set_option maxRecDepth 100000
set_option linter.unusedVariables false

theorem Iw.vg_step {x : Iw} (hx : x.Ok) {k p : Nat} (hk : k < x.sw.n) (hp : p < x.sw.n) : up (x.vg k) (x.pr k) false p = x.vg (k + 1) p := by
  by_cases e : p = x.pr k
  · subst e; rw [up_same]; unfold Iw.vg; rw [Iw.su_pr hx hk]; simp
  · rw [up_ne _ _ _ e]
    unfold Iw.vg
    rw [decide_eq_decide]
    have h2 : x.su p ≠ k := fun h3 => e (by rw [← h3, Iw.pr_su hx hp])
    omega
theorem vs_step {k p : Nat} : up (vs k) k true p = vs (k + 1) p := by
  unfold up vs
  split
  · rename_i e; subst e; simp
  · rw [decide_eq_decide]; omega
theorem Iw.vs_all {x : Iw} {p : Nat} (hp : p < x.sw.n) : vs x.sw.n p = x.vg 0 p := by unfold Iw.vg vs; simp [hp]
theorem Iw.vg_all {x : Iw} (hx : x.Ok) {p : Nat} : x.vg x.sw.n p = vs 0 p := by have := x.su_lt hx p; unfold Iw.vg vs; rw [decide_eq_decide]; omega
set_option maxHeartbeats 4000000 in
theorem inGoOn_any (x : Ir) (l : List Ms) (w0 : World) (p : GL) (t : Nat) (a : Ist) (w : World) (hk : Kept x l w0 p) (hS : GoS w0 w x l p t ((iwOf x l).vg 0) a) (hInv : (iwOf x l).Inv ((iwOf x l).vg 0) ((iwOf x l).mg 0) a) (hI : ∀ i, i < l.length → a.I i = -1 ∨ 0 ≤ a.I i) (hP : a.P ≤ x.r.toNat) (ht : t ≤ 1000) :
    Calls Try.prog 51 #[.pointer (some ⟨p.g, 0, none⟩)] w (DoneTo w0 x l p (t + 1) ((iwOf x l).vg 0) ((iwOf x l).tick t a)) := by
  have hok := hk.ok
  have hx := iwOk hok
  have hin := isIr_in (inOk_in hok).1
  have hr20 : x.r.toNat ≤ 20 := by omega
  have hn12 := toNat_in hin.1
  have hswn : (iwOf x l).sw.n = x.n.toNat := rfl
  have HGT : Hid (∀ k w1, k < x.n.toNat → GoS w0 w1 x l p t ((iwOf x l).vg k) ((iwOf x l).gets t a k) → Calls Try.prog 60 #[.pointer (some ⟨p.g, 0, none⟩), .int .i64 (k : Nat)] w1 (DoneTo w0 x l p t ((iwOf x l).vg (k + 1)) ((iwOf x l).gets t a (k + 1)))) := by
    show ∀ _, _
    intro k w1 hkn h
    have hi := Iw.gets_inv hx hInv t k (Nat.le_of_lt hkn)
    have hl := hi.len
    have hr1 := hx.r1
    refine (get_any x l w0 p t ((iwOf x l).vg k) _ ((iwOf x l).gets t a k) k w1 hk h hi hkn (by unfold Iw.vg; rw [Iw.su_pr hx hkn]; simp) (fun i hi' => ?_) ?_).mono ?_
    · refine Nat.le_trans (hl i hi') ?_
      unfold Iw.mg
      show (if i < k then x.r.toNat else x.r.toNat - 1) ≤ x.r.toNat
      split <;> omega
    · have := hl k hkn
      have e : (iwOf x l).mg k k = x.r.toNat - 1 := by unfold Iw.mg; rw [if_neg (Nat.lt_irrefl _)]; rfl
      rw [e] at this
      have : 1 ≤ x.r.toNat := hr1
      omega
    · rintro e w2 ⟨he, hg⟩
      exact ⟨he, hg.view fun j hj => Iw.vg_step hx hkn (Iw.pr_lt hx j)⟩
  have hmid := Iw.mid_inv (Iw.gets_inv hx hInv t x.n.toNat (Nat.le_refl _)) hx
  obtain ⟨a1, ha1⟩ : ∃ a1, a1 = (iwOf x l).gets t a x.n.toNat := ⟨_, rfl⟩
  have hI1 : a1.I = a.I := by rw [ha1, Iw.gets_I]
  have hP1 : a1.P = a.P := by rw [ha1, Iw.gets_P]
  have hTick : (iwOf x l).tick t a = (iwOf x l).snds t a1 x.n.toNat := by rw [ha1]; rfl
  rw [hTick]
  rw [← ha1] at hmid
  have HSD : Hid (∀ k w1, k < x.n.toNat → GoS w0 w1 x l p t (vs k) ((iwOf x l).snds t a1 k) → Calls Try.prog 61 #[.pointer (some ⟨p.g, 0, none⟩), .int .i64 (k : Nat)] w1 (DoneTo w0 x l p t (vs (k + 1)) ((iwOf x l).put t k ((iwOf x l).snds t a1 k)))) := by
    show ∀ _, _
    intro k w1 hkn h
    have hi := Iw.snds_inv hx hmid t k (Nat.le_of_lt hkn)
    refine (send_any x l w0 p t (vs k) _ ((iwOf x l).snds t a1 k) k w1 hk h hi hkn (by unfold vs; simp) (fun i hi' => ?_) (fun i hi' => ?_)).mono ?_
    · rcases Iw.snds_I (x := iwOf x l) (t := t) (a := a1) k i with h1 | ⟨_, h1⟩
      · rw [h1, hI1]; exact hI i hi'
      · right; rw [h1]; omega
    · refine Nat.le_trans (hi.len i hi') ?_
      unfold Iw.ms
      show (if i < k then x.r.toNat - 1 else x.r.toNat) ≤ x.r.toNat
      split <;> omega
    · rintro e w2 ⟨he, hg⟩
      exact ⟨he, hg.view fun j hj => vs_step⟩
  have HPK : Hid (∀ k w1, k < x.n.toNat → GoS w0 w1 x l p t (vs (k + 1)) ((iwOf x l).put t k ((iwOf x l).snds t a1 k)) → ∃ P len, (w1.cell? ⟨p.g, 8 + 2, none⟩ = some (.int .i64 (P : Nat)) ∧ w1.frozen? ⟨p.g, 8 + 2, none⟩ = false ∧ w1.cell? ⟨p.g, 6, none⟩ = some (.slice (some ⟨p.bb, 0, none⟩) x.n.toNat x.n.toNat) ∧ (∃ A c, w1.cell? ⟨p.bb, k, none⟩ = some (.slice A len c))) ∧ ∀ w2, Below w1.heap.size w1 w2 → GoS w0 (w2.setCell ⟨p.g, 8 + 2, none⟩ (.int .i64 ((max P len : Nat) : Int))) x l p t (vs (k + 1)) ((iwOf x l).snds t a1 (k + 1))) := by
    show ∀ _, _
    intro k w1 hkn h
    have h10 := h.run.cell 10
    have h6 := h.run.cell 6
    have hb := h.bufs.cell k
    rw [rowA_at _ _ _ hkn] at hb
    refine ⟨_, _, ⟨by simpa using h10, h.run.free 10, by simpa using h6, _, _, hb⟩, fun w2 hb2 => ?_⟩
    have h2 := (h.step hb2).setP hk.gp (max ((iwOf x l).put t k ((iwOf x l).snds t a1 k)).P (((iwOf x l).put t k ((iwOf x l).snds t a1 k)).B k).length)
    have e : (iwOf x l).snds t a1 (k + 1) = { (iwOf x l).put t k ((iwOf x l).snds t a1 k) with P := max ((iwOf x l).put t k ((iwOf x l).snds t a1 k)).P (((iwOf x l).put t k ((iwOf x l).snds t a1 k)).B k).length } := by
      rw [Iw.snds]
      unfold Iw.snd
      have e2 : ((iwOf x l).put t k ((iwOf x l).snds t a1 k)).P = ((iwOf x l).snds t a1 k).P := by
        unfold Iw.put Iw.pass
        split <;> (try split) <;> (try split) <;> rfl
      rw [e2]
    rw [e]
    exact h2
  have HTK : Hid (∀ w1, GoS w0 w1 x l p t (vs x.n.toNat) ((iwOf x l).snds t a1 x.n.toNat) → (w1.cell? ⟨p.g, 4, none⟩ = some (.int .i64 (t : Nat)) ∧ w1.frozen? ⟨p.g, 4, none⟩ = false) ∧ GoS w0 (w1.setCell ⟨p.g, 4, none⟩ (.int .i64 ((t : Int) + 1))) x l p (t + 1) ((iwOf x l).vg 0) ((iwOf x l).snds t a1 x.n.toNat)) := by
    show ∀ _, _
    intro w1 h
    have h4 := h.run.cell 4
    refine ⟨⟨by simpa using h4, h.run.free 4⟩, ?_⟩
    have h2 := (h.setT hk.gp).view (v' := (iwOf x l).vg 0) fun j hj => Iw.vs_all (Iw.pr_lt hx j)
    exact h2
  have HK5 : Hid (∀ v b w1, GoS w0 w1 x l p t v b → w1.cell? ⟨p.g, 5, none⟩ = some (.slice (some ⟨p.kb, 0, none⟩) x.n.toNat x.n.toNat)) := by
    show ∀ _, _
    intro v b w1 h
    have h5 := h.run.cell 5
    simpa using h5
  have HMID : Hid (∀ w1, GoS w0 w1 x l p t ((iwOf x l).vg x.n.toNat) ((iwOf x l).gets t a x.n.toNat) → GoS w0 w1 x l p t (vs 0) ((iwOf x l).snds t a1 0)) := by
    show ∀ _, _
    intro w1 h
    rw [← ha1] at h
    exact h.view fun j hj => Iw.vg_all hx
  have HS0 : Hid (GoS w0 w x l p t ((iwOf x l).vg 0) ((iwOf x l).gets t a 0)) := hS
  have c5 := HK5.out _ _ _ hS
  have ew : IntKind.i64.wrap ((t : Int) + 1) = (t : Int) + 1 := IntWalk.i64_in _ (by omega)
  generalize (iwOf x l).gets t a = G at *
  generalize (iwOf x l).snds t a1 = S at *
  generalize (iwOf x l).put t = PU at *
  obtain ⟨n, hN⟩ : ∃ n, n = x.n.toNat := ⟨_, rfl⟩
  obtain ⟨g, hg⟩ : ∃ g, g = p.g := ⟨_, rfl⟩
  rw [← hN] at HGT HSD HPK HTK HK5 HMID c5 hn12 ⊢
  rw [← hg] at HGT HSD HPK HTK HK5 c5 ⊢
  clear hS hInv hI hP hk hok hx hin hr20 hswn hmid ha1 hI1 hP1 hTick hN hg
  have hnI : (n : Int) ≤ 12 := by omega
  go_enter Try.func51, Try.ntmps51
  go_wp2_with fail
  go_loopw [9] (fun i wr => ∃ k : Nat, k ≤ n ∧ i = .int .i64 k ∧ GoS w0 wr x l p t ((iwOf x l).vg k) (G k)) (fun i _ => n - (intOf i).toNat)
  case atStart => exact ⟨0, Nat.zero_le _, rfl, HS0.out⟩
  case round =>
    clear HS0 c5
    obtain ⟨k, hk, rfl, hS⟩ := hrel
    have HS := Lib.hid hS
    clear hS
    by_cases hlt : k < n
    · have hkI : (k : Int) < (n : Int) := by omega
      go_wp2_with fail
      refine (HGT.out k _ hlt HS.out).mono ?_; rintro e w2 ⟨rfl, hS2⟩
      have HS2 := Lib.hid hS2
      clear hS2 HS
      go_wp2_with fail
      go_roundw
      case rel => exact ⟨k + 1, by omega, by go_num, HS2.out⟩
      case measure => simp [intOf]; omega
    · obtain rfl : k = n := by omega
      have HS3 := Lib.hid (HMID.out _ HS.out)
      have c5 := HK5.out _ _ _ HS.out
      clear HS HGT HMID
      go_wp2_with fail
      go_loopw [21] (fun i wr => ∃ j : Nat, j ≤ k ∧ i = .int .i64 j ∧ GoS w0 wr x l p t (vs j) (S j)) (fun i _ => k - (intOf i).toNat)
      case atStart => exact ⟨0, Nat.zero_le _, rfl, HS3.out⟩
      case round =>
        clear HS3 c5
        obtain ⟨j, hj, rfl, hS⟩ := hrel
        have HS := Lib.hid hS
        clear hS
        by_cases hlt : j < k
        · have hjI : (j : Int) < (k : Int) := by omega
          go_wp2_with fail
          refine (HSD.out j _ hlt HS.out).mono ?_; rintro e w2 ⟨rfl, hS2⟩
          obtain ⟨P, len, ⟨c10, f10, c6, A, cc, cb⟩, hset⟩ := HPK.out j w2 hlt hS2
          have HSET := Lib.hid (hset _ (Below.refl _ _).drew)
          clear hS2 hset HS
          go_upto_region 9 with fail
          go_region
          have HSE : Hid (((max P len : Nat) : Int) = max (P : Int) (len : Int)) := by show _ = _; omega
          rw [HSE.out] at HSET
          go_wp2_with fail
          go_roundw
          case rel => exact ⟨j + 1, by omega, by go_num, HSET.out⟩
          case measure => simp [intOf]; omega
        · obtain rfl : j = k := by omega
          obtain ⟨⟨c4, f4⟩, hfin⟩ := HTK.out _ HS.out
          have HFIN := Lib.hid hfin
          clear hfin HS HSD HPK HTK
          go_wp2_with fail
          exact ⟨rfl, .tuple #[], by simp [results, Try.results51, go_sem], rfl, HFIN.out⟩
end Go.Proofs.Ytfphkgialmjfnaa
