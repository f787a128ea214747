/-
  What the law of bounds asks of the answers, put together.
-/
import Derived.Test.YtlanpfcjcafapaaMathHold
namespace Go.Proofs.Ytlanpfcjcafapaa
open Go.RowKit
set_option maxRecDepth 100000
set_option linter.unusedVariables false

theorem srv_some {v : Sv} {l : List Int} (h : (srvSays v l).2 = true) : svOk v = true ∧ trOk l = true ∧ ∃ n, svRg v l = some n ∧ srvSays v l = (svT v l n, true) ∧ bksSays v l = (svM v l n, true) ∧ dlsSays v l = (dlN l (svT v l n) l.length, true) := by
  cases ha : askV v l
  · simp [srvSays, ha] at h
  · have h1 := askV_in ha
    cases hn : svRg v l with
    | none => simp [srvSays, ha, hn, svO] at h
    | some n => exact ⟨h1.1, h1.2, n, rfl, by simp [srvSays, ha, hn, svO], by simp [bksSays, ha, hn, svOM], by simp [dlsSays, ha, hn, svOD]⟩
theorem bks_snd (v : Sv) (l : List Int) : (bksSays v l).2 = (srvSays v l).2 := by
  cases ha : askV v l
  · simp [srvSays, bksSays, ha]
  · cases hn : svRg v l <;> simp [srvSays, bksSays, ha, hn, svO, svOM]
theorem dls_snd (v : Sv) (l : List Int) : (dlsSays v l).2 = (srvSays v l).2 := by
  cases ha : askV v l
  · simp [srvSays, dlsSays, ha]
  · cases hn : svRg v l <;> simp [srvSays, dlsSays, ha, hn, svO, svOD]
theorem bkb_snd (v : Sv) (b : Bu) : (bkbSays v b).2 = fitOk v b := by cases h : fitOk v b <;> simp [bkbSays, h]
theorem dlb_snd (v : Sv) (b : Bu) : (dlbSays v b).2 = fitOk v b := by cases h : fitOk v b <;> simp [dlbSays, h]
theorem kp_true {b : Bu} {l : List Int} (h : (kpSays b l).1 = true) : (kpSays b l).2 = true ∧ buOk b = true ∧ kpN b l l.length = true := by
  cases ha : askOk b l
  · simp [kpSays, ha] at h
  · simp only [kpSays, ha, if_true] at h ⊢
    exact ⟨by trivial, (askOk_in ha).1, h⟩
theorem bbh_true {v : Sv} {b : Bu} (h : (bbhSays v b).2 = true) : fitOk v b = true ∧ bbhSays v b = (⟨b.r, b.d + b.r * v.l⟩, true) ∧ buOk ⟨b.r, b.d + b.r * v.l⟩ = true := by
  cases hf : fitOk v b
  · simp [bbhSays, hf] at h
  · cases hw : wi (b.d + b.r * v.l) 1 1000
    · simp [bbhSays, hw] at h
    · have h1 := fitOk_in hf
      refine ⟨rfl, by simp [bbhSays, hf, hw], ?_⟩
      have h2 : wi b.r 1 100 = true := by simp [wi]; omega
      simp [buOk, h2, hw]
theorem srv_sum {v : Sv} {l : List Int} (h : (srvSays v l).2 = true) : sumL (srvSays v l).1 = sumL l := by
  obtain ⟨h1, h2, n, h3, h4, _⟩ := srv_some h
  rw [h4]
  exact (sent_all h1 h2 h3).2
theorem srv_most {v : Sv} {l : List Int} (h : (srvSays v l).2 = true) : mstN (srvSays v l).1 (srvSays v l).1.length ≤ v.r := by
  obtain ⟨h1, h2, n, h3, h4, _⟩ := srv_some h
  rw [h4]
  exact served_most h1 h2 n _
theorem srv_mem {v : Sv} {l : List Int} (h : (srvSays v l).2 = true) : ∀ x ∈ (srvSays v l).1, 0 ≤ x ∧ x ≤ 100000 := by
  obtain ⟨h1, h2, n, h3, h4, _⟩ := srv_some h
  rw [h4]
  intro x hx
  have := svT_mem h1 h2 n x hx
  omega
theorem srv_short (v : Sv) (l : List Int) : (srvSays v l).1.length ≤ 100 := by
  unfold srvSays
  split
  · exact svO_len v l
  · simp
theorem srv_in {v : Sv} {l : List Int} (h : (srvSays v l).2 = true) : ∀ x ∈ l, 0 ≤ x ∧ x ≤ 100000 := by
  obtain ⟨h1, h2, _⟩ := srv_some h
  intro x hx
  have := trOk_mem h2 x hx
  omega
theorem srv_back {v : Sv} {b : Bu} {l : List Int} (h : (srvSays v l).2 = true) (hk : (kpSays b l).1 = true) (hf : fitOk v b = true) : (bksSays v l).1 ≤ (bkbSays v b).1 := by
  obtain ⟨h1, h2, n, h3, h4, h5, h6⟩ := srv_some h
  obtain ⟨_, k1, k2⟩ := kp_true hk
  rw [h5]
  simp only [bkbSays, hf, if_true]
  exact hold_M hf k1 h2 k2 n
theorem srv_delay {v : Sv} {b : Bu} {l : List Int} (h : (srvSays v l).2 = true) (hk : (kpSays b l).1 = true) (hf : fitOk v b = true) : (dlsSays v l).1 ≤ (dlbSays v b).1 := by
  obtain ⟨h1, h2, n, h3, h4, h5, h6⟩ := srv_some h
  obtain ⟨_, k1, k2⟩ := kp_true hk
  rw [h6]
  simp only [dlbSays, hf, if_true]
  exact hold_D hf k1 h2 k2 h3 _
theorem srv_behind {v : Sv} {b : Bu} {l : List Int} (h : (srvSays v l).2 = true) (hk : (kpSays b l).1 = true) (hb : (bbhSays v b).2 = true) (ht : trOk (srvSays v l).1 = true) : kpSays (bbhSays v b).1 (srvSays v l).1 = (true, true) := by
  obtain ⟨h1, h2, n, h3, h4, h5, h6⟩ := srv_some h
  obtain ⟨_, k1, k2⟩ := kp_true hk
  obtain ⟨f1, f2, f3⟩ := bbh_true hb
  rw [h4] at ht
  simp only at ht
  rw [h4, f2]
  simp only [kpSays, askOk, f3, ht, Bool.and_self, if_true, svT_length]
  rw [(hold_behind f1 k1 h2 k2 n n (Nat.le_refl _)).1]
theorem wst_keeps {c : Bu} {n : Int} (h : (worstSays c n).2 = true) : kpSays c (worstSays c n).1 = (true, true) ∧ ((worstSays c n).1.length : Int) = n := by
  cases hw : (buOk c && wi n 0 40)
  · simp [worstSays, hw] at h
  · have h1 := hw
    simp only [Bool.and_eq_true, wi, decide_eq_true_eq] at h1
    have e : worstSays c n = (wst c n.toNat, true) := by simp only [worstSays, hw, if_true]
    rw [e]
    have h2 := worst_tr h1.1 n.toNat (by omega)
    refine ⟨?_, by rw [wst_length]; omega⟩
    simp only [kpSays, askOk, h1.1, h2, Bool.and_self, if_true]
    rw [worst_keeps h1.1]
end Go.Proofs.Ytlanpfcjcafapaa
