/-
  Whether starts are a schedule: the model's side.
-/
import Derived.Test.YtdlmacoblmnajaaSortI
import Derived.Test.YtdlmacoblmnajaaJobs
namespace Go.Proofs.Ytdlmacoblmnajaa
open Go.RowKit
set_option maxRecDepth 100000
set_option linter.unusedVariables false

set_option maxHeartbeats 2000000 in
theorem prSchedule_any (v u : Value) (js : List Jb) (ss : List Int) (w : World) (h : RJbS w w.heap.size v js) (h' : RI w w.heap.size u ss) (hg : givenB js ss = true) :
    Calls Try.prog 24 #[v, u] w (RetV w (.bool (schedB js ss))) := by
  obtain ⟨hjl, hn, hsb, hjb⟩ := givenB_in hg
  have h0 := h
  obtain ⟨A, c, rfl, _⟩ := h
  obtain ⟨_, _, _, hc⟩ := h0.parts
  obtain ⟨A', c', rfl, hlc', hc'⟩ := h'
  obtain ⟨n, hN⟩ : ∃ n, ss.length = n := ⟨_, rfl⟩
  rw [hjl] at hc ⊢
  rw [hN] at hc hc' hlc' hn hsb hjb ⊢
  have HN := Lib.hid hN
  have hn' : (n : Int) ≤ 20 := by omega
  obtain ⟨R, hR⟩ : ∃ R, R = schedB js ss := ⟨_, rfl⟩
  rw [← hR]
  have HR := Lib.hid hR
  have HSB := Lib.hid hsb
  have HJB := Lib.hid hjb
  have HC := Lib.hid hc
  have HC' := Lib.hid hc'
  have hcc : n ≤ c' := hlc'.1
  have hcm : c' ≤ maxLen := hlc'.2.1
  unfold maxLen at hcm
  clear hR hg hjl hsb hjb hc hc' hN hlc' h0
  go_enter Try.func24, Try.ntmps24
  go_wp2_with fail
  go_loop [11] (fun i => ∃ k : Nat, k ≤ n ∧ i = .int .i64 k ∧ ∀ p, p < k → SchedAt js ss p) (fun i => n - (intOf i).toNat)
  case atStart => exact ⟨0, Nat.zero_le _, rfl, fun p hp => absurd hp (by omega)⟩
  case round =>
    obtain ⟨k, hk, rfl, hall⟩ := hrel
    have HA := Lib.hid hall
    clear hall
    by_cases hlt : k < n
    · have hlt' : (k : Int) < (n : Int) := by omega
      obtain ⟨b2, off2, hA2, hb2, hcell2⟩ := HC'.out (by omega)
      obtain ⟨b4, off4, hA4, hb4, hcell4⟩ := HC.out (by omega)
      subst hA2; subst hA4
      have hc1 := hcell2 k hlt
      obtain ⟨hc2, _, hc3⟩ := hcell4 k hlt
      have s1 := HSB.out k hlt
      have j1 := HJB.out k hlt
      have HK2 := Lib.hid hcell2
      have HK4 := Lib.hid hcell4
      have HNO : Hid (¬ SchedAt js ss k → R = false) := fun h9 => by rw [HR.out]; exact schedB_f k (by rw [HN.out]; exact hlt) h9
      clear hcell2 hcell4
      obtain ⟨sx, hsx⟩ : ∃ x, ss.getD k 0 = x := ⟨_, rfl⟩
      obtain ⟨tx, htx⟩ : ∃ x, js[k]!.t = x := ⟨_, rfl⟩
      obtain ⟨lx, hlx⟩ : ∃ x, js[k]!.l = x := ⟨_, rfl⟩
      rw [hsx] at hc1 s1
      rw [htx] at hc2 j1
      rw [hlx] at hc3 j1
      have HSX := Lib.hid hsx
      have HTX := Lib.hid htx
      have HLX := Lib.hid hlx
      clear hsx htx hlx
      by_cases h1 : sx < tx
      · have HF : Hid (R = false) := HNO.out fun h9 => by have := h9.1; rw [HSX.out, HTX.out] at this; omega
        go_wp2_with fail
        go_ret
        exact ⟨congrArg (fun z => Ending.returned (.bool z)) HF.out.symm, Below.refl _ _⟩
      · have HT1 : Hid (js[k]!.t ≤ ss.getD k 0) := by show _ ≤ _; rw [HSX.out, HTX.out]; omega
        go_wp2_with fail
        go_loop [27] (fun i => ∃ q : Nat, q ≤ k ∧ i = .int .i64 q ∧ ∀ p, p < q → ¬ (sx < ss.getD p 0 + js[p]!.l ∧ ss.getD p 0 < sx + lx)) (fun i => k - (intOf i).toNat)
        case atStart => exact ⟨0, Nat.zero_le _, rfl, fun p hp => absurd hp (by omega)⟩
        case round =>
          obtain ⟨q, hq, rfl, hall⟩ := hrel
          have HQ := Lib.hid hall
          clear hall
          by_cases hqk : q < k
          · have hqk' : (q : Int) < (k : Int) := by omega
            have hqn' : (q : Int) < (n : Int) := by omega
            have hc5 := HK2.out q (by omega)
            obtain ⟨_, _, hc6⟩ := HK4.out q (by omega)
            have s2 := HSB.out q (by omega)
            have j2 := HJB.out q (by omega)
            have HNQ : Hid (sx < ss.getD q 0 + js[q]!.l ∧ ss.getD q 0 < sx + lx → R = false) := fun h9 => HNO.out fun h8 => h8.2 q hqk (by rw [HSX.out, HLX.out]; exact h9)
            obtain ⟨sy, hsy⟩ : ∃ x, ss.getD q 0 = x := ⟨_, rfl⟩
            obtain ⟨ly, hly⟩ : ∃ x, js[q]!.l = x := ⟨_, rfl⟩
            have HGO : Hid (¬ (sx < sy + ly ∧ sy < sx + lx) → ∀ p, p < q + 1 → ¬ (sx < ss.getD p 0 + js[p]!.l ∧ ss.getD p 0 < sx + lx)) := fun h9 p hp => by
              by_cases e : p = q
              · rw [e, hsy, hly]; exact h9
              · exact HQ.out p (by omega)
            rw [hsy] at hc5 s2 HNQ
            rw [hly] at hc6 j2 HNQ
            clear hsy hly
            by_cases h2 : sx < sy + ly
            · by_cases h3 : sy < sx + lx
              · have HF := Lib.hid (HNQ.out ⟨h2, h3⟩)
                go_wp2_with fail
                go_ret
                exact ⟨congrArg (fun z => Ending.returned (.bool z)) HF.out.symm, Below.refl _ _⟩
              · have HF := Lib.hid (HGO.out (by omega))
                go_wp2_with fail
                go_round
                case rel => exact ⟨q + 1, by omega, by go_num, HF.out⟩
                case measure => simp [intOf]; omega
            · have HF := Lib.hid (HGO.out (by omega))
              go_wp2_with fail
              go_round
              case rel => exact ⟨q + 1, by omega, by go_num, HF.out⟩
              case measure => simp [intOf]; omega
          · obtain rfl : q = k := by omega
            have HS : Hid (∀ p, p < q + 1 → SchedAt js ss p) := fun p hp => by
              by_cases e : p = q
              · rw [e]
                refine ⟨HT1.out, fun m hm => ?_⟩
                rw [HSX.out, HLX.out]
                exact HQ.out m hm
              · exact HA.out p (by omega)
            go_wp2_with fail
            go_round
            case rel => exact ⟨q + 1, by omega, by go_num, HS.out⟩
            case measure => simp [intOf]; omega
    · obtain rfl : k = n := by omega
      have HF : Hid (R = true) := by show _ = _; rw [HR.out, schedB_t, HN.out]; exact HA.out
      go_wp2_with fail
      go_ret
      exact ⟨congrArg (fun z => Ending.returned (.bool z)) HF.out.symm, Below.refl _ _⟩

theorem given_no_lenS {js : List Jb} {ss : List Int} (h : js.length ≠ ss.length) : givenB js ss = false := by simp [givenB, h]
set_option maxHeartbeats 1000000 in
theorem prGiven_any (v u : Value) (js : List Jb) (ss : List Int) (w : World) (h : RJbS w w.heap.size v js) (h' : RI w w.heap.size u ss) (hn : js.length ≤ 1048576) (hn2 : ss.length ≤ 1048576) :
    Calls Try.prog 23 #[v, u] w (RetV w (.bool (givenB js ss))) := by
  have HA := Lib.hid (prJobs_any v js w h hn)
  have HU := Lib.hid (fun (w' : World) (hb : Below w.heap.size w w') => l1All_any u ss 0 5000 w' ((h'.step hb (Nat.le_refl _)).more hb.size) hn2)
  obtain ⟨A, c, rfl, _⟩ := h
  obtain ⟨A', c', rfl, _⟩ := h'
  have hl1 : (js.length : Int) ≤ 1048576 := by omega
  have hl2 : (ss.length : Int) ≤ 1048576 := by omega
  cases hj : areJb js
  · have HF : Hid (givenB js ss = false) := by show _ = _; simp [givenB, hj]
    rw [hj] at HA
    clear hj
    go_enter Try.func23, Try.ntmps23
    go_wp2_with fail
    refine HA.out.mono ?_; rintro e w1 ⟨rfl, hb⟩
    go_wp2_with fail
    go_ret
    exact ⟨congrArg (fun z => Ending.returned (.bool z)) HF.out.symm, hb⟩
  · rw [hj] at HA
    by_cases he : js.length = ss.length
    · have HF : Hid (givenB js ss = okAll 0 5000 ss) := by show _ = _; simp [givenB, hj, he]
      have he1 : (((ss.length : Int)) == ((js.length : Int))) = true := by rw [he]; simp
      have he2 : (ss.length == js.length) = true := by rw [he]; simp
      clear hj he
      go_enter Try.func23, Try.ntmps23
      go_wp2_with fail
      refine HA.out.mono ?_; rintro e w1 ⟨rfl, hb⟩
      go_wp2_with fail
      refine (HU.out _ hb).mono ?_; rintro e w2 ⟨rfl, rfl⟩
      go_wp2_with fail
      go_ret
      exact ⟨congrArg (fun z => Ending.returned (.bool z)) HF.out.symm, hb⟩
    · have HF : Hid (givenB js ss = false) := given_no_lenS he
      have he1 : (((ss.length : Int)) == ((js.length : Int))) = false := by simp; omega
      have he2 : (ss.length == js.length) = false := by simp; omega
      clear hj he
      go_enter Try.func23, Try.ntmps23
      go_wp2_with fail
      refine HA.out.mono ?_; rintro e w1 ⟨rfl, hb⟩
      go_wp2_with fail
      go_ret
      exact ⟨congrArg (fun z => Ending.returned (.bool z)) HF.out.symm, hb⟩
set_option maxHeartbeats 1000000 in
theorem specIsSchedule_any (v u : Value) (js : List Jb) (ss : List Int) (w : World) (h : RJbS w w.heap.size v js) (h' : RI w w.heap.size u ss) (hn : js.length ≤ 1048576) (hn2 : ss.length ≤ 1048576) :
    Calls Try.prog 7 #[v, u] w (RetV w (.tuple #[.bool (isSched js ss).1, .bool (isSched js ss).2])) := by
  have HA := Lib.hid (prGiven_any v u js ss w h h' hn hn2)
  cases hg : givenB js ss
  · have HF : isSched js ss = (false, false) := by simp [isSched, hg]
    rw [HF]
    rw [hg] at HA
    clear hg HF
    go_enter Try.func7, Try.ntmps7
    go_wp2_with fail
    refine HA.out.mono ?_; rintro e w1 ⟨rfl, hb⟩
    go_wp2_with fail
    go_ret2
    exact ⟨rfl, hb⟩
  · have HF : isSched js ss = (schedB js ss, true) := by simp [isSched, hg]
    rw [HF]
    have HS := Lib.hid (fun (w' : World) (hb : Below w.heap.size w w') => prSchedule_any v u js ss w' ((h.step hb (Nat.le_refl _)).more hb.size) ((h'.step hb (Nat.le_refl _)).more hb.size) hg)
    rw [hg] at HA
    clear hg HF
    go_enter Try.func7, Try.ntmps7
    go_wp2_with fail
    refine HA.out.mono ?_; rintro e w1 ⟨rfl, hb⟩
    go_wp2_with fail
    refine (HS.out _ hb).mono ?_; rintro e w2 ⟨rfl, hb2⟩
    go_wp2_with fail
    go_ret2
    exact ⟨rfl, hb.trans (hb2.mono hb.size)⟩
end Go.Proofs.Ytdlmacoblmnajaa
