/-
  The contracts of TrafficText, both sides.
-/
import Derived.Test.YtfncajdhdcpooaaDoorTxN
import Derived.Test.YtfncajdhdcpooaaDoorShA
import Derived.Test.YtfncajdhdcpooaaDoorAcc
import Derived.Deep.LoopGhost
import Derived.Lib.AppendIntMem
namespace Go.Proofs.YtfncajdhdcpooaaDoor
open Go.RowKit Go.Conc
set_option maxRecDepth 100000
set_option linter.unusedVariables false

/-- The numbers with commas between them. -/
def txJ (l : List Int) : List UInt8 := Lib.join (l.map Lib.itoa) [44]
theorem txJ_nil : txJ [] = [] := rfl
theorem txJ_one (x : Int) : txJ [x] = Lib.itoa x := Lib.join_one _ _
theorem txJ_snoc (a : Int) (r : List Int) (y : Int) : txJ (a :: r ++ [y]) = txJ (a :: r) ++ [44] ++ Lib.itoa y := by
  unfold txJ
  simp only [List.cons_append, List.map_cons, List.map_append, List.map_nil]
  rw [Lib.join_cons, Lib.join_cons]
  have h := Lib.joinTail_take_succ [44] (r.map Lib.itoa ++ [Lib.itoa y]) r.length (Lib.itoa y) (by simp)
  rw [List.take_of_length_le (by simp), List.take_append_of_le_length (by simp), List.take_of_length_le (by simp)] at h
  rw [h]
  simp [List.append_assoc]
theorem txJ_succ (l : List Int) (j : Nat) (h0 : 0 < j) (hj : j < l.length) : txJ (l.take (j + 1)) = txJ (l.take j) ++ [44] ++ Lib.itoa (l.getD j 0) := by
  rw [List.take_succ_eq_append_getElem hj]
  have e : l.getD j 0 = l[j] := by simp [List.getD, hj]
  rw [e]
  cases hl : l.take j with
  | nil =>
    have := congrArg List.length hl
    rw [List.length_take, List.length_nil] at this
    omega
  | cons a r => exact txJ_snoc a r l[j]
theorem txJ_first (l : List Int) (hj : 0 < l.length) : txJ (l.take 1) = Lib.itoa (l.getD 0 0) := by
  cases l with
  | nil => simp at hj
  | cons a r => exact txJ_one a
theorem txJ_len (l : List Int) (hl : ∀ x ∈ l, 0 ≤ x ∧ x ≤ 1000) : (txJ l).length ≤ 22 * l.length := by
  cases l with
  | nil => simp [txJ_nil]
  | cons a r =>
    unfold txJ
    rw [List.map_cons, Lib.join_length]
    have h1 : ∀ m : List Int, (∀ x ∈ m, 0 ≤ x ∧ x ≤ 1000) → Lib.lens (m.map Lib.itoa) ≤ 21 * m.length := by
      intro m
      induction m with
      | nil => intro _; simp [Lib.lens]
      | cons x m ih =>
        intro hm
        have h2 := itoa_short (hm x (by simp))
        have h3 := ih fun y hy => hm y (by simp [hy])
        simp only [Lib.lens, List.map_cons, List.length_cons, List.sum_cons] at h3 ⊢
        omega
    have h4 := h1 (a :: r) hl
    simp only [List.map_cons, List.length_map, List.length_cons, List.length_nil] at h4 ⊢
    omega
/-- What TrafficText says. -/
def txSays (l : List Int) : ByteArray × Bool := if trOk l = true then (if l.length = 0 then ⟨#[45]⟩ else ⟨(txJ l).toArray⟩, true) else (⟨#[]⟩, false)
set_option maxHeartbeats 2000000 in
theorem specTrafficText_any (v : Value) (l : List Int) (w : World) (h : RI w w.heap.size v l) (hn : l.length ≤ 1048576) :
    Calls Tryd.prog 18 #[v] w (RetV w (.tuple #[.string (txSays l).1, .bool (txSays l).2])) := by
  have HT := Lib.hid (shTraffic_any v l w h hn)
  have hr := h
  obtain ⟨A, c, rfl, hlc, hc⟩ := h
  cases hg : trOk l
  · rw [hg] at HT
    rw [show txSays l = (⟨#[]⟩, false) from by simp [txSays, hg]]
    clear hg hc
    go_enter Tryd.func18, Tryd.ntmps18
    go_wp2_with fail
    refine HT.out.mono ?_; rintro e w' ⟨rfl, rfl⟩
    go_wp2_with fail
    go_ret2
    exact ⟨rfl, Below.refl _ _⟩
  have hl40 := trOk_len hg
  have HIN := Lib.hid (fun j => trOk_at hg j)
  have hmem := trOk_mem hg
  rcases Nat.eq_zero_or_pos l.length with h0 | h0
  · rw [show txSays l = (⟨#[45]⟩, true) from by simp [txSays, hg, h0]]
    rw [hg] at HT
    clear hg hc hmem HIN hr hl40 hlc hn
    obtain rfl := List.eq_nil_of_length_eq_zero h0
    simp only [List.length_nil] at HT ⊢
    clear h0
    go_enter Tryd.func18, Tryd.ntmps18
    go_wp2_with fail
    refine HT.out.mono ?_; rintro e w' ⟨rfl, rfl⟩
    go_wp2_with fail
    go_ret2
    exact ⟨rfl, Below.refl _ _⟩
  rw [show txSays l = (⟨(txJ l).toArray⟩, true) from by simp only [txSays, hg, if_true]; rw [if_neg (by omega)]]
  rw [hg] at HT
  have hI : ((l.length : Int) == 0) = false := by rw [beq_eq_false_iff_ne]; omega
  have hlI : (l.length : Int) ≤ 40 := by omega
  have HLN := Lib.hid (fun j => Nat.le_trans (txJ_len (l.take j) fun x hx => hmem x (List.mem_of_mem_take hx)) (show 22 * (l.take j).length ≤ 880 from by simp; omega))
  have HSU := Lib.hid (fun j h1 h2 => txJ_succ l j h1 h2)
  have HS1 := Lib.hid (txJ_first l h0)
  have HNU := Lib.hid (fun x w h => numOf_any x w h)
  have HCC : Hid (∀ j, j < l.length → ∃ b off, A = some ⟨b, off, none⟩ ∧ b < w.heap.size ∧ w.cell? ⟨b, off + j, none⟩ = some (.int .i64 (l.getD j 0))) := by
    show ∀ _, _
    intro j hj
    obtain ⟨b, off, h1, h2, h3⟩ := hc h0
    exact ⟨b, off, h1, h2, h3 j hj⟩
  have HSA : Hid (∀ j, txJ (l.take j) = txJ (l.take j)) := fun _ => rfl
  have HAL : Hid (txJ (l.take l.length) = txJ l) := by show _ = _; rw [List.take_length]
  obtain ⟨S, hS⟩ : ∃ S : Nat → List UInt8, S = fun j => txJ (l.take j) := ⟨_, rfl⟩
  have HS0 : Hid (S 0 = []) := by show _ = _; rw [hS]; rfl
  have HSN : Hid (S l.length = txJ l) := by show _ = _; rw [hS]; exact HAL.out
  have HSL : Hid (∀ j, (S j).length ≤ 880) := by show ∀ _, _; intro j; rw [hS]; exact HLN.out j
  have HSS : Hid (∀ j, 0 < j → j < l.length → S (j + 1) = S j ++ [44] ++ Lib.itoa (l.getD j 0)) := by show ∀ _, _; intro j h1 h2; rw [hS]; exact HSU.out j h1 h2
  have HSF : Hid (S 1 = Lib.itoa (l.getD 0 0)) := by show _ = _; rw [hS]; exact HS1.out
  rw [← HSN.out]
  clear hg hc hmem HLN HSU HS1 HSA HAL hS hr
  go_enter Tryd.func18, Tryd.ntmps18
  go_wp2_with fail
  refine HT.out.mono ?_; rintro e w' ⟨rfl, rfl⟩
  go_wp2_with fail
  go_loopg [15, 4] l.length (fun g s15 s4 wx => ∃ j : Nat, j + g = l.length ∧ s15 = .int .i64 (j : Int) ∧ s4 = .string ⟨(S j).toArray⟩ ∧ Below w.heap.size w wx)
  case atStart => exact ⟨0, by omega, rfl, by rw [HS0.out], Below.refl _ _⟩
  case round =>
    obtain ⟨j, hjg, rfl, rfl, hb⟩ := hrel
    have HB := Lib.hid hb
    cases gk with
    | zero =>
      have hje : j = l.length := by omega
      have hz : ¬ ((l.length : Int) < (l.length : Int)) := by omega
      rw [hje]
      clear hje hjg hb
      go_wp2_with fail
      go_ret2
      exact ⟨rfl, HB.out⟩
    | succ g =>
      have hj : j < l.length := by omega
      have hjI : (j : Int) < (l.length : Int) := by omega
      obtain ⟨b, off, hA, hbl, hcl⟩ := HCC.out j hj
      subst hA
      have d0 := (hb.cell (p := ⟨b, off + j, none⟩) hbl).trans hcl
      have hin := HIN.out j
      have hsl := HSL.out j
      have HN := Lib.hid (fun w => HNU.out (l.getD j 0) w hin)
      have hil := itoa_short hin
      rcases Nat.eq_zero_or_pos j with hj0 | hj0
      · have hj0I : ¬ (0 : Int) < (j : Int) := by omega
        have HX : Hid (S (j + 1) = Lib.itoa (l.getD j 0)) := by
          show _ = _
          rw [hj0]
          exact HSF.out
        have HZ : S j = [] := by rw [hj0]; exact HS0.out
        rw [HZ]
        have HJ := Lib.hid hj0
        clear HZ hb hcl hj0
        generalize l.getD j 0 = x at d0 HN HX hin hil
        generalize Lib.itoa x = I at HN HX hil
        have hap := app_str [] I
        rw [List.nil_append] at hap
        go_wp2_with fail
        refine (HN.out _).mono ?_; rintro e w5 ⟨rfl, hb5⟩
        have HB5 := Lib.hid (HB.out.trans (hb5.mono HB.out.size))
        clear hb5
        go_wp2_with fail
        go_roundg g
        case measure => omega
        case rel => exact ⟨j + 1, by omega, by go_num, by rw [HX.out], HB5.out⟩
      · have HX := Lib.hid (HSS.out j hj0 hj)
        have hj0I : (0 : Int) < (j : Int) := by omega
        clear hb hcl
        generalize l.getD j 0 = x at d0 HN HX hin hil
        generalize Lib.itoa x = I at HN HX hil
        obtain ⟨T, hT⟩ : ∃ T, T = S j := ⟨_, rfl⟩
        rw [← hT] at HX hsl ⊢
        clear hT
        have hap1 := app_str T [44]
        have hap2 := app_str (T ++ [44]) I
        have hl1 : (T ++ [44]).length ≤ 900 := by simp; omega
        go_wp2_with fail
        refine (HN.out _).mono ?_; rintro e w5 ⟨rfl, hb5⟩
        have HB5 := Lib.hid (HB.out.trans (hb5.mono HB.out.size))
        clear hb5
        go_wp2_with fail
        go_roundg g
        case measure => omega
        case rel => exact ⟨j + 1, by omega, by go_num, by rw [HX.out]; simp, HB5.out⟩
end Go.Proofs.YtfncajdhdcpooaaDoor
