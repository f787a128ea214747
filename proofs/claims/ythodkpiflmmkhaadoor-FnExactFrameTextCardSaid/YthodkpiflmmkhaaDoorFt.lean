/-
  The contracts of FrameText, both sides.
-/
import Derived.Test.YthodkpiflmmkhaaDoorTxN
import Derived.Test.YthodkpiflmmkhaaDoorShelfW
import Derived.Test.YthodkpiflmmkhaaDoorIsFrame
import Derived.Test.YthodkpiflmmkhaaDoorHeld
import Derived.Test.YthodkpiflmmkhaaDoorAcc
import Derived.Deep.LoopGhost
import Derived.Deep.QuietTactic
import Derived.BigQuiet
import Derived.RegionTactic
import Derived.Lib.ItoaWalk
namespace Go.Proofs.YthodkpiflmmkhaaDoor
open Go.RowKit Go.Conc
set_option maxRecDepth 100000
set_option linter.unusedVariables false

/-- The letters of half bytes. -/
def hxS : ByteArray := ⟨#[48, 49, 50, 51, 52, 53, 54, 55, 56, 57, 97, 98, 99, 100, 101, 102]⟩
def hxD (k : Nat) : UInt8 := hxS.data.toList.getD k 0
def hxB (b : Int) : List UInt8 := [hxD (b / 16).toNat, hxD (b % 16).toNat]
def hexL (l : List Int) : List UInt8 := (l.map hxB).flatten
theorem hexL_succ (l : List Int) (j : Nat) (hj : j < l.length) : hexL (l.take (j + 1)) = hexL (l.take j) ++ hxB (l.getD j 0) := by
  rw [List.take_succ_eq_append_getElem hj]
  have e : l.getD j 0 = l[j] := by simp [List.getD, hj]
  rw [e]
  unfold hexL
  rw [List.map_append, List.map_cons, List.map_nil, List.flatten_append, List.flatten_cons, List.flatten_nil, List.append_nil]
theorem hexL_len (l : List Int) : (hexL l).length = 2 * l.length := by
  induction l with
  | nil => rfl
  | cons a l ih =>
    simp only [hexL, List.map_cons, List.flatten_cons, List.length_append, List.length_cons] at ih ⊢
    rw [ih]
    simp [hxB]
    omega
theorem hx_size : hxS.size = 16 := rfl
theorem hx_cut_fin : ∀ k : Fin 16, hxS.extract k.val (k.val + 1) = ⟨[hxD k.val].toArray⟩ := by decide +kernel
theorem hx_idx (z : Int) (h : 0 ≤ z ∧ z < 16) (w : World) : (Instr.index 9 (.string hxS) (.int .i64 z)).run Tryd.prog w = .ok (.int .u8 ((hxD z.toNat).toNat : Int)) w := by
  rw [run_index_string w 9 hxS .i64 z Tryd.underlying9, dif_pos ⟨h.1, by rw [hx_size]; omega⟩]
  congr 3
  exact congrArg UInt8.toNat (Lib.getD_at hxS _ _)
/-- A frame's text. -/
def ftL (x : Fr) : List UInt8 := Lib.itoa x.f ++ 62 :: (Lib.itoa x.t ++ 58 :: (Lib.itoa x.p ++ 58 :: hexL x.d))
def ftSays (x : Fr) : ByteArray × Bool := if isFr x = true then (⟨(ftL x).toArray⟩, true) else (⟨#[]⟩, false)
theorem byteCells_snoc (l : List UInt8) (c : UInt8) : Lib.byteCells l ++ [.int .u8 (c.toNat : Int)] = Lib.byteCells (l ++ [c]) := by simp [Lib.byteCells]
set_option maxHeartbeats 2000000 in
theorem hexText_any (v : Value) (l : List Int) (w : World) (h : RI w w.heap.size v l) (hl : l.length ≤ 16) (hm : ∀ j, j < l.length → 0 ≤ l.getD j 0 ∧ l.getD j 0 ≤ 255) :
    Calls Tryd.prog 15 #[v] w (RetV w (.string ⟨(hexL l).toArray⟩)) := by
  obtain ⟨A, c, rfl, hlc, hc⟩ := h
  have hlI : (l.length : Int) ≤ 16 := by omega
  have HIN := Lib.hid hm
  have HCC : Hid (∀ j, j < l.length → ∃ b off, A = some ⟨b, off, none⟩ ∧ b < w.heap.size ∧ w.cell? ⟨b, off + j, none⟩ = some (.int .i64 (l.getD j 0))) := by
    show ∀ _, _
    intro j hj
    obtain ⟨b, off, h1, h2, h3⟩ := hc (by omega)
    exact ⟨b, off, h1, h2, h3 j hj⟩
  have HXS := Lib.hid (fun j hj => hexL_succ l j hj)
  have HXL := Lib.hid (fun j => show (hexL (l.take j)).length ≤ 32 from by rw [hexL_len]; simp; omega)
  obtain ⟨S, hS⟩ : ∃ S : Nat → List UInt8, S = fun j => hexL (l.take j) := ⟨_, rfl⟩
  have HS0 : Hid (S 0 = []) := by show _ = _; rw [hS]; rfl
  have HSN : Hid (S l.length = hexL l) := by show _ = _; rw [hS]; simp only [List.take_length]
  have HSL : Hid (∀ j, (S j).length ≤ 32) := by show ∀ _, _; intro j; rw [hS]; exact HXL.out j
  have HSS : Hid (∀ j, j < l.length → S (j + 1) = S j ++ hxB (l.getD j 0)) := by show ∀ _, _; intro j h1; rw [hS]; exact HXS.out j h1
  have HIX := Lib.hid (fun z h w => hx_idx z h w)
  have HIB := Lib.hid (Lib.fresh_isBuilder 46 5 w)
  rw [← HSN.out]
  clear hc hm HXS HXL hS
  go_enter Tryd.func15, Tryd.ntmps15
  go_wp2_with fail
  go_loopg [8] l.length (fun g sI wx => ∃ j : Nat, j + g = l.length ∧ sI = .int .i64 (j : Int) ∧ Lib.IsBuilder 46 5 w.heap.size w.heap.size (Lib.byteCells (S j)) wx ∧ Below w.heap.size w wx)
  case atStart => exact ⟨0, by omega, rfl, by rw [HS0.out]; exact HIB.out, (Below.refl _ _).alloc (Nat.le_refl _) _⟩
  case round =>
    clear HIB
    obtain ⟨j, hjg, rfl, hib, hb⟩ := hrel
    have HB := Lib.hid hb
    cases gk with
    | zero =>
      have hje : j = l.length := by omega
      have hz : ¬ ((l.length : Int) < (l.length : Int)) := by omega
      rw [hje] at hib
      have HST := Lib.hid (Tryd.Builder_String_any _ _ _ wr hib hb.size)
      rw [hje]
      clear hje hjg hb hib
      go_wp2_with fail
      refine HST.out.mono ?_; rintro e w5 ⟨rfl, hb5⟩
      have HB5 := Lib.hid (HB.out.trans hb5)
      clear hb5
      go_wp2_with fail
      go_ret
      exact ⟨rfl, HB5.out⟩
    | succ g =>
      have hj : j < l.length := by omega
      have hjI : (j : Int) < (l.length : Int) := by omega
      obtain ⟨b, off, hA, hbl, hcl⟩ := HCC.out j hj
      subst hA
      have d0 := (hb.cell (p := ⟨b, off + j, none⟩) hbl).trans hcl
      have hin := HIN.out j hj
      have hsl := HSL.out j
      have HX := Lib.hid (HSS.out j hj)
      generalize l.getD j 0 = x at d0 HX hin
      unfold hxB at HX
      have e1 : IntKind.i64.wrap (x / 16) = x / 16 := IntWalk.i64_in _ (by omega)
      have e2 : IntKind.i64.wrap (x % 16) = x % 16 := IntWalk.i64_in _ (by omega)
      have hi1 := HIX.out (x / 16) ⟨by omega, by omega⟩
      have hi2 := HIX.out (x % 16) ⟨by omega, by omega⟩
      unfold hxS at hi1 hi2
      generalize hxD (x / 16).toNat = P at HX hi1
      generalize hxD (x % 16).toNat = Q at HX hi2
      have HW1 := Lib.hid (Tryd.Builder_WriteByte _ _ _ (P.toNat : Int) wr hib (by simp [Lib.byteCells]; omega) hb.size)
      have hsz := hb.size
      clear hcl hb hib
      go_wp2_with fail
      refine HW1.out.mono ?_; rintro e w5 ⟨rfl, hib5, hb5⟩
      rw [byteCells_snoc] at hib5
      have HB5 := Lib.hid (HB.out.trans hb5)
      have HW2 := Lib.hid (Tryd.Builder_WriteByte _ _ _ (Q.toNat : Int) w5 (Or.inr hib5) (by simp [Lib.byteCells]; omega) HB5.out.size)
      clear hb5 hib5
      go_wp2_with fail
      refine HW2.out.mono ?_; rintro e w6 ⟨rfl, hib6, hb6⟩
      rw [byteCells_snoc] at hib6
      have HI6 : Hid (Lib.IsBuilder 46 5 w.heap.size w.heap.size (Lib.byteCells (S (j + 1))) w6) := by
        show Lib.IsBuilder _ _ _ _ _ _
        rw [HX.out]
        refine Or.inr ?_
        simpa using hib6
      have HB6 := Lib.hid (HB5.out.trans hb6)
      clear hb6 hib6
      go_wp2_with fail
      go_roundg g
      case measure => omega
      case rel => exact ⟨j + 1, by omega, by go_num, HI6.out, HB6.out⟩
theorem isFr_ins {x : Fr} (h : isFr x = true) : (0 ≤ x.f ∧ x.f ≤ 11) ∧ (0 ≤ x.t ∧ x.t ≤ 11) ∧ (0 ≤ x.p ∧ x.p ≤ 7) ∧ x.d.length ≤ 16 ∧ ∀ j, j < x.d.length → 0 ≤ x.d.getD j 0 ∧ x.d.getD j 0 ≤ 255 := by
  have h0 : (0 ≤ x.f ∧ x.f ≤ 11) ∧ (0 ≤ x.t ∧ x.t ≤ 11) ∧ (0 ≤ x.p ∧ x.p ≤ 7) ∧ x.d.length ≤ 16 ∧ okAll 0 255 x.d = true := by simpa [isFr, wi] using h
  refine ⟨h0.1, h0.2.1, h0.2.2.1, h0.2.2.2.1, fun j hj => ?_⟩
  have h1 := h0.2.2.2.2
  simp only [okAll, List.all_eq_true] at h1
  have e : x.d.getD j 0 = x.d[j] := by simp [List.getD, hj]
  rw [e]
  simpa using h1 _ (List.getElem_mem hj)
theorem hx_cut (z : Int) (h : 0 ≤ z ∧ z < 16) (w : World) : (Instr.slice 9 (.string hxS) (some (.int .i64 z)) (some (.int .i64 (z + 1))) none).run Tryd.prog w = .ok (.string ⟨[hxD z.toNat].toArray⟩) w := by
  have h1 := hx_cut_fin ⟨z.toNat, by omega⟩
  have e : (z + 1).toNat = z.toNat + 1 := by omega
  have h2 : (hxS.size : Int) = 16 := rfl
  have h3 := run_slice_string (P := Tryd.prog) w 9 hxS .i64 .i64 z (z + 1) Tryd.underlying9 h.1 (by omega) (by rw [h2]; omega)
  rw [h3, e, h1]
set_option maxHeartbeats 2000000 in
theorem frText_any (v : Value) (x : Fr) (w : World) (h : RF w w.heap.size v x) (hg : isFr x = true) :
    Calls Tryd.prog 11 #[v] w (RetV w (.string ⟨(ftL x).toArray⟩)) := by
  obtain ⟨hf, htt, hp, hl16, hm⟩ := isFr_ins hg
  clear hg
  obtain ⟨s, rfl, h⟩ := h
  obtain ⟨f, t, p, l⟩ := x
  simp only [frV, ftL] at h hf htt hp hl16 hm ⊢
  obtain ⟨A, c, rfl, hlc, hc⟩ := h
  have hW : Below w.heap.size w (w.alloc (.cells #[.int .i64 f, .int .i64 t, .int .i64 p, .slice A l.length c] 28)) := (Below.refl _ _).alloc (Nat.le_refl _) _
  have hB := BK.made w 28 #[.int .i64 f, .int .i64 t, .int .i64 p, .slice A l.length c]
  have hlI : (l.length : Int) ≤ 16 := by omega
  have HIN := Lib.hid hm
  have HCC : Hid (∀ j, j < l.length → ∃ b off, A = some ⟨b, off, none⟩ ∧ b < w.heap.size ∧ w.cell? ⟨b, off + j, none⟩ = some (.int .i64 (l.getD j 0))) := by
    show ∀ _, _
    intro j hj
    obtain ⟨b, off, h1, h2, h3⟩ := hc (by omega)
    exact ⟨b, off, h1, h2, h3 j hj⟩
  have HXS := Lib.hid (fun j hj => hexL_succ l j hj)
  have HXL := Lib.hid (fun j => show (hexL (l.take j)).length ≤ 32 from by rw [hexL_len]; simp; omega)
  have HNF := Lib.hid (fun w => numOf_any f w ⟨by omega, by omega⟩)
  have HNT := Lib.hid (fun w => numOf_any t w ⟨by omega, by omega⟩)
  have HNP := Lib.hid (fun w => numOf_any p w ⟨by omega, by omega⟩)
  have hfl := itoa_short (x := f) ⟨by omega, by omega⟩
  have htl := itoa_short (x := t) ⟨by omega, by omega⟩
  have hpl := itoa_short (x := p) ⟨by omega, by omega⟩
  generalize Lib.itoa f = F at HNF hfl ⊢
  generalize Lib.itoa t = T at HNT htl ⊢
  generalize Lib.itoa p = K at HNP hpl ⊢
  obtain ⟨S, hS⟩ : ∃ S : Nat → List UInt8, S = fun j => F ++ 62 :: (T ++ 58 :: (K ++ 58 :: hexL (l.take j))) := ⟨_, rfl⟩
  have HS0 : Hid (S 0 = F ++ 62 :: (T ++ 58 :: (K ++ [58]))) := by show _ = _; rw [hS]; rfl
  have HSN : Hid (S l.length = F ++ 62 :: (T ++ 58 :: (K ++ 58 :: hexL l))) := by show _ = _; rw [hS]; simp only [List.take_length]
  have HSL : Hid (∀ j, (S j).length ≤ 200) := by show ∀ _, _; intro j; rw [hS]; have := HXL.out j; simp only [List.length_append, List.length_cons]; omega
  have HSS : Hid (∀ j, j < l.length → S (j + 1) = S j ++ hxB (l.getD j 0)) := by show ∀ _, _; intro j h1; rw [hS]; simp only [HXS.out j h1]; simp
  have HCU := Lib.hid (fun z h w => hx_cut z h w)
  rw [← HSN.out]
  have ha1 := app_str F [62]
  have ha2 := app_str (F ++ [62]) T
  have ha3 := app_str (F ++ [62] ++ T) [58]
  have ha4 := app_str (F ++ [62] ++ T ++ [58]) K
  have ha5 := app_str (F ++ [62] ++ T ++ [58] ++ K) [58]
  simp only [List.append_assoc, List.cons_append, List.nil_append] at ha1 ha2 ha3 ha4 ha5
  have hl1 : (F ++ [62]).length ≤ 30 := by simp; omega
  have hl2 : (F ++ 62 :: T).length ≤ 60 := by simp; omega
  have hl3 : (F ++ 62 :: (T ++ [58])).length ≤ 70 := by simp; omega
  have hl4 : (F ++ 62 :: (T ++ 58 :: K)).length ≤ 100 := by simp; omega
  clear hc hm HXS HXL hS
  go_enter Tryd.func11, Tryd.ntmps11
  have e0 := hB.cell 0
  have e1 := hB.cell 1
  have e2 := hB.cell 2
  have e3 := hB.cell 3
  simp only [List.getElem?_toArray, List.getElem?_cons_zero, List.getElem?_cons_succ] at e0 e1 e2 e3
  have hlt := hB.1
  have HT := Lib.hid hW
  have a0 := fun (s : HW (w.alloc (.cells #[.int .i64 f, .int .i64 t, .int .i64 p, .slice A l.length c] 28))) => HW.cellIs (p := ⟨w.heap.size, 0, none⟩) e0 (show w.heap.size < _ from hlt) s
  have a1 := fun (s : HW (w.alloc (.cells #[.int .i64 f, .int .i64 t, .int .i64 p, .slice A l.length c] 28))) => HW.cellIs (p := ⟨w.heap.size, 1, none⟩) e1 (show w.heap.size < _ from hlt) s
  have a2 := fun (s : HW (w.alloc (.cells #[.int .i64 f, .int .i64 t, .int .i64 p, .slice A l.length c] 28))) => HW.cellIs (p := ⟨w.heap.size, 2, none⟩) e2 (show w.heap.size < _ from hlt) s
  have a3 := fun (s : HW (w.alloc (.cells #[.int .i64 f, .int .i64 t, .int .i64 p, .slice A l.length c] 28))) => HW.cellIs (p := ⟨w.heap.size, 3, none⟩) e3 (show w.heap.size < _ from hlt) s
  clear hB hW e0 e1 e2 e3
  go_upto_region 1 with fail
  refine wp_region_held_lit (by kernel_rfl) (by kernel_rfl) ?_
  repeat (go_big_quiet_step ((first | (go_at_call 20; with_reducible first | exact held_call _ (HNF.out _) | exact held_call _ (HNT.out _) | exact held_call _ (HNP.out _)))))
  refine wpQuiet_nil ?_
  intro _ hw'
  obtain ⟨s5, hw''⟩ := hw'
  subst hw''
  have c3 := a3 s5
  have HB5 := Lib.hid (HT.out.trans (s5.bel.mono HT.out.size))
  clear a0 a1 a2 a3
  go_wp2_with fail
  go_loopg [23, 3] l.length (fun g s23 s3 wx => ∃ j : Nat, j + g = l.length ∧ s23 = .int .i64 (j : Int) ∧ s3 = .string ⟨(S j).toArray⟩ ∧ Below w.heap.size w wx)
  case atStart => exact ⟨0, by omega, rfl, by rw [HS0.out], HB5.out⟩
  case round =>
    obtain ⟨j, hjg, rfl, rfl, hb⟩ := hrel
    have HB := Lib.hid hb
    cases gk with
    | zero =>
      have hje : j = l.length := by omega
      have hz : ¬ ((l.length : Int) < (l.length : Int)) := by omega
      rw [hje]
      clear hje hjg hb
      go_wp2_with fail
      go_ret
      exact ⟨rfl, HB.out⟩
    | succ g =>
      have hj : j < l.length := by omega
      have hjI : (j : Int) < (l.length : Int) := by omega
      obtain ⟨b, off, hA, hbl, hcl⟩ := HCC.out j hj
      subst hA
      have d0 := (hb.cell (p := ⟨b, off + j, none⟩) hbl).trans hcl
      have hin := HIN.out j hj
      have hsl := HSL.out j
      have HX := Lib.hid (HSS.out j hj)
      generalize l.getD j 0 = x at d0 HX hin
      unfold hxB at HX
      have e1 : IntKind.i64.wrap (x / 16) = x / 16 := IntWalk.i64_in _ (by omega)
      have e2 : IntKind.i64.wrap (x % 16) = x % 16 := IntWalk.i64_in _ (by omega)
      have e3 : IntKind.i64.wrap (x / 16 + 1) = x / 16 + 1 := IntWalk.i64_in _ (by omega)
      have e4 : IntKind.i64.wrap (x % 16 + 1) = x % 16 + 1 := IntWalk.i64_in _ (by omega)
      have hi1 := HCU.out (x / 16) ⟨by omega, by omega⟩
      have hi2 := HCU.out (x % 16) ⟨by omega, by omega⟩
      unfold hxS at hi1 hi2
      generalize hxD (x / 16).toNat = P at HX hi1
      generalize hxD (x % 16).toNat = Q at HX hi2
      obtain ⟨J, hJ⟩ : ∃ J, J = S j := ⟨_, rfl⟩
      rw [← hJ] at HX hsl ⊢
      have ha6 := app_str [P] [Q]
      have ha7 := app_str J [P, Q]
      simp only [List.cons_append, List.nil_append] at ha6
      clear hJ hcl hb
      go_upto_region 5 with fail
      go_region
      all_goals
        go_wp2_with fail
        go_roundg g
        case measure => omega
        case rel => exact ⟨j + 1, by omega, by go_num, by rw [HX.out], HB.out.drew⟩
set_option maxHeartbeats 2000000 in
theorem specFrameText_any (v : Value) (x : Fr) (w : World) (h : RF w w.heap.size v x) (hn : x.d.length ≤ 1048576) :
    Calls Tryd.prog 5 #[v] w (RetV w (.tuple #[.string (ftSays x).1, .bool (ftSays x).2])) := by
  have HG := Lib.hid (fun v w h => frGood_any v x w h hn)
  have HX := Lib.hid (fun v w h hg => frText_any v x w h hg)
  have hrr := h
  obtain ⟨s, rfl, h⟩ := h
  obtain ⟨f, t, p, l⟩ := x
  simp only [frV] at h hn hrr ⊢
  have hri := h
  obtain ⟨A, c, rfl, _⟩ := h
  have hW : Below w.heap.size w (w.alloc (.cells #[.int .i64 f, .int .i64 t, .int .i64 p, .slice A l.length c] 28)) := (Below.refl _ _).alloc (Nat.le_refl _) _
  have hB := BK.made w 28 #[.int .i64 f, .int .i64 t, .int .i64 p, .slice A l.length c]
  have HR1 := Lib.hid ((hrr.step hW (Nat.le_refl _)).more hW.size)
  have HG1 := Lib.hid (HG.out _ _ HR1.out)
  cases hg : isFr ⟨f, t, p, l⟩
  · rw [hg] at HG1
    rw [show ftSays ⟨f, t, p, l⟩ = (⟨#[]⟩, false) from by simp [ftSays, hg]]
    clear hg hB
    go_enter Tryd.func5, Tryd.ntmps5
    go_wp2_with fail
    refine HG1.out.mono ?_; rintro e w1 ⟨rfl, hb⟩
    go_wp2_with fail
    go_ret2
    exact ⟨rfl, hW.trans (hb.mono hW.size)⟩
  rw [hg] at HG1
  rw [show ftSays ⟨f, t, p, l⟩ = (⟨(ftL ⟨f, t, p, l⟩).toArray⟩, true) from by simp [ftSays, hg]]
  have HX1 := Lib.hid (fun w1 (hb : Below (w.alloc (.cells #[.int .i64 f, .int .i64 t, .int .i64 p, .slice A l.length c] 28)).heap.size (w.alloc (.cells #[.int .i64 f, .int .i64 t, .int .i64 p, .slice A l.length c] 28)) w1) => HX.out _ w1 ((HR1.out.step hb (Nat.le_refl _)).more hb.size) hg)
  generalize ftL ⟨f, t, p, l⟩ = L at HX1 ⊢
  clear hg HX
  go_enter Tryd.func5, Tryd.ntmps5
  go_wp2_with fail
  refine HG1.out.mono ?_; rintro e w1 ⟨rfl, hb⟩
  have hB1 := hB.step hb
  have c0 := hB1.cell 0
  have c1 := hB1.cell 1
  have c2 := hB1.cell 2
  have c3 := hB1.cell 3
  simp only [List.getElem?_toArray, List.getElem?_cons_zero, List.getElem?_cons_succ] at c0 c1 c2 c3
  have HX2 := Lib.hid (HX1.out w1 hb)
  have HT := Lib.hid (hW.trans (hb.mono hW.size))
  clear hB hB1 hb
  go_wp2_with fail
  refine HX2.out.mono ?_; rintro e w2 ⟨rfl, hb2⟩
  have HT2 := Lib.hid (HT.out.trans (hb2.mono HT.out.size))
  clear hb2
  go_wp2_with fail
  go_ret2
  exact ⟨rfl, HT2.out⟩
set_option maxHeartbeats 4000000 in
theorem implFrameText_any (v : Value) (x : Fr) (w : World) (h : RF w w.heap.size v x) (hn : x.d.length ≤ 1048576) (ht : Lib.TabIs Tryd.prog w "internal/strconv.uint64pow10" .u64 Lib.pow10Tab) :
    Calls Tryd.prog 7 #[v] w (RetV w (.tuple #[.string (ftSays x).1, .bool (ftSays x).2])) := by
  have HTB := Lib.hid (Lib.tabBelow_of_tabIs ht)
  have HG := Lib.hid (fun v w h => implIsFrame_any v x w h hn)
  have hrr := h
  obtain ⟨s, rfl, h⟩ := h
  obtain ⟨f, t, p, l⟩ := x
  simp only [frV] at h hn hrr ⊢
  have hri := h
  obtain ⟨A, c, rfl, _⟩ := h
  have hW : Below w.heap.size w (w.alloc (.cells #[.int .i64 f, .int .i64 t, .int .i64 p, .slice A l.length c] 28)) := (Below.refl _ _).alloc (Nat.le_refl _) _
  have hB := BK.made w 28 #[.int .i64 f, .int .i64 t, .int .i64 p, .slice A l.length c]
  have HR1 := Lib.hid ((hrr.step hW (Nat.le_refl _)).more hW.size)
  have HG1 := Lib.hid (HG.out _ _ HR1.out)
  cases hg : isFr ⟨f, t, p, l⟩
  · rw [hg] at HG1
    rw [show ftSays ⟨f, t, p, l⟩ = (⟨#[]⟩, false) from by simp [ftSays, hg]]
    clear hg hB
    go_enter Tryd.func7, Tryd.ntmps7
    go_wp2_with fail
    refine HG1.out.mono ?_; rintro e w1 ⟨rfl, hb⟩
    go_wp2_with fail
    go_ret2
    exact ⟨rfl, hW.trans (hb.mono hW.size)⟩
  obtain ⟨hf, htt, hp, hl16, hm⟩ := isFr_ins hg
  simp only at hf htt hp hl16 hm
  rw [hg] at HG1
  rw [show ftSays ⟨f, t, p, l⟩ = (⟨(ftL ⟨f, t, p, l⟩).toArray⟩, true) from by simp [ftSays, hg]]
  unfold ftL
  simp only
  have HRI := Lib.hid hri
  have hfl := itoa_short (x := f) ⟨by omega, by omega⟩
  have htl := itoa_short (x := t) ⟨by omega, by omega⟩
  have hpl := itoa_short (x := p) ⟨by omega, by omega⟩
  have hjl := hexL_len l
  have HTX := Lib.hid (fun w h => hexText_any (.slice A l.length c) l w h hl16 hm)
  have HIF := Lib.hid (fun w q => itoa_below f w ⟨by omega, by omega⟩ q)
  have HIT := Lib.hid (fun w q => itoa_below t w ⟨by omega, by omega⟩ q)
  have HIP := Lib.hid (fun w q => itoa_below p w ⟨by omega, by omega⟩ q)
  unfold nV at HIF HIT HIP
  generalize Lib.itoa f = F at HIF hfl ⊢
  generalize Lib.itoa t = T at HIT htl ⊢
  generalize Lib.itoa p = K at HIP hpl ⊢
  generalize hexL l = J at HTX hjl ⊢
  have hjl2 : J.length ≤ 32 := by omega
  have ha1 := app_str F [62]
  have ha2 := app_str (F ++ [62]) T
  have ha3 := app_str (F ++ [62] ++ T) [58]
  have ha4 := app_str (F ++ [62] ++ T ++ [58]) K
  have ha5 := app_str (F ++ [62] ++ T ++ [58] ++ K) [58]
  have ha6 := app_str (F ++ [62] ++ T ++ [58] ++ K ++ [58]) J
  simp only [List.append_assoc, List.cons_append, List.nil_append] at ha1 ha2 ha3 ha4 ha5 ha6
  have hl1 : (F ++ [62]).length ≤ 30 := by simp; omega
  have hl2 : (F ++ 62 :: T).length ≤ 60 := by simp; omega
  have hl3 : (F ++ 62 :: (T ++ [58])).length ≤ 70 := by simp; omega
  have hl4 : (F ++ 62 :: (T ++ 58 :: K)).length ≤ 100 := by simp; omega
  have hl5 : (F ++ 62 :: (T ++ 58 :: (K ++ [58]))).length ≤ 110 := by simp; omega
  clear hg hm hri hrr hjl ht
  go_enter Tryd.func7, Tryd.ntmps7
  go_wp2_with fail
  refine HG1.out.mono ?_; rintro e w1 ⟨rfl, hb⟩
  have hB1 := hB.step hb
  have e0 := hB1.cell 0
  have e1 := hB1.cell 1
  have e2 := hB1.cell 2
  have e3 := hB1.cell 3
  simp only [List.getElem?_toArray, List.getElem?_cons_zero, List.getElem?_cons_succ] at e0 e1 e2 e3
  have HT := Lib.hid (hW.trans (hb.mono hW.size))
  have hlt := hB1.1
  have HFS : Hid (∀ s : HW w1, Calls Tryd.prog 14 #[.int .i64 f] s.W (RetV s.W (.string ⟨F.toArray⟩))) := by
    show ∀ _, _
    intro s
    exact HIF.out s.W (HTB.out s.W (HT.out.trans (s.bel.mono HT.out.size)))
  have HTS : Hid (∀ s : HW w1, Calls Tryd.prog 14 #[.int .i64 t] s.W (RetV s.W (.string ⟨T.toArray⟩))) := by
    show ∀ _, _
    intro s
    exact HIT.out s.W (HTB.out s.W (HT.out.trans (s.bel.mono HT.out.size)))
  have HPS : Hid (∀ s : HW w1, Calls Tryd.prog 14 #[.int .i64 p] s.W (RetV s.W (.string ⟨K.toArray⟩))) := by
    show ∀ _, _
    intro s
    exact HIP.out s.W (HTB.out s.W (HT.out.trans (s.bel.mono HT.out.size)))
  have HXS : Hid (∀ s : HW w1, Calls Tryd.prog 15 #[.slice A l.length c] s.W (RetV s.W (.string ⟨J.toArray⟩))) := by
    show ∀ _, _
    intro s
    have hb9 := HT.out.trans (s.bel.mono HT.out.size)
    exact HTX.out s.W ((HRI.out.below hb9).more hb9.size)
  have a0 := fun (s : HW w1) => HW.cellIs (p := ⟨w.heap.size, 0, none⟩) e0 (show w.heap.size < _ from hlt) s
  have a1 := fun (s : HW w1) => HW.cellIs (p := ⟨w.heap.size, 1, none⟩) e1 (show w.heap.size < _ from hlt) s
  have a2 := fun (s : HW w1) => HW.cellIs (p := ⟨w.heap.size, 2, none⟩) e2 (show w.heap.size < _ from hlt) s
  have a3 := fun (s : HW w1) => HW.cellIs (p := ⟨w.heap.size, 3, none⟩) e3 (show w.heap.size < _ from hlt) s
  clear hW hB hb hB1 e0 e1 e2 e3
  go_upto_region 3 with fail
  refine wp_region_held_lit (by kernel_rfl) (by kernel_rfl) ?_
  repeat (go_big_quiet_step ((first | (go_at_call 14; with_reducible first | exact held_call _ (HFS.out _) | exact held_call _ (HTS.out _) | exact held_call _ (HPS.out _)) | (go_at_call 15; with_reducible exact held_call _ (HXS.out _)))))
  refine wpQuiet_nil ?_
  intro _ hw'
  obtain ⟨s5, hw''⟩ := hw'
  subst hw''
  have HB5 := Lib.hid (HT.out.trans (s5.bel.mono HT.out.size))
  clear a0 a1 a2 a3
  go_wp2_with fail
  go_ret2
  exact ⟨rfl, HB5.out⟩
end Go.Proofs.YthodkpiflmmkhaaDoor
