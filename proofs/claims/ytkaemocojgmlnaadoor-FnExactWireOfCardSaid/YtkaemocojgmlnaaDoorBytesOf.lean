/-
  The contracts of BytesOf.
-/
import Derived.Test.YtkaemocojgmlnaaDoorIsFrame
import Derived.Test.YtkaemocojgmlnaaDoorCheck
import Derived.Test.YtkaemocojgmlnaaDoorCat
import Derived.RegionTactic
import Derived.Deep.RegionWith
import Derived.Deep.DeepCutAuto
namespace Go.Proofs.YtkaemocojgmlnaaDoor
open Go.RowKit
set_option maxRecDepth 100000

/-- The head of a frame's bytes, and these. -/
def hdF (x : Fr) : List Int := [x.f * 16 + x.t, x.p * 32 + x.d.length]
def preF (x : Fr) : List Int := hdF x ++ x.d
def bytesF (x : Fr) : List Int := preF x ++ [((chk (preF x) : Nat) : Int)]
theorem isFr_parts {x : Fr} (h : isFr x = true) : (0 ≤ x.f ∧ x.f ≤ 11) ∧ (0 ≤ x.t ∧ x.t ≤ 11) ∧ (0 ≤ x.p ∧ x.p ≤ 7) ∧ x.d.length ≤ 16 ∧ okAll 0 255 x.d = true := by
  simpa [isFr, wi] using h
theorem okAll_append {lo hi : Int} {a b : List Int} (h1 : okAll lo hi a = true) (h2 : okAll lo hi b = true) : okAll lo hi (a ++ b) = true := by
  unfold okAll at *
  rw [List.all_append, h1, h2]; rfl
theorem preF_ok {x : Fr} (h : isFr x = true) : okAll 0 255 (preF x) = true := by
  obtain ⟨h1, h2, h3, h4, h5⟩ := isFr_parts h
  refine okAll_append ?_ h5
  unfold okAll hdF
  simp
  omega
theorem preF_length (x : Fr) : (preF x).length = x.d.length + 2 := by simp [preF, hdF]
theorem bytesF_length (x : Fr) : (bytesF x).length = x.d.length + 3 := by simp [bytesF, preF_length]

theorem frList_any (v : Value) (x : Fr) (w : World) (h : RF w w.heap.size v x) (hF : isFr x = true) :
    Calls Tryd.prog 57 #[v] w (RetL 3 w (bytesF x)) := by
  have HK := Lib.hid (preF_ok hF)
  have hP := preF_length x
  have HE : Hid (bytesF x = preF x ++ [((chk (preF x) : Nat) : Int)]) := rfl
  have HH : Hid (preF x = hdF x ++ x.d) := rfl
  have HD : Hid (hdF x = [x.f * 16 + x.t, x.p * 32 + x.d.length]) := rfl
  obtain ⟨h1, h2, h3, h4, h5⟩ := isFr_parts hF
  obtain ⟨s, rfl, h⟩ := h
  obtain ⟨f, t, p, d⟩ := x
  simp only [frV] at h h1 h2 h3 h4 h5 HD HH hP ⊢
  have h0 := h
  have hsh := Lib.hid h.shape
  obtain ⟨A, c, rfl, hlc, hc⟩ := h
  clear hc h5 hF
  have HP := Lib.hid hP
  clear hP
  have hz : (d.length : Int) ≤ 16 := by omega
  obtain ⟨i0, hi, hz0, hz1, hz2⟩ := info_parts int_info
  have hb0 : Below w.heap.size w (w.alloc (.cells #[.int .i64 f, .int .i64 t, .int .i64 p, .slice A d.length c] 40)) := (Below.refl _ _).alloc (Nat.le_refl _) _
  have hb1 := hb0.alloc hb0.size (.cells #[.int .i64 (f * 16 + t), .int .i64 (p * 32 + (d.length : Int))] 3)
  have ha1 : Acc 3 ((w.alloc (.cells #[.int .i64 f, .int .i64 t, .int .i64 p, .slice A d.length c] 40)).alloc (.cells #[.int .i64 (f * 16 + t), .int .i64 (p * 32 + (d.length : Int))] 3)) w.heap.size
      (.slice (some ⟨w.heap.size + 1, 0, none⟩) 2 2) [f * 16 + t, p * 32 + (d.length : Int)] := by
    have := World.ownsRow_lit (base := w.heap.size) (e := 3) (size := 1) (w.alloc (.cells #[.int .i64 f, .int .i64 t, .int .i64 p, .slice A d.length c] 40)) #[.int .i64 (f * 16 + t), .int .i64 (p * 32 + (d.length : Int))] 2 hb0.size (by unfold maxLen; omega) rfl
    rw [World.size_alloc] at this
    exact this
  go_enter Tryd.func57, Tryd.ntmps57
  go_wp2_with (at_builtin; refine wpList_cat rfl (.tmp 18) (.tmp 20) 22 rfl 3 i0 Tryd.underlying22 hi hz0 hz1 hz2 w w.heap.size w.heap.size _ _ _ d rfl ha1 rfl (h0.below hb1) hsh.out (by simp; omega) hb1 hb1.size ?_; intro v2 w2 ha2 hb2)
  have e2 : [f * 16 + t, p * 32 + (d.length : Int)] ++ d = preF ⟨f, t, p, d⟩ := by rw [HH.out, HD.out]
  rw [e2] at ha2
  clear e2
  obtain ⟨A2, c2, rfl⟩ := acc_shape ha2
  refine (frCheck_any _ _ _ (ha2.oi.ri) (by rw [HP.out]; omega) HK.out).mono ?_; rintro e w' ⟨rfl, rfl⟩
  have hlen : (preF ⟨f, t, p, d⟩).length < 1000000000 := by rw [HP.out]; omega
  have hsz := hb2.size
  go_wp2_with (at_builtin; refine wpList_push rfl (.tmp 22) (.tmp 25) _ rfl 3 i0 Tryd.underlying22 hi hz0 hz1 hz2 _ w w.heap.size _ _ _ rfl rfl ha2 rfl hlen hsz hb2 ?_; intro v3 w3 ha3 hb3)
  go_ret
  exact ⟨_, rfl, by rw [HE.out]; exact ha3.oi, hb3⟩
theorem headOf_any (v : Value) (x : Fr) (w : World) (h : RF w w.heap.size v x) (hF : isFr x = true) :
    Calls Tryd.prog 90 #[v] w (RetV w (.agg #[.int .i64 (x.f * 16 + x.t), .int .i64 (x.p * 32 + (x.d.length : Int))])) := by
  obtain ⟨h1, h2, h3, h4, h5⟩ := isFr_parts hF
  obtain ⟨s, rfl, h⟩ := h
  obtain ⟨f, t, p, d⟩ := x
  simp only [frV] at h h1 h2 h3 h4 ⊢
  obtain ⟨A, c, rfl, hlc, hc⟩ := h
  clear hc h5 hF
  have hz : (d.length : Int) ≤ 16 := by omega
  go_enter Tryd.func90, Tryd.ntmps90
  go_wp2
  refine bodyPost_ret (v := .agg #[.int .i64 (f * 16 + t), .int .i64 (p * 32 + (d.length : Int))]) (by simp [results, Tryd.results90, go_sem]) rfl ⟨rfl, ?_⟩
  exact ((Below.refl _ _).alloc (Nat.le_refl _) _).alloc (by simp) _

theorem bytesOfFrame_any (v : Value) (x : Fr) (w : World) (h : RF w w.heap.size v x) (hF : isFr x = true) :
    Calls Tryd.prog 61 #[v] w (RetL 3 w (bytesF x)) := by
  have HK := Lib.hid (preF_ok hF)
  have hP := preF_length x
  have HE : Hid (bytesF x = preF x ++ [((chk (preF x) : Nat) : Int)]) := rfl
  have HH : Hid (preF x = hdF x ++ x.d) := rfl
  have HD : Hid (hdF x = [x.f * 16 + x.t, x.p * 32 + x.d.length]) := rfl
  have HF := Lib.hid hF
  obtain ⟨h1, h2, h3, h4, h5⟩ := isFr_parts hF
  obtain ⟨s, rfl, h⟩ := h
  obtain ⟨f, t, p, d⟩ := x
  simp only [frV] at h h1 h2 h3 h4 h5 HD HH hP HF ⊢
  have h0 := h
  have hsh := Lib.hid h.shape
  obtain ⟨A, c, rfl, hlc, hc⟩ := h
  clear hc h5 hF
  have HP := Lib.hid hP
  clear hP
  have hz : (d.length : Int) ≤ 16 := by omega
  obtain ⟨i0, hi, hz0, hz1, hz2⟩ := info_parts int_info
  have hb0 : Below w.heap.size w (w.alloc (.cells #[.int .i64 f, .int .i64 t, .int .i64 p, .slice A d.length c] 40)) := (Below.refl _ _).alloc (Nat.le_refl _) _
  have x0 := BK.made w 40 #[.int .i64 f, .int .i64 t, .int .i64 p, .slice A d.length c]
  have hf1 : RF _ _ (frV ⟨f, t, p, d⟩ (.slice A d.length c)) ⟨f, t, p, d⟩ := ⟨_, rfl, (h0.below hb0).more hb0.size⟩
  go_enter Tryd.func61, Tryd.ntmps61
  go_wp2_with fail
  refine (headOf_any _ ⟨f, t, p, d⟩ _ hf1 HF.out).mono ?_; rintro e w1 ⟨rfl, hb1⟩
  have t1 := hb0.trans (hb1.mono hb0.size)
  have x1 := x0.step hb1
  have hb2 : Below w1.heap.size w1 (w1.alloc (.cells #[.int .i64 (f * 16 + t), .int .i64 (p * 32 + (d.length : Int))] 101)) := (Below.refl _ _).alloc (Nat.le_refl _) _
  have t2 := t1.trans (hb2.mono t1.size)
  have x2 := x1.step hb2
  have y2 := BK.made w1 101 #[.int .i64 (f * 16 + t), .int .i64 (p * 32 + (d.length : Int))]
  have s1 := t1.size
  have hxl := x1.1
  clear hb0 x0 hf1 hb1 x1
  go_upto_region 2 with fail
  obtain ⟨W2, hW2⟩ : ∃ W2, W2 = w1.alloc (.cells #[.int .i64 (f * 16 + t), .int .i64 (p * 32 + (d.length : Int))] 101) := ⟨_, rfl⟩
  rw [← hW2] at hb2 t2 x2 y2 ⊢
  clear hW2
  go_cut [4] (fun s4 wx => ∃ u, s4 = u ∧ OI 3 wx w.heap.size wx.heap.size u (preF ⟨f, t, p, d⟩) ∧ Below w.heap.size w wx)
  case first =>
    have c3 := x2.cell 3
    simp at c3
    have hgl : w1.heap.size < W2.heap.size := y2.1
    have hm := BK.made W2.drew 22 #[.slice (some ⟨w1.heap.size, 0, none⟩) 2 2, .slice A d.length c]
    have hb3 : Below W2.heap.size W2 (W2.drew.alloc (.cells #[.slice (some ⟨w1.heap.size, 0, none⟩) 2 2, .slice A d.length c] 22)) := (Below.refl _ _).drew.alloc (Nat.le_refl _) _
    have hCell : ∀ j (h : j < [((.slice (some ⟨w1.heap.size, 0, none⟩) 2 2 : Value), hdF ⟨f, t, p, d⟩), (.slice A d.length c, d)].length), (W2.drew.alloc (.cells #[.slice (some ⟨w1.heap.size, 0, none⟩) 2 2, .slice A d.length c] 22)).cell? ⟨W2.heap.size, j, none⟩ =
        some [((.slice (some ⟨w1.heap.size, 0, none⟩) 2 2 : Value), hdF ⟨f, t, p, d⟩), (.slice A d.length c, d)][j].1 := by
      intro j hj
      match j, hj with
      | 0, _ => exact hm.cell 0
      | 1, _ => exact hm.cell 1
    have hAll : AllRI (W2.drew.alloc (.cells #[.slice (some ⟨w1.heap.size, 0, none⟩) 2 2, .slice A d.length c] 22)) (W2.drew.alloc (.cells #[.slice (some ⟨w1.heap.size, 0, none⟩) 2 2, .slice A d.length c] 22)).heap.size
        [((.slice (some ⟨w1.heap.size, 0, none⟩) 2 2 : Value), hdF ⟨f, t, p, d⟩), (.slice A d.length c, d)] := by
      intro q hq
      simp only [List.mem_cons, List.not_mem_nil, or_false] at hq
      rcases hq with rfl | rfl
      · refine ⟨?_, .inr ⟨_, _, _, rfl⟩⟩
        have y3 := y2.step hb3
        refine RI.more (B := w1.heap.size + 1) ⟨some ⟨w1.heap.size, 0, none⟩, 2, by rw [HD.out]; rfl, ⟨by rw [HD.out]; simp, by unfold maxLen; omega, fun h => by cases h⟩, fun _ => ⟨w1.heap.size, 0, rfl, by omega, fun j hj => ?_⟩⟩ (by have := hb3.size; omega)
        rw [HD.out] at hj ⊢
        match j, hj with
        | 0, _ => exact y3.cell 0
        | 1, _ => exact y3.cell 1
      · exact ⟨((h0.below (t2.trans (hb3.mono t2.size)))).more (by have := t2.size; have := hb3.size; omega), hsh.out⟩
    have hcat : cat [((.slice (some ⟨w1.heap.size, 0, none⟩) 2 2 : Value), hdF ⟨f, t, p, d⟩), (.slice A d.length c, d)] = preF ⟨f, t, p, d⟩ := by rw [HH.out]; simp [cat]
    have hcl : (cat [((.slice (some ⟨w1.heap.size, 0, none⟩) 2 2 : Value), hdF ⟨f, t, p, d⟩), (.slice A d.length c, d)]).length ≤ 1048576 := by rw [hcat, HP.out]; omega
    have HCA := Lib.hid (concat_any W2.heap.size 2 _ _ hm.1 hCell hAll (by simp) hcl)
    have HCat := Lib.hid hcat
    have HB3 := Lib.hid hb3
    clear hcat hcl hCell hAll hm hb3
    go_region_with (go_at_call 58; refine HCA.out.mono ?_; rintro e w3 ⟨u, rfl, ho, hb4⟩)
    all_goals
      go_wp2_with fail
      go_meet
      rw [HCat.out] at ho
      have q1 := HB3.out.size
      have q2 := t2.size
      exact ⟨_, rfl, ho.wide (by omega) (Nat.le_refl _), t2.trans (((HB3.out).trans (hb4.mono q1)).mono q2)⟩
  case rest =>
    obtain ⟨u, rfl, ho, hb5⟩ := hcut
    have ha := ho.acc (by rw [HP.out]; omega)
    obtain ⟨A2, c2, rfl⟩ := acc_shape ha
    have hri := ha.oi.ri
    clear ho
    have hlen : (preF ⟨f, t, p, d⟩).length < 1000000000 := by rw [HP.out]; omega
    have hlen2 : (preF ⟨f, t, p, d⟩).length ≤ 1048576 := by rw [HP.out]; omega
    have hsz := hb5.size
    go_wp2_with fail
    refine (checkOfBytes_any _ _ _ hri hlen2 HK.out).mono ?_; rintro e w' ⟨rfl, rfl⟩
    go_wp2_with (at_builtin; refine wpList_push rfl (.tmp 12) (.tmp 15) _ rfl 3 i0 Tryd.underlying22 hi hz0 hz1 hz2 _ w w.heap.size _ _ _ rfl rfl ha rfl hlen hsz hb5 ?_; intro v3 w3 ha3 hb6)
    go_ret
    exact ⟨_, rfl, by rw [HE.out]; exact ha3.oi, hb6⟩
/-- What BytesOf says. -/
def bytesOf (x : Fr) : List Int × Bool := if isFr x = true then (bytesF x, true) else ([], false)
theorem bytesOf_yes {x : Fr} (h : isFr x = true) : bytesOf x = (bytesF x, true) := by unfold bytesOf; rw [if_pos h]
theorem bytesOf_no {x : Fr} (h : isFr x = false) : bytesOf x = ([], false) := by unfold bytesOf; rw [if_neg (by simp [h])]
theorem bytesOf_len (x : Fr) : (bytesOf x).1.length ≤ 1048576 := by
  cases h : isFr x
  · rw [bytesOf_no h]; simp
  · rw [bytesOf_yes h]; have := (isFr_parts h).2.2.2.1; show (bytesF x).length ≤ _; rw [bytesF_length]; omega

end Go.Proofs.YtkaemocojgmlnaaDoor
