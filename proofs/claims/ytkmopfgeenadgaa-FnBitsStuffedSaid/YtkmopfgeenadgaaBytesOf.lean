/-
  The contracts of BytesOf.
-/
import Derived.Test.YtkmopfgeenadgaaIsFrame
import Derived.Test.YtkmopfgeenadgaaCheck
import Derived.Test.YtkmopfgeenadgaaCat
import Derived.RegionTactic
import Derived.Deep.RegionWith
import Derived.Deep.DeepCutAuto
namespace Go.Proofs.Ytkmopfgeenadgaa
open Go.RowKit
set_option maxRecDepth 100000

/-- The head of a frame's bytes, and these. -/
def hdF (x : Fr) : List Int := [x.f * 16 + x.t, x.p * 32 + x.d.length]
def preF (x : Fr) : List Int := hdF x ++ x.d
def bytesF (x : Fr) : List Int := preF x ++ [((chk (preF x) : Nat) : Int)]
theorem isFr_parts {x : Fr} (h : isFr x = true) : (0 ≤ x.f ∧ x.f ≤ 11) ∧ (0 ≤ x.t ∧ x.t ≤ 11) ∧ (0 ≤ x.p ∧ x.p ≤ 7) ∧ x.d.length ≤ 16 ∧ okAll 0 255 x.d = true := by
  simpa [isFr, wi] using h
theorem okAll_append {lo hi : Int} {a b : List Int} (h1 : okAll lo hi a = true) (h2 : okAll lo hi b = true) : okAll lo hi (a ++ b) = true := by
  unfold okAll at *
  rw [List.all_append, h1, h2]; rfl
theorem preF_ok {x : Fr} (h : isFr x = true) : okAll 0 255 (preF x) = true := by
  obtain ⟨h1, h2, h3, h4, h5⟩ := isFr_parts h
  refine okAll_append ?_ h5
  unfold okAll hdF
  simp
  omega
theorem preF_length (x : Fr) : (preF x).length = x.d.length + 2 := by simp [preF, hdF]
theorem bytesF_length (x : Fr) : (bytesF x).length = x.d.length + 3 := by simp [bytesF, preF_length]

theorem frList_any (v : Value) (x : Fr) (w : World) (h : RF w w.heap.size v x) (hF : isFr x = true) :
    Calls Try.prog 42 #[v] w (RetL 3 w (bytesF x)) := by
  have HK := Lib.hid (preF_ok hF)
  have hP := preF_length x
  have HE : Hid (bytesF x = preF x ++ [((chk (preF x) : Nat) : Int)]) := rfl
  have HH : Hid (preF x = hdF x ++ x.d) := rfl
  have HD : Hid (hdF x = [x.f * 16 + x.t, x.p * 32 + x.d.length]) := rfl
  obtain ⟨h1, h2, h3, h4, h5⟩ := isFr_parts hF
  obtain ⟨s, rfl, h⟩ := h
  obtain ⟨f, t, p, d⟩ := x
  simp only [frV] at h h1 h2 h3 h4 h5 HD HH hP ⊢
  have h0 := h
  have hsh := Lib.hid h.shape
  obtain ⟨A, c, rfl, hlc, hc⟩ := h
  clear hc h5 hF
  have HP := Lib.hid hP
  clear hP
  have hz : (d.length : Int) ≤ 16 := by omega
  obtain ⟨i0, hi, hz0, hz1, hz2⟩ := info_parts int_info
  have hb0 : Below w.heap.size w (w.alloc (.cells #[.int .i64 f, .int .i64 t, .int .i64 p, .slice A d.length c] 46)) := (Below.refl _ _).alloc (Nat.le_refl _) _
  have hb1 := hb0.alloc hb0.size (.cells #[.int .i64 (f * 16 + t), .int .i64 (p * 32 + (d.length : Int))] 3)
  have ha1 : Acc 3 ((w.alloc (.cells #[.int .i64 f, .int .i64 t, .int .i64 p, .slice A d.length c] 46)).alloc (.cells #[.int .i64 (f * 16 + t), .int .i64 (p * 32 + (d.length : Int))] 3)) w.heap.size
      (.slice (some ⟨w.heap.size + 1, 0, none⟩) 2 2) [f * 16 + t, p * 32 + (d.length : Int)] := by
    have := World.ownsRow_lit (base := w.heap.size) (e := 3) (size := 1) (w.alloc (.cells #[.int .i64 f, .int .i64 t, .int .i64 p, .slice A d.length c] 46)) #[.int .i64 (f * 16 + t), .int .i64 (p * 32 + (d.length : Int))] 2 hb0.size (by unfold maxLen; omega) rfl
    rw [World.size_alloc] at this
    exact this
  go_enter Try.func42, Try.ntmps42
  go_wp2_with (at_builtin; refine wpList_cat rfl (.tmp 18) (.tmp 20) 24 rfl 3 i0 Try.underlying24 hi hz0 hz1 hz2 w w.heap.size w.heap.size _ _ _ d rfl ha1 rfl (h0.below hb1) hsh.out (by simp; omega) hb1 hb1.size ?_; intro v2 w2 ha2 hb2)
  have e2 : [f * 16 + t, p * 32 + (d.length : Int)] ++ d = preF ⟨f, t, p, d⟩ := by rw [HH.out, HD.out]
  rw [e2] at ha2
  clear e2
  obtain ⟨A2, c2, rfl⟩ := acc_shape ha2
  refine (frCheck_any _ _ _ (ha2.oi.ri) (by rw [HP.out]; omega) HK.out).mono ?_; rintro e w' ⟨rfl, rfl⟩
  have hlen : (preF ⟨f, t, p, d⟩).length < 1000000000 := by rw [HP.out]; omega
  have hsz := hb2.size
  go_wp2_with (at_builtin; refine wpList_push rfl (.tmp 22) (.tmp 25) _ rfl 3 i0 Try.underlying24 hi hz0 hz1 hz2 _ w w.heap.size _ _ _ rfl rfl ha2 rfl hlen hsz hb2 ?_; intro v3 w3 ha3 hb3)
  go_ret
  exact ⟨_, rfl, by rw [HE.out]; exact ha3.oi, hb3⟩
/-- What BytesOf says. -/
def bytesOf (x : Fr) : List Int × Bool := if isFr x = true then (bytesF x, true) else ([], false)
theorem bytesOf_yes {x : Fr} (h : isFr x = true) : bytesOf x = (bytesF x, true) := by unfold bytesOf; rw [if_pos h]
theorem bytesOf_no {x : Fr} (h : isFr x = false) : bytesOf x = ([], false) := by unfold bytesOf; rw [if_neg (by simp [h])]
theorem bytesOf_len (x : Fr) : (bytesOf x).1.length ≤ 1048576 := by
  cases h : isFr x
  · rw [bytesOf_no h]; simp
  · rw [bytesOf_yes h]; have := (isFr_parts h).2.2.2.1; show (bytesF x).length ≤ _; rw [bytesF_length]; omega

end Go.Proofs.Ytkmopfgeenadgaa
