/-
  The model behind all messages.
-/
import Derived.Test.YtmhcmbgbniaokaaWhole
import Derived.Deep.RegionHeld3
namespace Go.Proofs.Ytmhcmbgbniaokaa
open Go.RowKit Go.Maps
set_option maxRecDepth 100000
set_option linter.unusedVariables false

theorem needT_le {x : Sr} {l : List Ms} (hin : 2 ≤ x.n ∧ x.n ≤ 12) (hm : areMs x.n l = true) : needT x l ≤ 1000 := by
  unfold needT
  split
  · omega
  · rename_i h0
    have h1 := (lastT_le hm 0 (by omega)).2
    have h2 : 2 * x.n.toNat * (l.length + 1) ≤ 24 * 21 := Nat.mul_le_mul (by omega) (by have := (areMs_in hm).1; omega)
    omega
set_option maxHeartbeats 4000000 in
theorem slWhole_any (x : Sr) (l : List Ms) (A : Option Addr) (c : Nat) (w : World) (hg : slOk x l = true) (hlc : l.length ≤ c) (hr : RMsS w w.heap.size (.slice A l.length c) l) :
    Calls Try.prog 29 #[SrV x, .slice A l.length c] w (EndP w x l A c (needT x l)) := by
  have hin := isSr_in (slOk_in hg).1
  obtain ⟨hl20, hall, _⟩ := areMs_in (slOk_in hg).2
  have HTI := Lib.hid (fun w h => slTicks_any x l A c w hin hall hl20 h)
  have HEN := Lib.hid (fun w h => slEnd_any x l A c (needT x l) w hin hall hl20 hlc h (needT_le hin (slOk_in hg).2))
  have HUP : Hid (∀ w wa w', Below w.heap.size w wa → ∀ e, EndP wa x l A c (needT x l) e w' → EndP w x l A c (needT x l) e w') := by
    show ∀ _, _
    rintro w wa w' hW e ⟨g, sb, fb, qb, vf, vr, he, hp, hS⟩
    exact ⟨g, sb, fb, qb, vf, vr, he, RP.low hW.size hp, RunS.low hW hS⟩
  have HOU : Hid (∀ wa e w', EndP wa x l A c (needT x l) e w' → Below wa.heap.size wa w' ∧ ∃ g, e = .returned (.pointer (some ⟨g, 0, none⟩))) := by
    show ∀ _, _
    rintro wa e w' ⟨g, sb, fb, qb, vf, vr, he, hp, hS⟩
    exact ⟨hS.bel, g, he⟩
  generalize hE : (fun w => EndP w x l A c (needT x l)) = E at *
  have hE' : ∀ w, EndP w x l A c (needT x l) = E w := fun w => congrFun hE w
  simp only [hE'] at HEN HUP HOU ⊢
  clear hE hE' hall hin hg
  generalize needT x l = T at *
  obtain ⟨k, hh⟩ := x
  simp only [SrV] at HTI HEN ⊢
  have hW : Below w.heap.size w (w.alloc (.cells #[.int .i64 k, .bool hh] 25)) := (Below.refl _ _).alloc (Nat.le_refl _) _
  have c0 : (w.alloc (.cells #[.int .i64 k, .bool hh] 25)).cell? ⟨w.heap.size, 0, none⟩ = some (.int .i64 k) := by simp
  have c1 : (w.alloc (.cells #[.int .i64 k, .bool hh] 25)).cell? ⟨w.heap.size, 1, none⟩ = some (.bool hh) := by simp
  have hz : w.heap.size < (w.alloc (.cells #[.int .i64 k, .bool hh] 25)).heap.size := by simp
  have HR : Hid (∀ w', Below w.heap.size w w' → RMsS w' w'.heap.size (.slice A l.length c) l) := by
    show ∀ _, _
    intro w' hb
    exact (hr.step hb (Nat.le_refl _)).more hb.size
  clear hr
  go_enter Try.func29, Try.ntmps29
  go_upto_region 1 with fail
  generalize w.alloc (.cells #[.int .i64 k, .bool hh] 25) = wa at *
  have hWd : Below w.heap.size w wa.drew := hW.drew
  go_region_held3 (fun w' => w'.cell? ⟨w.heap.size, 0, none⟩ = some (.int .i64 k) ∧ w'.cell? ⟨w.heap.size, 1, none⟩ = some (.bool hh)) (with_reducible first | exact ⟨c0, c1⟩ | (refine ⟨?_, ?_⟩ <;> assumption) | go_keep)
    (first
      | (go_at_call 41; (with_reducible refine (HTI.out _ (HR.out _ hWd)).mono ?_); rintro e w2 ⟨rfl, hb2⟩; have hb3 := hWd.trans (hb2.mono hWd.size); have d0 := (hb2.cell (p := ⟨w.heap.size, 0, none⟩) hz).trans c0; have d1 := (hb2.cell (p := ⟨w.heap.size, 1, none⟩) hz).trans c1)
      | (go_at_call 40; (with_reducible refine (HEN.out _ (HR.out _ hb3)).mono ?_); intro e w4 hE; obtain ⟨hb4, g, he⟩ := HOU.out _ _ _ hE; subst he; have hz2 := hb2.size; have f0 := (hb4.cell (p := ⟨w.heap.size, 0, none⟩) (by show w.heap.size < _; exact Nat.lt_of_lt_of_le hz hz2)).trans d0; have f1 := (hb4.cell (p := ⟨w.heap.size, 1, none⟩) (by show w.heap.size < _; exact Nat.lt_of_lt_of_le hz hz2)).trans d1))
  go_wp2_with fail
  exact HUP.out _ _ _ hb3 _ hE
end Go.Proofs.Ytmhcmbgbniaokaa
