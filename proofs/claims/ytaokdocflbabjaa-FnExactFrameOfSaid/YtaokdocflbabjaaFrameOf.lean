/-
  The contracts of FrameOf.
-/
import Derived.Test.YtaokdocflbabjaaBytesOf
import Derived.Test.YtaokdocflbabjaaHas
import Derived.Deep.RegionHeld3
import Derived.Test.YtaokdocflbabjaaEq2
namespace Go.Proofs.Ytaokdocflbabjaa
open Go.RowKit
set_option maxRecDepth 100000

def frZero : Fr := ⟨0, 0, 0, []⟩
/-- The frame that bytes would have. -/
def mkF (l : List Int) : Fr := ⟨l.getD 0 0 / 16, l.getD 0 0 % 16, l.getD 1 0 / 32, (l.drop 2).take (l.length - 3)⟩
def okF (l : List Int) : Prop := areB l = true ∧ 3 ≤ l.length ∧ hasC l = true ∧ l.getD 1 0 % 32 = (l.length : Int) - 3 ∧ isFr (mkF l) = true
instance (l : List Int) : Decidable (okF l) := by unfold okF; infer_instance
/-- What FrameOf says. -/
def frameOf (l : List Int) : Fr × Bool := if okF l then (mkF l, true) else (frZero, false)
theorem frameOf_yes {l : List Int} (h : okF l) : frameOf l = (mkF l, true) := by unfold frameOf; rw [if_pos h]
theorem frameOf_no {l : List Int} (h : ¬ okF l) : frameOf l = (frZero, false) := by unfold frameOf; rw [if_neg h]
theorem mkF_len (l : List Int) : (mkF l).d.length ≤ l.length := by simp [mkF]; omega
theorem frameOf_len (l : List Int) : (frameOf l).1.d.length ≤ 1048576 := by
  by_cases h : okF l
  · rw [frameOf_yes h]; have := mkF_len l; have := areB_len h.1; show (mkF l).d.length ≤ _; omega
  · rw [frameOf_no h]; simp [frZero]
/-- A frame and a bool are left. -/
def RetFB (E : TypeId) (w : World) (x : Fr) (b : Bool) (e : Ending) (w' : World) : Prop :=
  ∃ u, e = .returned (.tuple #[u, .bool b]) ∧ OF E w' w.heap.size w'.heap.size u x ∧ Below w.heap.size w w'
theorem of_zero (E : TypeId) (w : World) (lo hi : Nat) : OF E w lo hi (frV frZero (.slice none 0 0)) frZero := ⟨_, rfl, .inl ⟨rfl, none, 0, rfl, by simp, fun _ => rfl⟩⟩
/-- s[2:len-1] -/
theorem RI.mid {w : World} {B : Nat} {A : Option Addr} {n c : Nat} {l : List Int} (h : RI w B (.slice A n c) l) (h3 : 3 ≤ l.length) :
    ∃ b off, A = some ⟨b, off, none⟩ ∧ RI w B (.slice (some ⟨b, off + 2, none⟩) (l.length - 3) (c - 2)) ((l.drop 2).take (l.length - 3)) := by
  obtain ⟨A', c', hv, hlc, hc⟩ := h
  injection hv with h1 h2 h4
  subst h1; subst h2; subst h4
  obtain ⟨b, off, hA, hb, hcell⟩ := hc (by omega)
  have e : ((l.drop 2).take (l.length - 3)).length = l.length - 3 := by simp; omega
  refine ⟨b, off, hA, some ⟨b, off + 2, none⟩, c - 2, by rw [e], ⟨by omega, by omega, fun h => by cases h⟩, fun _ => ⟨b, off + 2, rfl, hb, fun j hj => ?_⟩⟩
  have hj2 : j < l.length - 3 := by omega
  rw [Nat.add_assoc, hcell (2 + j) (by omega)]
  congr 2
  simp [List.getD, hj2]

theorem implFrameOf_no1 (v : Value) (l : List Int) (w : World) (h : RI w w.heap.size v l) (hn : l.length ≤ 1048576) (hno : ¬ (areB l = true ∧ 3 ≤ l.length ∧ hasC l = true)) :
    Calls Try.prog 44 #[v] w (RetFB 3 w frZero false) := by
  have h0 := h
  obtain ⟨A, c, rfl, hlc, hc⟩ := h
  clear hc
  have hb0 : Below w.heap.size w (w.alloc (.cells #[.int .i64 0, .int .i64 0, .int .i64 0, .slice none 0 0] 34)) := (Below.refl _ _).alloc (Nat.le_refl _) _
  have x0 := BK.made w 34 #[.int .i64 0, .int .i64 0, .int .i64 0, .slice none 0 0]
  have h1 := (h0.below hb0).more hb0.size
  have hz : (l.length : Int) ≤ 1048576 := by omega
  have HN := Lib.hid hno
  clear hno
  go_enter Try.func44, Try.ntmps44
  go_wp2_with fail
  refine (implHasCheck_any _ l _ h1 hn).mono ?_; rintro e w1 ⟨rfl, hb1⟩
  have t1 := hb0.trans (hb1.mono hb0.size)
  have x1 := x0.step hb1
  have c10 := x1.cell 0
  have c11 := x1.cell 1
  have c12 := x1.cell 2
  have c13 := x1.cell 3
  have f10 := x1.free 0
  have f11 := x1.free 1
  have f12 := x1.free 2
  have f13 := x1.free 3
  simp at c10 c11 c12 c13
  have hq : (hasOf l).2 = false ∨ (hasOf l).2 = true ∧ (hasOf l).1 = false ∨ (hasOf l).2 = true ∧ (hasOf l).1 = true ∧ (l.length : Int) < 3 := by
    by_cases hy : areB l = true ∧ 0 < l.length
    · rw [hasOf_yes hy.1 hy.2]
      cases hc : hasC l
      · exact .inr (.inl ⟨rfl, rfl⟩)
      · refine .inr (.inr ⟨rfl, rfl, ?_⟩)
        have := HN.out
        rcases Nat.lt_or_ge l.length 3 with h3 | h3
        · omega
        · exact absurd ⟨hy.1, h3, hc⟩ this
    · rw [hasOf_no hy]; exact .inl rfl
  clear hb0 hb1 x0 h1
  generalize (hasOf l).1 = b1 at hq ⊢
  generalize (hasOf l).2 = b2 at hq ⊢
  have HX := Lib.hid x1
  have T1 := Lib.hid t1
  clear x1 t1
  rcases hq with rfl | ⟨rfl, rfl⟩ | ⟨rfl, rfl, hq⟩
  all_goals
    go_wp2_with fail
    refine bodyPost_ret (v := .tuple #[frV frZero (.slice none 0 0), .bool false]) (by simp [results, Try.results44, go_sem, frV, frZero, c10, c11, c12, c13]) rfl ⟨_, rfl, of_zero _ _ _ _, ?_⟩
    exact (((T1.out.setCell (p := ⟨w.heap.size, 0, none⟩) (by simp) _).setCell (p := ⟨w.heap.size, 1, none⟩) (by simp) _).setCell (p := ⟨w.heap.size, 2, none⟩) (by simp) _).setCell (p := ⟨w.heap.size, 3, none⟩) (by simp) _
set_option maxHeartbeats 2000000 in
theorem implFrameOf_at (v : Value) (l : List Int) (w : World) (h : RI w w.heap.size v l) (hA : areB l = true) (h3 : 3 ≤ l.length) (hC : hasC l = true) (x : Fr) (b : Bool) (hxb : (frameOf l) = (x, b)) :
    Calls Try.prog 44 #[v] w (RetFB 3 w x b) := by
  have h0 := h
  have hl := areB_len hA
  obtain ⟨A, c, rfl, hlc, hc⟩ := h
  obtain ⟨b1, off, rfl, hmid⟩ := h0.mid h3
  obtain ⟨b2, off2, he, hbB, hcell⟩ := hc (by omega)
  injection he with he
  injection he with he1 he2
  subst he1; subst he2
  have k0 := hcell 0 (by omega)
  have k1 := hcell 1 (by omega)
  rw [Nat.add_zero] at k0
  have y0 := okAll_at (areB_ok hA) 0 (by omega)
  have y1 := okAll_at (areB_ok hA) 1 (by omega)
  have HM : Hid (mkF l = ⟨l.getD 0 0 / 16, l.getD 0 0 % 16, l.getD 1 0 / 32, (l.drop 2).take (l.length - 3)⟩) := rfl
  have HO : Hid (hasOf l = (true, true)) := by show _ = _; rw [hasOf_yes hA (by omega), hC]
  have hDl : ((l.drop 2).take (l.length - 3)).length = l.length - 3 := by simp; omega
  have hDok : okAll 0 255 ((l.drop 2).take (l.length - 3)) = true := by
    have := areB_ok hA
    unfold okAll at this ⊢
    rw [List.all_eq_true] at this ⊢
    exact fun x hx => this x (List.mem_of_mem_drop (List.mem_of_mem_take hx))
  generalize (l.drop 2).take (l.length - 3) = D at hmid HM hDl hDok
  have HDL := Lib.hid hDl
  have HDO := Lib.hid hDok
  have hD3 : D.length ≤ 37 := by omega
  clear hDl hDok
  clear hc hcell
  have HXB := Lib.hid hxb
  have hb0 : Below w.heap.size w (w.alloc (.cells #[.int .i64 0, .int .i64 0, .int .i64 0, .slice none 0 0] 34)) := (Below.refl _ _).alloc (Nat.le_refl _) _
  have x0 := BK.made w 34 #[.int .i64 0, .int .i64 0, .int .i64 0, .slice none 0 0]
  have r1 := (h0.below hb0).more hb0.size
  have hz : (l.length : Int) ≤ 40 := by omega
  have hz3 : 3 ≤ (l.length : Int) := by omega
  have OKF : Hid (l.getD 1 0 % 32 = (l.length : Int) - 3 ∧ isFr ⟨l.getD 0 0 / 16, l.getD 0 0 % 16, l.getD 1 0 / 32, D⟩ = true → okF l) := by
    show _ → _
    rintro ⟨q1, q2⟩
    exact ⟨hA, h3, hC, q1, by rw [HM.out]; exact q2⟩
  have OKN : Hid (okF l → l.getD 1 0 % 32 = (l.length : Int) - 3) := by
    show _ → _
    exact fun h => h.2.2.2.1
  generalize l.getD 0 0 = p0 at k0 y0 HM OKF
  generalize l.getD 1 0 = p1 at k1 y1 HM OKF OKN
  go_enter Try.func44, Try.ntmps44
  go_wp2_with fail
  refine (implHasCheck_any _ l _ r1 (by omega)).mono ?_; rintro e w1 ⟨rfl, hb1⟩
  rw [HO.out]
  have t1 := hb0.trans (hb1.mono hb0.size)
  have x1 := x0.step hb1
  have j0 := (t1.cell (p := ⟨b1, off, none⟩) hbB).trans k0
  have j1 := (t1.cell (p := ⟨b1, off + 1, none⟩) hbB).trans k1
  have harr := fun (wx : World) => run_arrayAt (P := Try.prog) wx 62 3 2 (some ⟨b1, off, none⟩) 2 c Try.underlying62 (Nat.le_refl _)
  clear r1 x0 hb0 hb1 k0 k1
  have s1 := t1.size
  have l1 := x1.1
  have hb2 : Below w1.heap.size w1 (w1.alloc (.cells #[.int .i64 p0, .int .i64 p1] 62)) := (Below.refl _ _).alloc (Nat.le_refl _) _
  have t2 := t1.trans (hb2.mono s1)
  have x2 := x1.step hb2
  have y2 := BK.made w1 62 #[.int .i64 p0, .int .i64 p1]
  have s2 := hb2.size
  have l2 := y2.1
  clear x1
  go_upto_region 5 with fail
  obtain ⟨W2, hW2⟩ : ∃ W2, W2 = w1.alloc (.cells #[.int .i64 p0, .int .i64 p1] 62) := ⟨_, rfl⟩
  rw [← hW2] at hb2 t2 x2 y2 s2 l2 ⊢
  clear hW2 hb2 j0 j1
  go_cut [7] (fun s7 wx => ∃ g s, s7 = .pointer (some ⟨g, 0, none⟩) ∧ BK wx g 34 #[.int .i64 (p0 / 16), .int .i64 (p0 % 16), .int .i64 (p1 / 32), s] ∧ OI 3 wx (w.heap.size + 1) wx.heap.size s D ∧ Below W2.heap.size W2 wx ∧ W2.heap.size ≤ g)
  case first =>
    have a0 := y2.cell 0
    have a1 := y2.cell 1
    simp at a0 a1
    have hd : W2.heap.size ≤ W2.drew.heap.size := Nat.le_refl _
    have hq := t2.size
    have hq1 : w.heap.size + 1 ≤ W2.heap.size := x2.1
    have e3 : l.length - 1 - 2 = l.length - 3 := by omega
    have n0 := World.new_ne W2 _ a0
    have n1 := World.new_ne W2 _ a1
    have R2 : RI W2.drew W2.drew.heap.size (.slice (if c = 2 then some ⟨b1, off, none⟩ else some ⟨b1, off + 2, none⟩) (l.length - 1 - 2) (c - 2)) D := by rw [e3, if_neg (by omega)]; exact ((hmid.below t2).drewN 1).more hq
    have hm3 : D.length ≤ 1048576 := by omega
    have Y2 : BK W2.drew w1.heap.size 62 #[.int .i64 p0, .int .i64 p1] := y2
    have g1 : (2 : Int) ≤ (l.length : Int) - 1 := by omega
    have g2 : (l.length : Int) - 1 ≤ (c : Int) := by omega
    have e1 : ((l.length : Int) - 1).toNat = l.length - 1 := by omega
    have e2 : IntKind.i64.wrap ((l.length : Int) - 1) = (l.length : Int) - 1 := IntWalk.i64_in _ (by omega)
    have v0 : p0.tdiv 16 = p0 / 16 := Int.tdiv_eq_ediv_of_nonneg y0.1
    have v1 : p0.tmod 16 = p0 % 16 := Int.tmod_eq_emod_of_nonneg y0.1
    have v2 : p1.tdiv 32 = p1 / 32 := Int.tdiv_eq_ediv_of_nonneg y1.1
    have v3 : IntKind.i64.wrap (p0 / 16) = p0 / 16 := IntWalk.i64_in _ (by omega)
    have v4 : IntKind.i64.wrap (p1 / 32) = p1 / 32 := IntWalk.i64_in _ (by omega)
    clear e3
    have hbz : Below W2.heap.size W2 (W2.alloc (.cells #[.int .i64 0, .int .i64 0, .int .i64 0, .slice none 0 0] 34)) := (Below.refl _ _).alloc (Nat.le_refl _) _
    have bz := BK.made W2 34 #[.int .i64 0, .int .i64 0, .int .i64 0, .slice none 0 0]
    have R3 : RI (W2.alloc (.cells #[.int .i64 0, .int .i64 0, .int .i64 0, .slice none 0 0] 34)).drew (W2.alloc (.cells #[.int .i64 0, .int .i64 0, .int .i64 0, .slice none 0 0] 34)).drew.heap.size (.slice (if c = 2 then some ⟨b1, off, none⟩ else some ⟨b1, off + 2, none⟩) (l.length - 1 - 2) (c - 2)) D := ((show RI W2 W2.heap.size _ _ from R2).step hbz (Nat.le_refl _)).more hbz.size
    have Y3 : BK (W2.alloc (.cells #[.int .i64 0, .int .i64 0, .int .i64 0, .slice none 0 0] 34)).drew w1.heap.size 62 #[.int .i64 p0, .int .i64 p1] := y2.step hbz.drew
    have B3 : BK (W2.alloc (.cells #[.int .i64 0, .int .i64 0, .int .i64 0, .slice none 0 0] 34)).drew W2.heap.size 34 #[.int .i64 0, .int .i64 0, .int .i64 0, .slice none 0 0] := bz
    have h0 := Y3.cell 0
    have h1 := Y3.cell 1
    simp at h0 h1
    have a0' : W2.drew.cell? ⟨w1.heap.size, 0, none⟩ = some (.int .i64 p0) := a0
    have a1' : W2.drew.cell? ⟨w1.heap.size, 1, none⟩ = some (.int .i64 p1) := a1
    have HBZ := Lib.hid hbz
    have HY2 := Lib.hid Y2
    have HY3 := Lib.hid Y3
    have HB3 := Lib.hid B3
    clear hbz Y2 Y3 B3 bz y2
    go_region_held3 (fun w' => w'.cell? ⟨w1.heap.size, 0, none⟩ = some (.int .i64 p0) ∧ w'.cell? ⟨w1.heap.size, 1, none⟩ = some (.int .i64 p1)) (with_reducible first | exact ⟨a0', a1'⟩ | exact ⟨h0, h1⟩ | (refine ⟨?_, ?_⟩ <;> assumption) | go_keep)
      (first
        | (go_at_call 76; (with_reducible refine (clone_any _ _ _ R2 hm3).mono ?_); rintro e w3 ⟨u, rfl, ho, hb3⟩; have y3 := HY2.out.step hb3; have d0 := y3.cell 0; have d1 := y3.cell 1; simp at d0 d1; have n30 := World.new_ne w3 _ d0; have n31 := World.new_ne w3 _ d1; obtain ⟨A3, c3, rfl, _, _⟩ := ho.ri)
        | (go_at_call 76; (with_reducible refine (clone_any _ _ _ R3 hm3).mono ?_); rintro e w3 ⟨u, rfl, ho, hb3⟩; have y3 := HY3.out.step hb3; have d0 := y3.cell 0; have d1 := y3.cell 1; have z3 := HB3.out.step hb3; have q0 := z3.cell 0; have q1 := z3.cell 1; have q2 := z3.cell 2; have q3 := z3.cell 3; have r0 := z3.free 0; have r1 := z3.free 1; have r2 := z3.free 2; have r3 := z3.free 3; simp at d0 d1 q0 q1 q2 q3; obtain ⟨A3, c3, rfl, _, _⟩ := ho.ri))
    · go_wp2_with fail
      go_meet
      have q1 := hb3.size
      have hba : Below w3.heap.size w3 (w3.alloc (.cells #[.int .i64 (p0 / 16), .int .i64 (p0 % 16), .int .i64 (p1 / 32), .slice A3 D.length c3] 34)) := (Below.refl _ _).alloc (Nat.le_refl _) _
      have hb3' : Below W2.heap.size W2 w3 := (Below.refl _ _).drew.trans hb3
      exact ⟨_, _, rfl, BK.made w3 _ _, (ho.step hba).wide hq1 hba.size, hb3'.trans (hba.mono q1), q1⟩
    · go_wp2_with fail
      go_meet
      have q1 := hb3.size
      have z3 := HB3.out.step hb3
      have hb3' : Below W2.heap.size W2 w3 := HBZ.out.drew.trans (hb3.mono HBZ.out.size)
      have q2 : (W2.alloc (.cells #[.int .i64 0, .int .i64 0, .int .i64 0, .slice none 0 0] 34)).drew.heap.size = W2.heap.size + 1 := World.size_alloc _ _
      rw [q2] at ho q1
      have hwr := (((((Wr.refl W2.heap.size (W2.heap.size + 1) w3).setCell (p := ⟨W2.heap.size, 0, none⟩) (by simp) (by simp) (.int .i64 (p0 / 16))).setCell (p := ⟨W2.heap.size, 1, none⟩) (by simp) (by simp) (.int .i64 (p0 % 16))).setCell (p := ⟨W2.heap.size, 2, none⟩) (by simp) (by simp) (.int .i64 (p1 / 32))).setCell (p := ⟨W2.heap.size, 3, none⟩) (by simp) (by simp) (.slice A3 D.length c3))
      exact ⟨_, _, rfl, ((((z3.put 0 _).put 1 _).put 2 _).put 3 _), (ho.far hwr (.inr (Nat.le_refl _))).wide (by omega) hwr.size, hb3'.trans (hwr.below (Nat.le_refl _) (by omega)), Nat.le_refl _⟩
  case rest =>
    obtain ⟨g, s3, rfl, bg, og, hbx, hgl⟩ := hcut
    obtain ⟨A3, c3, rfl, _, _⟩ := og.ri
    have T := t2.trans (hbx.mono t2.size)
    have HG : Hid (BK wc.drew g 34 #[.int .i64 (p0 / 16), .int .i64 (p0 % 16), .int .i64 (p1 / 32), .slice A3 D.length c3]) := bg
    have HY : Hid (BK wc.drew w1.heap.size 62 #[.int .i64 p0, .int .i64 p1]) := (show BK wc _ _ _ from y2.step hbx)
    have HX : Hid (BK wc.drew w.heap.size 34 #[.int .i64 0, .int .i64 0, .int .i64 0, .slice none 0 0]) := (show BK wc _ _ _ from x2.step hbx)
    have HT : Hid (Below w.heap.size w wc.drew) := T.drew
    have hnD : (⟨p0 / 16, p0 % 16, p1 / 32, D⟩ : Fr).d.length ≤ 1048576 := by show D.length ≤ _; omega
    have RFD : RF wc.drew wc.drew.heap.size (.agg #[.int .i64 (p0 / 16), .int .i64 (p0 % 16), .int .i64 (p1 / 32), .slice A3 D.length c3]) ⟨p0 / 16, p0 % 16, p1 / 32, D⟩ := ⟨_, rfl, og.ri.drewN 1⟩
    have HRI : Hid (∀ w5, Below wc.drew.heap.size wc.drew w5 → RI w5 w5.heap.size (.slice A3 D.length c3) D) := by
      show ∀ w5, _
      exact fun w5 hb => ((show RI wc.drew wc.drew.heap.size _ _ from og.ri).step hb (Nat.le_refl _)).more hb.size
    have OGD : Hid (OI 3 wc.drew (w.heap.size + 1) wc.drew.heap.size (.slice A3 D.length c3) D) := (show OI _ wc _ _ _ _ from og)
    have hwc : w.heap.size < wc.heap.size := HX.out.1
    have e4 : (D.length : Int) = (l.length : Int) - 3 := by have := HDL.out; omega
    have E4 := Lib.hid e4
    have u0 := bg.cell 0
    have u1 := bg.cell 1
    have u2 := bg.cell 2
    have u3 := bg.cell 3
    have ya0 : wc.cell? ⟨w1.heap.size, 0, none⟩ = some (.int .i64 p0) := (y2.step hbx).cell 0
    have ya1 : wc.cell? ⟨w1.heap.size, 1, none⟩ = some (.int .i64 p1) := (y2.step hbx).cell 1
    simp at u0 u1 u2 u3
    clear e4 bg og T x2 y2
    cases hF : isFr ⟨p0 / 16, p0 % 16, p1 / 32, D⟩
    · have HXB2 : Hid (x = frZero ∧ b = false) := by
        have h5 := HXB.out
        rw [frameOf_no (fun hk => by have h6 := hk.2.2.2.2; rw [HM.out, hF] at h6; cases h6)] at h5
        injection h5 with h5 h6
        exact ⟨h5.symm, h6.symm⟩
      go_wp2_with fail
      go_region_with (first | (go_at_call 34; (with_reducible refine (implIsFrame_any _ ⟨p0 / 16, p0 % 16, p1 / 32, D⟩ _ RFD hnD).mono ?_); rintro e w5 ⟨rfl, hb5⟩; have g5 := HG.out.step hb5; have y5 := HY.out.step hb5; have x5 := HX.out.step hb5; have ga := g5.cell 0; have gb := g5.cell 1; have gc := g5.cell 2; have gd := g5.cell 3; have ya := y5.cell 0; have yb := y5.cell 1; have xa := x5.cell 0; have xb := x5.cell 1; have xc := x5.cell 2; have xd := x5.cell 3; have fa := x5.free 0; have fb := x5.free 1; have fc := x5.free 2; have fd := x5.free 3; simp at ga gb gc gd ya yb xa xb xc xd))
      all_goals
        have hx5 := Lib.hid x5
        have T5 : Hid (Below w.heap.size w w5) := HT.out.trans (hb5.mono HT.out.size)
        obtain ⟨rfl, rfl⟩ := HXB2.out
        clear g5 y5 x5 hb5
        go_wp2_with fail
        refine bodyPost_ret (v := .tuple #[frV frZero (.slice none 0 0), .bool false]) (by simp [results, Try.results44, go_sem, frV, frZero, xa, xb, xc, xd]) rfl ⟨_, rfl, of_zero _ _ _ _, ?_⟩
        exact (((T5.out.setCell (p := ⟨w.heap.size, 0, none⟩) (by simp) _).setCell (p := ⟨w.heap.size, 1, none⟩) (by simp) _).setCell (p := ⟨w.heap.size, 2, none⟩) (by simp) _).setCell (p := ⟨w.heap.size, 3, none⟩) (by simp) _
    · have hp0 : ((p0 / 16 * 16 + p0 % 16) == p0) = true := beq_iff_eq.2 (by omega)
      have T6 : Hid (∀ w5 w6, Below wc.drew.heap.size wc.drew w5 → Below w5.heap.size w5 w6 → Below w.heap.size w w6 ∧ OI 3 w6 (w.heap.size + 1) w6.heap.size (.slice A3 D.length c3) D) := by
        show ∀ w5 w6, _
        intro w5 w6 h5 h6
        exact ⟨(HT.out.trans (h5.mono HT.out.size)).trans (h6.mono (by have := HT.out.size; have := h5.size; omega)), ((OGD.out.step h5).step h6).wide (Nat.le_refl _) (by have := h5.size; have := h6.size; omega)⟩
      by_cases hq : p1 % 32 = (l.length : Int) - 3
      · have heq : ∀ wx : World, (Op.equalIn 10000 62 (.agg #[.int .i64 (p0 / 16 * 16 + p0 % 16), .int .i64 (p1 / 32 * 32 + (D.length : Int))]) (.agg #[.int .i64 p0, .int .i64 p1])).run Try.prog wx = .ok true wx := fun wx => by
          have h2 : ((p1 / 32 * 32 + (D.length : Int)) == p1) = true := beq_iff_eq.2 (by have := E4.out; omega)
          rw [eq2, hp0, h2]; rfl
        have HXB2 : Hid (x = ⟨p0 / 16, p0 % 16, p1 / 32, D⟩ ∧ b = true) := by
          have h5 := HXB.out
          rw [frameOf_yes (OKF.out ⟨hq, hF⟩), HM.out] at h5
          injection h5 with h5 h6
          exact ⟨h5.symm, h6.symm⟩
        clear hp0 hq
        go_wp2_with fail
        go_region_with (first | (go_at_call 34; (with_reducible refine (implIsFrame_any _ ⟨p0 / 16, p0 % 16, p1 / 32, D⟩ _ RFD hnD).mono ?_); rintro e w5 ⟨rfl, hb5⟩; have RF5 : RF w5 w5.heap.size (.agg #[.int .i64 (p0 / 16), .int .i64 (p0 % 16), .int .i64 (p1 / 32), .slice A3 D.length c3]) ⟨p0 / 16, p0 % 16, p1 / 32, D⟩ := ⟨_, rfl, HRI.out _ hb5⟩; have g5 := HG.out.step hb5; have y5 := HY.out.step hb5; have x5 := HX.out.step hb5; have ga := g5.cell 0; have gb := g5.cell 1; have gc := g5.cell 2; have gd := g5.cell 3; have ya := y5.cell 0; have yb := y5.cell 1; have xa := x5.cell 0; have xb := x5.cell 1; have xc := x5.cell 2; have xd := x5.cell 3; have fa := x5.free 0; have fb := x5.free 1; have fc := x5.free 2; have fd := x5.free 3; simp at ga gb gc gd ya yb xa xb xc xd) | (go_at_call 77; (with_reducible refine (headOf_any _ ⟨p0 / 16, p0 % 16, p1 / 32, D⟩ _ RF5 hF).mono ?_); rintro e w6 ⟨rfl, hb6⟩; have g6 := g5.step hb6; have y6 := y5.step hb6; have x6 := x5.step hb6; have ka := g6.cell 0; have kb := g6.cell 1; have kc := g6.cell 2; have kd := g6.cell 3; have na := y6.cell 0; have nb := y6.cell 1; have oa := x6.cell 0; have ob := x6.cell 1; have oc := x6.cell 2; have od := x6.cell 3; have pa := x6.free 0; have pb := x6.free 1; have pd := x6.free 2; have pe := x6.free 3; simp at ka kb kc kd na nb oa ob oc od))
        all_goals
          have hx6 := Lib.hid x6
          obtain ⟨t6, o6⟩ := T6.out _ _ hb5 hb6
          have o6' := Lib.hid o6
          have t6' := Lib.hid t6
          obtain ⟨rfl, rfl⟩ := HXB2.out
          clear g5 y5 x5 g6 y6 x6 hb5 hb6 t6 o6 RF5
          go_wp2_with fail
          refine bodyPost_ret (v := .tuple #[frV ⟨p0 / 16, p0 % 16, p1 / 32, D⟩ (.slice A3 D.length c3), .bool true]) (by simp [results, Try.results44, go_sem, frV, oa, ob, oc, od]) rfl ⟨_, rfl, ⟨_, rfl, ?_⟩, ?_⟩
          · have hwr := (((((Wr.refl w.heap.size (w.heap.size + 1) w6).setCell (p := ⟨w.heap.size, 0, none⟩) (by simp) (by simp) (.int .i64 (p0 / 16))).setCell (p := ⟨w.heap.size, 1, none⟩) (by simp) (by simp) (.int .i64 (p0 % 16))).setCell (p := ⟨w.heap.size, 2, none⟩) (by simp) (by simp) (.int .i64 (p1 / 32))).setCell (p := ⟨w.heap.size, 3, none⟩) (by simp) (by simp) (.slice A3 D.length c3))
            exact (o6'.out.far hwr (.inr (Nat.le_refl _))).wide (by omega) hwr.size
          · exact (((t6'.out.setCell (p := ⟨w.heap.size, 0, none⟩) (by simp) _).setCell (p := ⟨w.heap.size, 1, none⟩) (by simp) _).setCell (p := ⟨w.heap.size, 2, none⟩) (by simp) _).setCell (p := ⟨w.heap.size, 3, none⟩) (by simp) _
      · have heq : ∀ wx : World, (Op.equalIn 10000 62 (.agg #[.int .i64 (p0 / 16 * 16 + p0 % 16), .int .i64 (p1 / 32 * 32 + (D.length : Int))]) (.agg #[.int .i64 p0, .int .i64 p1])).run Try.prog wx = .ok false wx := fun wx => by
          have h2 : ((p1 / 32 * 32 + (D.length : Int)) == p1) = false := beq_eq_false_iff_ne.2 (by have := E4.out; omega)
          rw [eq2, hp0, h2]; rfl
        have HXB2 : Hid (x = frZero ∧ b = false) := by
          have h5 := HXB.out
          rw [frameOf_no (fun hk => hq (OKN.out hk))] at h5
          injection h5 with h5 h6
          exact ⟨h5.symm, h6.symm⟩
        clear hp0 hq
        go_wp2_with fail
        go_region_with (first | (go_at_call 34; (with_reducible refine (implIsFrame_any _ ⟨p0 / 16, p0 % 16, p1 / 32, D⟩ _ RFD hnD).mono ?_); rintro e w5 ⟨rfl, hb5⟩; have RF5 : RF w5 w5.heap.size (.agg #[.int .i64 (p0 / 16), .int .i64 (p0 % 16), .int .i64 (p1 / 32), .slice A3 D.length c3]) ⟨p0 / 16, p0 % 16, p1 / 32, D⟩ := ⟨_, rfl, HRI.out _ hb5⟩; have g5 := HG.out.step hb5; have y5 := HY.out.step hb5; have x5 := HX.out.step hb5; have ga := g5.cell 0; have gb := g5.cell 1; have gc := g5.cell 2; have gd := g5.cell 3; have ya := y5.cell 0; have yb := y5.cell 1; have xa := x5.cell 0; have xb := x5.cell 1; have xc := x5.cell 2; have xd := x5.cell 3; have fa := x5.free 0; have fb := x5.free 1; have fc := x5.free 2; have fd := x5.free 3; simp at ga gb gc gd ya yb xa xb xc xd) | (go_at_call 77; (with_reducible refine (headOf_any _ ⟨p0 / 16, p0 % 16, p1 / 32, D⟩ _ RF5 hF).mono ?_); rintro e w6 ⟨rfl, hb6⟩; have g6 := g5.step hb6; have y6 := y5.step hb6; have x6 := x5.step hb6; have ka := g6.cell 0; have kb := g6.cell 1; have kc := g6.cell 2; have kd := g6.cell 3; have na := y6.cell 0; have nb := y6.cell 1; have oa := x6.cell 0; have ob := x6.cell 1; have oc := x6.cell 2; have od := x6.cell 3; have pa := x6.free 0; have pb := x6.free 1; have pd := x6.free 2; have pe := x6.free 3; simp at ka kb kc kd na nb oa ob oc od))
        all_goals
          have hx6 := Lib.hid x6
          obtain ⟨t6, o6⟩ := T6.out _ _ hb5 hb6
          have o6' := Lib.hid o6
          have t6' := Lib.hid t6
          obtain ⟨rfl, rfl⟩ := HXB2.out
          clear g5 y5 x5 g6 y6 x6 hb5 hb6 t6 o6 RF5
          go_wp2_with fail
          refine bodyPost_ret (v := .tuple #[frV frZero (.slice none 0 0), .bool false]) (by simp [results, Try.results44, go_sem, frV, frZero, oa, ob, oc, od]) rfl ⟨_, rfl, of_zero _ _ _ _, ?_⟩
          exact (((t6'.out.setCell (p := ⟨w.heap.size, 0, none⟩) (by simp) _).setCell (p := ⟨w.heap.size, 1, none⟩) (by simp) _).setCell (p := ⟨w.heap.size, 2, none⟩) (by simp) _).setCell (p := ⟨w.heap.size, 3, none⟩) (by simp) _
theorem implFrameOf_any (v : Value) (l : List Int) (w : World) (h : RI w w.heap.size v l) (hn : l.length ≤ 1048576) :
    Calls Try.prog 44 #[v] w (RetFB 3 w (frameOf l).1 (frameOf l).2) := by
  by_cases hy : areB l = true ∧ 3 ≤ l.length ∧ hasC l = true
  · exact implFrameOf_at v l w h hy.1 hy.2.1 hy.2.2 _ _ rfl
  · rw [frameOf_no (fun hk => hy ⟨hk.1, hk.2.1, hk.2.2.1⟩)]
    exact implFrameOf_no1 v l w h hn hy
end Go.Proofs.Ytaokdocflbabjaa
