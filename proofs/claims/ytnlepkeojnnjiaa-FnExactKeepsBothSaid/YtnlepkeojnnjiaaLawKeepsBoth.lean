/-
  KeepsBoth answers as its model at every argument, writes into no argument, and its answer owns its memory. No condition.
-/
import Derived.Test.YtnlepkeojnnjiaaShD
import Derived.Test.YtnlepkeojnnjiaaSBucket
import Derived.Test.YtnlepkeojnnjiaaFrame
import Derived.Deep.RegionWith
import Derived.Deep.RegionHeld3
import Derived.Deep.DeepCutAuto
import Derived.Lib.SmallJoins
import Derived.Deep.Slices
import Derived.Deep.Fields
import Derived.ChangeSame
namespace Go.Proofs.Ytnlepkeojnnjiaa.lawKeepsBoth
open Go.RowKit Go.ChangeShapes Go.WideShapes Go.ChangeAt
set_option maxRecDepth 100000
set_option linter.unusedVariables false

set_option maxHeartbeats 4000000 in
theorem walk (z0 : Bu) (z1 : Bu) (s2 : Value) (d2 : List Int) (w : World) (h2 : RI w w.heap.size s2 d2) (hm2 : d2.length ≤ maxLen) :
    Calls Try.prog 8 #[BuV z0, BuV z1, s2] w (RetV w (.bool true)) := by
  obtain ⟨y0r, y0d⟩ := z0
  simp only [BuV]
  obtain ⟨y1r, y1d⟩ := z1
  simp only
  have hr2 := h2
  obtain ⟨a2, c2, rfl, _, _⟩ := h2
  have t0 : Below w.heap.size w w := Below.refl _ _
  rcases Nat.lt_or_ge 1048576 d2.length with hn2 | hn2
  · have hn' : (1048576 : Int) < d2.length := by omega
    go_enter Try.func8, Try.ntmps8
    have hb1 : Below w.heap.size w (w.alloc (.cells #[.int .i64 y0r, .int .i64 y0d] 23)) := (Below.refl _ _).alloc (Nat.le_refl _) _
    have bb__0 := BK.made w 23 #[.int .i64 y0r, .int .i64 y0d]
    have lb1 := bb__0.1
    have s1_ := hb1.size
    have t1 := t0.trans (hb1.mono (by omega))
    have f1 := hr2.step hb1 (by omega)
    clear hr2
    have hb2 : Below (w.alloc (.cells #[.int .i64 y0r, .int .i64 y0d] 23)).heap.size (w.alloc (.cells #[.int .i64 y0r, .int .i64 y0d] 23)) ((w.alloc (.cells #[.int .i64 y0r, .int .i64 y0d] 23)).alloc (.cells #[.int .i64 y1r, .int .i64 y1d] 23)) := (Below.refl _ _).alloc (Nat.le_refl _) _
    have bb__1 := BK.made (w.alloc (.cells #[.int .i64 y0r, .int .i64 y0d] 23)) 23 #[.int .i64 y1r, .int .i64 y1d]
    have lb2 := bb__1.1
    have s2_ := hb2.size
    have t2 := t1.trans (hb2.mono (by omega))
    have f2 := f1.step hb2 (by omega)
    clear f1
    have f3 := bb__0.step hb2
    clear bb__0
    go_wp2_with fail
    go_ret
    exact ⟨rfl, t2⟩
  have hq2 : (d2.length : Int) ≤ 1048576 := by omega
  obtain ⟨X, b, hX⟩ : ∃ X b, (X, b) = bothSays ⟨y0r, y0d⟩ ⟨y1r, y1d⟩ d2 := ⟨_, _, rfl⟩
  have HI : Hid (∀ v2 w, RI w w.heap.size v2 d2 → Calls Try.prog 31 #[.agg #[.int .i64 y0r, .int .i64 y0d], .agg #[.int .i64 y1r, .int .i64 y1d], v2] w (RetV w (.tuple #[.bool X, .bool b]))) := by
    show ∀ v2 w, RI w w.heap.size v2 d2 → Calls Try.prog 31 #[.agg #[.int .i64 y0r, .int .i64 y0d], .agg #[.int .i64 y1r, .int .i64 y1d], v2] w (RetV w (.tuple #[.bool X, .bool b]))
    intro v2 w q2
    have h5 := implKeepsBoth_any v2 ⟨y0r, y0d⟩ ⟨y1r, y1d⟩ d2 w q2 hn2
    rw [← hX] at h5
    exact h5
  have HS : Hid (∀ v2 w, RI w w.heap.size v2 d2 → Calls Try.prog 30 #[.agg #[.int .i64 y0r, .int .i64 y0d], .agg #[.int .i64 y1r, .int .i64 y1d], v2] w (RetV w (.tuple #[.bool X, .bool b]))) := by
    show ∀ v2 w, RI w w.heap.size v2 d2 → Calls Try.prog 30 #[.agg #[.int .i64 y0r, .int .i64 y0d], .agg #[.int .i64 y1r, .int .i64 y1d], v2] w (RetV w (.tuple #[.bool X, .bool b]))
    intro v2 w q2
    have h5 := specKeepsBoth_any v2 ⟨y0r, y0d⟩ ⟨y1r, y1d⟩ d2 w q2 hn2
    rw [← hX] at h5
    exact h5
  have HA0 : Hid (∀ w, Calls Try.prog 15 #[.agg #[.int .i64 y0r, .int .i64 y0d]] w (RetV w (.agg #[.int .i64 y0r, .int .i64 y0d]))) := by
    show ∀ w, Calls Try.prog 15 #[.agg #[.int .i64 y0r, .int .i64 y0d]] w (RetV w (.agg #[.int .i64 y0r, .int .i64 y0d]))
    intro w
    exact toBucket_any ⟨y0r, y0d⟩ w
  have HA1 : Hid (∀ w, Calls Try.prog 15 #[.agg #[.int .i64 y1r, .int .i64 y1d]] w (RetV w (.agg #[.int .i64 y1r, .int .i64 y1d]))) := by
    show ∀ w, Calls Try.prog 15 #[.agg #[.int .i64 y1r, .int .i64 y1d]] w (RetV w (.agg #[.int .i64 y1r, .int .i64 y1d]))
    intro w
    exact toBucket_any ⟨y1r, y1d⟩ w
  clear hX
  go_enter Try.func8, Try.ntmps8
  have hb1 : Below w.heap.size w (w.alloc (.cells #[.int .i64 y0r, .int .i64 y0d] 23)) := (Below.refl _ _).alloc (Nat.le_refl _) _
  have bb__0 := BK.made w 23 #[.int .i64 y0r, .int .i64 y0d]
  have lb1 := bb__0.1
  have s1_ := hb1.size
  have t1 := t0.trans (hb1.mono (by omega))
  have f1 := hr2.step hb1 (by omega)
  clear hr2
  have hb2 : Below (w.alloc (.cells #[.int .i64 y0r, .int .i64 y0d] 23)).heap.size (w.alloc (.cells #[.int .i64 y0r, .int .i64 y0d] 23)) ((w.alloc (.cells #[.int .i64 y0r, .int .i64 y0d] 23)).alloc (.cells #[.int .i64 y1r, .int .i64 y1d] 23)) := (Below.refl _ _).alloc (Nat.le_refl _) _
  have bb__1 := BK.made (w.alloc (.cells #[.int .i64 y0r, .int .i64 y0d] 23)) 23 #[.int .i64 y1r, .int .i64 y1d]
  have lb2 := bb__1.1
  have s2_ := hb2.size
  have t2 := t1.trans (hb2.mono (by omega))
  have f2 := f1.step hb2 (by omega)
  clear f1
  have f3 := bb__0.step hb2
  clear bb__0
  have HW := Lib.hid t2
  obtain ⟨w0, hw0⟩ : ∃ w0, w0 = ((w.alloc (.cells #[.int .i64 y0r, .int .i64 y0d] 23)).alloc (.cells #[.int .i64 y1r, .int .i64 y1d] 23)) := ⟨_, rfl⟩
  have hs1 : (w.alloc (.cells #[.int .i64 y0r, .int .i64 y0d] 23)).heap.size = w.heap.size + 1 := by simp
  rw [hs1] at bb__1 lb2
  rw [← hw0] at HW f2 f3 bb__1 lb2
  have HCL : Hid (∀ w', Below w0.heap.size w0 w' → w'.cell? ⟨w.heap.size, 0, none⟩ = some (.int .i64 y0r) ∧ w'.cell? ⟨w.heap.size, 1, none⟩ = some (.int .i64 y0d) ∧ w'.cell? ⟨w.heap.size + 1, 0, none⟩ = some (.int .i64 y1r) ∧ w'.cell? ⟨w.heap.size + 1, 1, none⟩ = some (.int .i64 y1d)) := by
    show ∀ w', _
    intro w' hb
    have p1 := f3.step hb
    have q1 := bb__1.step hb
    have c0 := p1.cell 0
    have c1 := p1.cell 1
    have c2 := q1.cell 0
    have c3 := q1.cell 1
    simp at c0 c1 c2 c3
    exact ⟨c0, c1, c2, c3⟩
  have HAX : Hid (∀ W, Below w0.heap.size w0 W → Calls Try.prog 15 #[.agg #[.int .i64 y0r, .int .i64 y0d]] W fun e W' => e = .returned (.agg #[.int .i64 y0r, .int .i64 y0d]) ∧ Below w0.heap.size w0 W' ∧ Below W.heap.size W W') := fun W hb => (HA0.out W).mono fun _ _ ⟨he, hb'⟩ => ⟨he, hb.trans (hb'.mono hb.size), hb'⟩
  have HAY : Hid (∀ W, Below w0.heap.size w0 W → Calls Try.prog 15 #[.agg #[.int .i64 y1r, .int .i64 y1d]] W fun e W' => e = .returned (.agg #[.int .i64 y1r, .int .i64 y1d]) ∧ Below w0.heap.size w0 W' ∧ Below W.heap.size W W') := fun W hb => (HA1.out W).mono fun _ _ ⟨he, hb'⟩ => ⟨he, hb.trans (hb'.mono hb.size), hb'⟩
  have HAI : Hid (∀ W, Below w0.heap.size w0 W → Calls Try.prog 18 #[.slice a2 d2.length c2] W fun e W' => ∃ u, e = .returned u ∧ OI 3 W' W.heap.size W'.heap.size u d2 ∧ Below w0.heap.size w0 W' ∧ Below W.heap.size W W') := fun W hb => (toIntS_any _ d2 W ((f2.below (hb.mono (by omega))).more (by have := hb.size; omega)) hn2).mono fun _ _ ⟨u, he, ho, hb'⟩ => ⟨u, he, ho, hb.trans (hb'.mono hb.size), hb'⟩
  have HAS : Hid (∀ W v, RI W W.heap.size v d2 → Below w0.heap.size w0 W → Calls Try.prog 30 #[.agg #[.int .i64 y0r, .int .i64 y0d], .agg #[.int .i64 y1r, .int .i64 y1d], v] W fun e W' => e = .returned (.tuple #[.bool X, .bool b]) ∧ Below w0.heap.size w0 W' ∧ Below W.heap.size W W') := fun W v hv hb => (HS.out v W hv).mono fun _ _ ⟨he, hb'⟩ => ⟨he, hb.trans (hb'.mono hb.size), hb'⟩
  have HAM : Hid (∀ W v, RI W W.heap.size v d2 → Below w0.heap.size w0 W → Calls Try.prog 31 #[.agg #[.int .i64 y0r, .int .i64 y0d], .agg #[.int .i64 y1r, .int .i64 y1d], v] W fun e W' => e = .returned (.tuple #[.bool X, .bool b]) ∧ Below w0.heap.size w0 W' ∧ Below W.heap.size W W') := fun W v hv hb => (HI.out v W hv).mono fun _ _ ⟨he, hb'⟩ => ⟨he, hb.trans (hb'.mono hb.size), hb'⟩
  have HSZ : Hid (w.heap.size + 1 < w0.heap.size) := lb2
  clear HA0 HA1 HS HI f3 bb__1 lb2 lb1 hb1 hb2 t1 t2 s1_ s2_ hs1
  obtain ⟨c0, c1, c3, c4⟩ := HCL.out w0 (Below.refl _ _)
  have hd : Below w0.heap.size w0 w0.drew := (Below.refl _ _).drew
  have HW0 := Lib.hid hw0
  clear hw0
  go_upto_region 3 with fail
  rw [← HW0.out]
  go_region_held3 (fun w' => w'.cell? ⟨w.heap.size, 0, none⟩ = some (.int .i64 y0r) ∧ w'.cell? ⟨w.heap.size, 1, none⟩ = some (.int .i64 y0d) ∧ w'.cell? ⟨w.heap.size + 1, 0, none⟩ = some (.int .i64 y1r) ∧ w'.cell? ⟨w.heap.size + 1, 1, none⟩ = some (.int .i64 y1d)) (with_reducible first | exact ⟨c0, c1, c3, c4⟩ | (refine ⟨?_, ?_, ?_, ?_⟩ <;> assumption) | go_keep) (first
    | (go_at_call 15; (with_reducible refine (HAX.out _ (by assumption)).mono ?_); rintro e w11 ⟨rfl, hb11, hg11⟩; obtain ⟨da0, da1, da2, da3⟩ := HCL.out _ hb11)
    | (go_at_call 15; (with_reducible refine (HAY.out _ (by assumption)).mono ?_); rintro e w13 ⟨rfl, hb13, hg13⟩; obtain ⟨ea0, ea1, ea2, ea3⟩ := HCL.out _ hb13)
    | (go_at_call 18; (with_reducible refine (HAI.out _ (by assumption)).mono ?_); rintro e w15 ⟨u15, rfl, HO15, hb15, hg15⟩; obtain ⟨k0, k1, k2, k3⟩ := HCL.out _ hb15; obtain ⟨A15, c15, hv15, _, _⟩ := HO15.ri; subst hv15; have HRI15 := HO15.ri)
    | (go_at_call 30; (with_reducible refine (HAS.out _ _ HRI15 (by assumption)).mono ?_); rintro e w17 ⟨rfl, hb17, hg17⟩; obtain ⟨ma0, ma1, ma2, ma3⟩ := HCL.out _ hb17))
  have HB17 := Lib.hid hb17
  clear hb17 hg17 hb15 hg15 hb13 hg13 hb11 hg11 hd da0 da1 da2 da3 ea0 ea1 ea2 ea3 k0 k1 k2 k3
  have HAI2 := Lib.hid (HAI.out w17 HB17.out)
  go_wp2_with fail
  refine HAI2.out.mono ?_; rintro e w16 ⟨u16, rfl, HO16, hb16, hg16⟩
  obtain ⟨na0, na1, na2, na3⟩ := HCL.out _ hb16
  obtain ⟨A16, c16, hv16, _, _⟩ := HO16.ri
  subst hv16
  have HOX := Lib.hid HO16
  have HRI16 := HO16.ri
  have hd : Below w0.heap.size w0 w16.drew := hb16.drew
  have hdd : Below w16.heap.size w16 w16.drew := (Below.refl _ _).drew
  have HAZ : Hid (∀ W, Below w0.heap.size w0 W → Below w16.heap.size w16 W → Calls Try.prog 15 #[.agg #[.int .i64 y0r, .int .i64 y0d]] W fun e W' => e = .returned (.agg #[.int .i64 y0r, .int .i64 y0d]) ∧ Below w0.heap.size w0 W' ∧ Below w16.heap.size w16 W') := fun W h1 h2 => (HAX.out W h1).mono fun _ _ ⟨he, hb, hg⟩ => ⟨he, hb, h2.trans (hg.mono h2.size)⟩
  have HAW : Hid (∀ W, Below w0.heap.size w0 W → Below w16.heap.size w16 W → Calls Try.prog 15 #[.agg #[.int .i64 y1r, .int .i64 y1d]] W fun e W' => e = .returned (.agg #[.int .i64 y1r, .int .i64 y1d]) ∧ Below w0.heap.size w0 W' ∧ Below w16.heap.size w16 W') := fun W h1 h2 => (HAY.out W h1).mono fun _ _ ⟨he, hb, hg⟩ => ⟨he, hb, h2.trans (hg.mono h2.size)⟩
  have HAN : Hid (∀ W, Below w0.heap.size w0 W → Below w16.heap.size w16 W → Calls Try.prog 31 #[.agg #[.int .i64 y0r, .int .i64 y0d], .agg #[.int .i64 y1r, .int .i64 y1d], .slice A16 d2.length c16] W fun e W' => e = .returned (.tuple #[.bool X, .bool b]) ∧ Below w0.heap.size w0 W' ∧ Below w16.heap.size w16 W') := fun W h1 h2 => (HAM.out W _ ((HRI16.below h2).more h2.size) h1).mono fun _ _ ⟨he, hb, hg⟩ => ⟨he, hb, h2.trans (hg.mono h2.size)⟩
  clear HRI16 HO16 ma0 ma1 ma2 ma3 c0 c1 c3 c4 hb16 hg16 HAS HAM HO15 HRI15
  go_upto_region 5 with fail
  go_region_held3 (fun w' => w'.cell? ⟨w.heap.size, 0, none⟩ = some (.int .i64 y0r) ∧ w'.cell? ⟨w.heap.size, 1, none⟩ = some (.int .i64 y0d) ∧ w'.cell? ⟨w.heap.size + 1, 0, none⟩ = some (.int .i64 y1r) ∧ w'.cell? ⟨w.heap.size + 1, 1, none⟩ = some (.int .i64 y1d)) (with_reducible first | exact ⟨na0, na1, na2, na3⟩ | (refine ⟨?_, ?_, ?_, ?_⟩ <;> assumption) | go_keep) (first
    | (go_at_call 15; (with_reducible refine (HAZ.out _ (by assumption) (by assumption)).mono ?_); rintro e w12 ⟨rfl, hb12, hg12⟩; obtain ⟨db0, db1, db2, db3⟩ := HCL.out _ hb12)
    | (go_at_call 15; (with_reducible refine (HAW.out _ (by assumption) (by assumption)).mono ?_); rintro e w14 ⟨rfl, hb14, hg14⟩; obtain ⟨eb0, eb1, eb2, eb3⟩ := HCL.out _ hb14)
    | (go_at_call 31; (with_reducible refine (HAN.out _ (by assumption) (by assumption)).mono ?_); rintro e w18 ⟨rfl, hb18, hg18⟩; obtain ⟨mb0, mb1, mb2, mb3⟩ := HCL.out _ hb18))
  have HB18 := Lib.hid hb18
  have HG18 := Lib.hid hg18
  have HAI3 := Lib.hid (HAI.out w18 HB18.out)
  have HOX18 := Lib.hid (HOX.out.step hg18)
  clear hb18 hg18 hb14 hg14 hb12 hg12 hd hdd db0 db1 db2 db3 eb0 eb1 eb2 eb3 mb0 mb1 mb2 mb3 na0 na1 na2 na3 HAZ HAW HAN
  go_wp2_with fail
  refine HAI3.out.mono ?_; rintro e w19 ⟨u19, rfl, HO19, hb19, hg19⟩
  have HB19 := Lib.hid hb19
  have HEQ := Lib.hid (eqIntS_same _ u19 d2 w19 ((HOX18.out.ri.below (hg19.mono (by have := HG18.out.size; omega))).more (by have := HG18.out.size; have := hg19.size; omega)) HO19.ri hn2)
  clear hb19 hg19 HO19
  go_wp2_with fail
  refine HEQ.out.mono ?_; rintro e w20 ⟨rfl, hb20⟩
  have HB20 := Lib.hid (HB19.out.trans (hb20.mono HB19.out.size))
  clear hb20
  go_wp2_with fail
  go_ret
  exact ⟨rfl, HW.out.trans (HB20.out.mono HW.out.size)⟩
set_option maxRecDepth 100000 in
theorem lifted (os : Os) (started : os.Started) (H : Type) (enc : TypeId × Value → H) :
    ReturnsInHanded {} Try.checked os 8 .any (Rows.fnExactKeepsBothSpec.pre6 enc Try.prog Try.f8 Rows.fnExactKeepsBothRow.domain false) (Rows.fnExactKeepsBothSpec.post enc Try.prog Try.f8 false true false false) := by
  refine returnsInHanded_of_change (C := Try.checked) own started (by kernel_rfl) Try.func8
    (ChangeSpec.witness6 (enc := enc) (C := Try.checked) false ⟨#[], #[.agg #[.int .i64 0, .int .i64 0], .agg #[.int .i64 0, .int .i64 0], .slice none 0 0], []⟩ 8 (by kernel_rfl) (by kernel_rfl) (by kernel_rfl) (by kernel_rfl)) ?_
  intro W base args ds gs before hval0 hW hcnd _
  have hval : ∀ (j : Nat) t v, Try.f8.params[j]? = some t → args[j]? = some v → Value.okWide Try.prog W .any base t v := hval0
  have hW' := hW
  obtain ⟨p, q, hA0, hV, rfl, hfz, hnd⟩ := hW
  have hA : DataW.TrodAll enc Try.prog W 0 (fun _ => true) true Try.f8.params.toList args.toList ds p := hA0
  rw [Try.params8] at hA hval
  obtain ⟨v0, vs0, d0, ds0, p0, q0, hargs, rfl, rfl, h0, r0⟩ := trodAll_cons hA
  obtain ⟨v1, vs1, d1, ds1, p1, q1, rfl, rfl, rfl, h1, r1⟩ := trodAll_cons r0
  obtain ⟨v2, vs2, d2, ds2, p2, q2, rfl, rfl, rfl, h2, r2⟩ := trodAll_cons r1
  obtain ⟨rfl, rfl, rfl⟩ := trodAll_nil r2
  obtain rfl : args = #[v0, v1, v2] := by cases args; simp_all
  obtain ⟨rfl, rfl⟩ := trodVars_none hV
  have k0 := h0
  have lt0 : ∀ x ∈ p0, x.block < W.heap.size := by obtain ⟨m, hm⟩ := k0; exact DataW.trod_lt m _ _ _ hm
  obtain ⟨e0_0, e0_1, y0_0, y0_1, m0, rfl, hd0, hp0, g0_0, g0_1⟩ := Go.Joins.open_agg2 Try.underlying23 (by kernel_rfl) (by kernel_rfl) (hval 0 23 v0 rfl rfl) h0
  obtain ⟨x0_0, hx0_0, _, w0_0⟩ := DataW.trod_int Try.underlying3 g0_0
  obtain rfl : e0_0 = .int .i64 x0_0 := by simpa using hx0_0
  obtain ⟨x0_1, hx0_1, _, w0_1⟩ := DataW.trod_int Try.underlying3 g0_1
  obtain rfl : e0_1 = .int .i64 x0_1 := by simpa using hx0_1
  have k1 := h1
  have lt1 : ∀ x ∈ p1, x.block < W.heap.size := by obtain ⟨m, hm⟩ := k1; exact DataW.trod_lt m _ _ _ hm
  obtain ⟨e1_0, e1_1, y1_0, y1_1, m1, rfl, hd1, hp1, g1_0, g1_1⟩ := Go.Joins.open_agg2 Try.underlying23 (by kernel_rfl) (by kernel_rfl) (hval 1 23 v1 rfl rfl) h1
  obtain ⟨x1_0, hx1_0, _, w1_0⟩ := DataW.trod_int Try.underlying3 g1_0
  obtain rfl : e1_0 = .int .i64 x1_0 := by simpa using hx1_0
  obtain ⟨x1_1, hx1_1, _, w1_1⟩ := DataW.trod_int Try.underlying3 g1_1
  obtain rfl : e1_1 = .int .i64 x1_1 := by simpa using hx1_1
  obtain ⟨a2, len2, cap2, rfl⟩ := okWide_slice Try.underlying28 (hval 2 28 v2 rfl rfl)
  have k2 := h2
  have lt2 : ∀ x ∈ p2, x.block < W.heap.size := by obtain ⟨m, hm⟩ := k2; exact DataW.trod_lt m _ _ _ hm
  obtain ⟨l2, n2, w2⟩ : ∃ l, len2 = List.length l ∧ RI W W.heap.size (.slice a2 len2 cap2) l ∧ (∀ x ∈ l, (Lit.int .i64 x).wf = true) ∧ cap2 ≤ maxLen := by
    obtain ⟨fuel, hf⟩ := h2
    rcases open_ints Try.underlying28 Try.underlying3 (by kernel_rfl) hf with ⟨hcs, _⟩ | ⟨x, l, c, zs, hcs, _, hl, hm, hz, _, hcell, hwz⟩
    · simp [Value.cells] at hcs
      obtain ⟨rfl, rfl, rfl⟩ := hcs
      exact ⟨[], rfl, ⟨none, 0, rfl, ⟨by simp, by simp, fun _ => rfl⟩, fun h => absurd h (by simp)⟩, by simp, by simp⟩
    · simp [Value.cells] at hcs
      obtain ⟨rfl, rfl, rfl⟩ := hcs
      have hz' : zs.length = cap2 := by simpa using hz
      exact ⟨zs.take len2, by simp; omega, ri_of_cells (by omega) hz' hm hcell, fun x hx => hwz x (List.mem_of_mem_take hx), hm⟩
  subst n2
  clear hA0 hval0
  refine (walk ⟨x0_0, x0_1⟩ ⟨x1_0, x1_1⟩ _ l2 W w2.1 (by obtain ⟨_, _, _, ⟨q1_, q2_, _⟩, _⟩ := w2.1; omega)).mono fun e W' ⟨he, bel⟩ => ?_
  subst he
  exact ⟨_, rfl, _, _, _, [], _, [], hW', trodAll_mk1 (shut_bool Try.underlying4 _), (trodAll_cons_mk (Below.trod laidOut (by kernel_rfl) (of_decide_eq_true (by kernel_rfl)) k0 bel lt0) (trodAll_cons_mk (Below.trod laidOut (by kernel_rfl) (of_decide_eq_true (by kernel_rfl)) k1 bel lt1) (trodAll_cons_mk (Below.trod laidOut (by kernel_rfl) (of_decide_eq_true (by kernel_rfl)) k2 bel lt2) trodAll_mk0))), rfl, bel.frame _, fun h => by cases h⟩

theorem closed : joinedFacts Try.pinned.checked.prog 8 Try.f8 Rows.fnExactKeepsBothSpec Rows.fnExactKeepsBothRow = true := by
  unfold joinedFacts
  repeat' (with_reducible refine and_t ?_ ?_)
  all_goals first
    | (with_reducible exact init_mayEnter)
    | (with_reducible refine init_lifted ?_; as_aux_lemma => kernel_rfl)
    | (with_reducible refine init_mk ?_; as_aux_lemma => kernel_rfl)
    | (as_aux_lemma => kernel_rfl)

theorem over : Rows.fnExactKeepsBothRow.holds Try.pinned (OpenSpec.ofChange Rows.fnExactKeepsBothSpec) :=
  OpenClaim.holds_of_wide 8 Try.f8 rfl rfl rfl rfl rfl rfl rfl ⟨rfl, rfl, rfl, rfl, rfl⟩ rfl rfl rfl rfl rfl (by kernel_rfl) Try.func8 closed
    (of_decide_eq_true (by kernel_rfl)) (by unfold Func.isWrapper; first | (rw [if_pos (by decide +kernel)]; kernel_rfl) | (rw [if_neg (by decide +kernel)]; exact ⟨rfl, rfl⟩))
    (fun os started H enc _ => lifted os started H enc)

/-- The given statement. -/
theorem proved : Rows.FnExactKeepsBothSaid := over

end Go.Proofs.Ytnlepkeojnnjiaa.lawKeepsBoth

