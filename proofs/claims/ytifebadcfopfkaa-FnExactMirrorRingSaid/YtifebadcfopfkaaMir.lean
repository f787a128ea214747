/-
  The closure of MirrorRing.
-/
import Derived.Test.YtifebadcfopfkaaTurn
import Derived.Deep.RegionWith
namespace Go.Proofs.Ytifebadcfopfkaa
open Go.RowKit
set_option maxRecDepth 100000
set_option linter.unusedVariables false

def mirF (k y : Int) : Int := k - 1 - nx k y
theorem mirClosure_any (y k : Int) (d : List Int) (A : Option Addr) (c : Nat) (g1 : Nat) (w : World) (hb : BK w g1 26 #[.int .i64 k, .slice A d.length c]) (hr : RI w w.heap.size (.slice A d.length c) d) (hk : 2 ≤ k ∧ k ≤ 12) (hy : 0 ≤ y ∧ y < k) :
    Calls Try.prog 92 #[.int .i64 y, .pointer (some ⟨g1, 0, none⟩)] w (RetV w (.int .i64 (mirF k y))) := by
  have e2 := nx_in hy.1 hy.2
  have e4 : IntKind.i64.wrap (k - 1) = k - 1 := IntWalk.i64_in _ (by omega)
  have e5 : IntKind.i64.wrap (k - 1 - nx k y) = k - 1 - nx k y := IntWalk.i64_in _ (by omega)
  have b0 := hb.cell 0
  have b1 := hb.cell 1
  simp at b0 b1
  have HBH : Hid (Calls Try.prog 93 #[.agg #[.int .i64 k, .slice A d.length c], .int .i64 y] w.drew (RetV w.drew (.int .i64 (nx k y)))) := behind_any _ ⟨k, d⟩ y w.drew ⟨_, rfl, hr.drewN 1⟩ hk hy
  have HB := Lib.hid hb
  unfold mirF
  generalize nx k y = z at e2 e5 HBH ⊢
  clear hb hr
  go_enter Try.func92, Try.ntmps92
  go_upto_region 1 with fail
  go_region_with (first | (go_at_call 93; (with_reducible refine HBH.out.mono ?_); rintro e w3 ⟨rfl, hb3⟩; have t3 := (Below.refl w.heap.size w).drew.trans hb3; have k3 := HB.out.step t3; have d0 := k3.cell 0; have d1 := k3.cell 1; simp at d0 d1))
  all_goals
    go_wp2_with fail
    go_ret
    exact ⟨rfl, t3⟩
end Go.Proofs.Ytifebadcfopfkaa
