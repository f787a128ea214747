/-
  Chapter 9: the contracts of WorstTraffic, both sides.
-/
import Derived.Test.YtlanpfcjcafapaaBoA
import Derived.Test.YtlanpfcjcafapaaRow5
import Derived.Test.YtlanpfcjcafapaaAcc
import Derived.Deep.LoopGhost
namespace Go.Proofs.Ytlanpfcjcafapaa
open Go.RowKit
set_option maxRecDepth 100000
set_option linter.unusedVariables false
/-- The tick k of the worst traffic, and the list so far with noughts behind it. -/
theorem wst_one (b : Bu) : wst b 0 ++ [b.d] = wst b 1 := by simp [wst]
theorem wst_succ (b : Bu) (k : Nat) (hk : 0 < k) : wst b k ++ [min b.r b.d] = wst b (k + 1) := by
  cases k with
  | zero => omega
  | succ k => simp [wst, List.replicate_succ']
def mst (m : Int) (n k : Nat) : List Int := List.replicate k m ++ List.replicate (n - k) 0
theorem mst_zero (m : Int) (n : Nat) : mst m n 0 = List.replicate n 0 := by simp [mst]
theorem mst_length (m : Int) (n k : Nat) (hk : k ≤ n) : (mst m n k).length = n := by simp [mst]; omega
theorem mst_set (m : Int) (n k : Nat) (hk : k < n) : (mst m n k).set k m = mst m n (k + 1) := by
  have e : n - k = (n - (k + 1)) + 1 := by omega
  unfold mst
  rw [e, List.replicate_succ, List.set_append_right k _ (by rw [List.length_replicate]; exact Nat.le_refl _), List.length_replicate, Nat.sub_self, List.set_cons_zero, List.replicate_succ']
  simp
theorem mst_all (m d : Int) (n : Nat) (hn : 0 < n) : (mst m n n).set 0 d = d :: List.replicate (n - 1) m := by
  cases n with
  | zero => omega
  | succ n => simp [mst, List.replicate_succ]
set_option maxHeartbeats 1000000 in
theorem implWorstTraffic_any (b : Bu) (n : Int) (w : World) (hx : (Lit.int .i64 n).wf = true) : Calls Try.prog 31 #[BuV b, .int .i64 n] w (RetLB 3 w (worstSays b n).1 (worstSays b n).2) := by
  have H1 := Lib.hid fun w => implBucket_any b w
  have H2 := Lib.hid fun w => isWithin_wi n 0 40 w
  obtain ⟨i0, hi, hz0, hz1, hz2⟩ := info_parts int_info
  cases hg : buOk b
  · rw [show worstSays b n = ([], false) from by simp [worstSays, hg]]
    rw [hg] at H1
    clear hg H2
    obtain ⟨r, d⟩ := b
    simp only [BuV] at H1 ⊢
    have hW : Below w.heap.size w (w.alloc (.cells #[.int .i64 r, .int .i64 d] 36)) := (Below.refl _ _).alloc (Nat.le_refl _) _
    go_enter Try.func31, Try.ntmps31
    go_wp2_with fail
    refine (H1.out _).mono ?_; rintro e w1 ⟨rfl, hb⟩
    go_wp2_with fail
    go_ret2
    exact ⟨_, rfl, .inl ⟨rfl, none, 0, rfl, by simp, fun _ => rfl⟩, hW.trans (hb.mono hW.size)⟩
  rw [hg] at H1
  cases hwa : wi n 0 40
  · rw [show worstSays b n = ([], false) from by simp [worstSays, hwa]]
    rw [hwa] at H2
    clear hg hwa
    obtain ⟨r, d⟩ := b
    simp only [BuV] at H1 ⊢
    have hW : Below w.heap.size w (w.alloc (.cells #[.int .i64 r, .int .i64 d] 36)) := (Below.refl _ _).alloc (Nat.le_refl _) _
    go_enter Try.func31, Try.ntmps31
    go_wp2_with fail
    refine (H1.out _).mono ?_; rintro e w1 ⟨rfl, hb⟩
    go_wp2_with fail
    refine (H2.out _).mono ?_; rintro e w_ ⟨rfl, rfl⟩
    go_wp2_with fail
    go_ret2
    exact ⟨_, rfl, .inl ⟨rfl, none, 0, rfl, by simp, fun _ => rfl⟩, hW.trans (hb.mono hW.size)⟩
  rw [show worstSays b n = (wst b n.toNat, true) from by simp [worstSays, hg, hwa]]
  rw [hwa] at H2
  have hin := buOk_in hg
  have hn2 : 0 ≤ n ∧ n ≤ 40 := by simpa [wi] using hwa
  obtain ⟨N, rfl⟩ : ∃ N : Nat, n = (N : Int) := ⟨n.toNat, by omega⟩
  rw [Int.toNat_natCast]
  have hN : N ≤ 40 := by omega
  clear hg hwa
  obtain ⟨r, d⟩ := b
  simp only [BuV] at H1 hin ⊢
  obtain ⟨m, hm⟩ : ∃ m, min r d = m := ⟨_, rfl⟩
  have hm2 : (if d < r then d else r) = m := by split <;> omega
  have HWS : Hid (0 < N → wst ⟨r, d⟩ N = (mst m N N).set 0 d) := by
    intro h0
    rw [mst_all _ _ _ h0, ← hm]
    cases N with
    | zero => omega
    | succ N => simp [wst]
  have hW : Below w.heap.size w (w.alloc (.cells #[.int .i64 r, .int .i64 d] 36)) := (Below.refl _ _).alloc (Nat.le_refl _) _
  have hB := BK.made w 36 #[.int .i64 r, .int .i64 d]
  go_enter Try.func31, Try.ntmps31
  go_wp2_with fail
  refine (H1.out _).mono ?_; rintro e w1 ⟨rfl, hb⟩
  have HB1 := Lib.hid (hB.step hb)
  have HT1 := Lib.hid (hW.trans (hb.mono hW.size))
  clear hW hB hb
  go_wp2_with fail
  refine (H2.out _).mono ?_; rintro e w_ ⟨rfl, rfl⟩
  go_wp2_with (at_make; refine wpList_make_full _ rfl _ _ 26 rfl w1.heap.size 3 i0 _ 1 Try.underlying26 hi hz0 hz1 _ _ _ _ N rfl rfl rfl rfl (by rw [hz2]; omega) (by unfold maxLen; omega) (Nat.le_refl _) ?_; intro w2 hown hg)
  have hrc : RC w2 w1.heap.size N (mst m N 0) := by
    have h1 := RC.made hown
    rw [mst_zero]
    exact h1
  have hb2 : Below w1.heap.size w1 w2 := (Below.refl _ _).grown hg (Nat.le_refl _) (by intro k hk; cases hk)
  have HRC := Lib.hid hrc
  have HB2 := Lib.hid hb2
  clear hown hg hrc hb2
  go_wp2_with fail
  go_loopg [20] N (fun g s20 wx => ∃ k : Nat, k + g = N ∧ s20 = .int .i64 (k : Int) ∧ RC wx w1.heap.size N (mst m N k) ∧ Below w1.heap.size w1 wx)
  case atStart => exact ⟨0, by omega, rfl, HRC.out, HB2.out⟩
  case round =>
    clear HRC HB2
    obtain ⟨k, hkg, rfl, hrc, hb⟩ := hrel
    have hbk := HB1.out.step hb
    have c0 := hbk.cell 0
    have c1 := hbk.cell 1
    simp at c0 c1
    have HRC := Lib.hid hrc
    have HB := Lib.hid hb
    have hlt1 := HB1.out.1
    clear hrc hb hbk
    cases gk with
    | zero =>
      have hke : k = N := by omega
      have hz : ¬ ((N : Int) < (N : Int)) := by omega
      rw [hke] at HRC ⊢
      clear hke hkg
      rcases Nat.eq_zero_or_pos N with hN0 | hN0
      · subst hN0
        have h9 := HRC.out.oi (lo := w1.heap.size) (hi := wr.heap.size) (Nat.le_refl _) (Nat.le_refl _)
        have H9 := Lib.hid h9
        clear h9 HWS
        go_wp2_with fail
        go_ret2
        exact ⟨_, rfl, H9.out.wide HT1.out.size (Nat.le_refl _), HT1.out.trans (HB.out.mono HT1.out.size)⟩
      · have hpos : (0 : Int) < (N : Int) := by omega
        have HLN := Lib.hid (mst_length m N N (Nat.le_refl _))
        have hcy : wr.cell? ⟨w1.heap.size, 0, none⟩ = some (.int .i64 ((mst m N N).getD 0 0)) := HRC.out.cell 0 (by rw [HLN.out]; exact hN0)
        have hfz : wr.frozen? ⟨w1.heap.size, 0, none⟩ = false := HRC.out.free 0
        generalize (mst m N N).getD 0 0 = u0 at hcy
        have hs := HRC.out.set 0 d
        rw [← HWS.out hN0] at hs
        have h9 := hs.oi (lo := w1.heap.size) (hi := (wr.setCell ⟨w1.heap.size, 0, none⟩ (.int .i64 d)).heap.size) (Nat.le_refl _) (Nat.le_refl _)
        rw [wst_length] at h9
        have H9 := Lib.hid h9
        have HB5 := Lib.hid (HB.out.setCell (p := ⟨w1.heap.size, 0, none⟩) (Nat.le_refl _) (.int .i64 d))
        clear hs h9
        go_wp2_with fail
        go_ret2
        exact ⟨_, rfl, H9.out.wide HT1.out.size (Nat.le_refl _), HT1.out.trans (HB5.out.mono HT1.out.size)⟩
    | succ g =>
      have hk : k < N := by omega
      have hk' : (k : Int) < (N : Int) := by omega
      have HSET := Lib.hid (mst_set m N k hk)
      have HLN := Lib.hid (mst_length m N k (by omega))
      have hcy : wr.cell? ⟨w1.heap.size, k, none⟩ = some (.int .i64 ((mst m N k).getD k 0)) := HRC.out.cell k (by rw [HLN.out]; exact hk)
      have hfz : wr.frozen? ⟨w1.heap.size, k, none⟩ = false := HRC.out.free k
      generalize (mst m N k).getD k 0 = u0 at hcy
      have hs := HRC.out.set k m
      rw [HSET.out] at hs
      have HS := Lib.hid hs
      have HB5 := Lib.hid (HB.out.setCell (p := ⟨w1.heap.size, k, none⟩) (Nat.le_refl _) (.int .i64 m))
      clear hs
      go_wp2_with fail
      go_roundg g
      case measure => omega
      case rel => exact ⟨k + 1, by omega, by go_num, HS.out, HB5.out⟩
set_option maxHeartbeats 1000000 in
theorem specWorstTraffic_any (b : Bu) (n : Int) (w : World) (hx : (Lit.int .i64 n).wf = true) : Calls Try.prog 32 #[BuV b, .int .i64 n] w (RetLB 3 w (worstSays b n).1 (worstSays b n).2) := by
  have H1 := Lib.hid fun w => shBucket_any b w
  have H2 := Lib.hid fun w => l1In_wi n 0 40 w
  obtain ⟨i0, hi, hz0, hz1, hz2⟩ := info_parts int_info
  cases hg : buOk b
  · rw [show worstSays b n = ([], false) from by simp [worstSays, hg]]
    rw [hg] at H1
    clear hg H2
    obtain ⟨r, d⟩ := b
    simp only [BuV] at H1 ⊢
    have hW : Below w.heap.size w (w.alloc (.cells #[.int .i64 r, .int .i64 d] 36)) := (Below.refl _ _).alloc (Nat.le_refl _) _
    go_enter Try.func32, Try.ntmps32
    go_wp2_with fail
    refine (H1.out _).mono ?_; rintro e w1 ⟨rfl, hb⟩
    go_wp2_with fail
    go_ret2
    exact ⟨_, rfl, .inl ⟨rfl, none, 0, rfl, by simp, fun _ => rfl⟩, hW.trans (hb.mono hW.size)⟩
  rw [hg] at H1
  cases hwa : wi n 0 40
  · rw [show worstSays b n = ([], false) from by simp [worstSays, hwa]]
    rw [hwa] at H2
    clear hg hwa
    obtain ⟨r, d⟩ := b
    simp only [BuV] at H1 ⊢
    have hW : Below w.heap.size w (w.alloc (.cells #[.int .i64 r, .int .i64 d] 36)) := (Below.refl _ _).alloc (Nat.le_refl _) _
    go_enter Try.func32, Try.ntmps32
    go_wp2_with fail
    refine (H1.out _).mono ?_; rintro e w1 ⟨rfl, hb⟩
    go_wp2_with fail
    refine (H2.out _).mono ?_; rintro e w_ ⟨rfl, rfl⟩
    go_wp2_with fail
    go_ret2
    exact ⟨_, rfl, .inl ⟨rfl, none, 0, rfl, by simp, fun _ => rfl⟩, hW.trans (hb.mono hW.size)⟩
  rw [show worstSays b n = (wst b n.toNat, true) from by simp [worstSays, hg, hwa]]
  rw [hwa] at H2
  have hin := buOk_in hg
  have hn2 : 0 ≤ n ∧ n ≤ 40 := by simpa [wi] using hwa
  obtain ⟨N, rfl⟩ : ∃ N : Nat, n = (N : Int) := ⟨n.toNat, by omega⟩
  rw [Int.toNat_natCast]
  have hN : N ≤ 40 := by omega
  clear hg hwa
  obtain ⟨m, hm⟩ : ∃ m, min b.r b.d = m := ⟨_, rfl⟩
  have HLE := Lib.hid fun W => shLeast_any b.r b.d W
  have HW1 := Lib.hid (wst_one b)
  have HWS := Lib.hid fun k hk => wst_succ b k hk
  have HWL := Lib.hid fun k => wst_length b k
  have HW0 : Hid (wst b 0 = []) := rfl
  rw [hm] at HLE HWS
  generalize hww : wst b = WS at *
  clear hm hww
  obtain ⟨r, d⟩ := b
  simp only [BuV] at H1 hin HW1 HLE ⊢
  have hW : Below w.heap.size w (w.alloc (.cells #[.int .i64 r, .int .i64 d] 36)) := (Below.refl _ _).alloc (Nat.le_refl _) _
  have hB := BK.made w 36 #[.int .i64 r, .int .i64 d]
  go_enter Try.func32, Try.ntmps32
  go_wp2_with fail
  refine (H1.out _).mono ?_; rintro e w1 ⟨rfl, hb⟩
  have HB1 := Lib.hid (hB.step hb)
  have HT1 := Lib.hid (hW.trans (hb.mono hW.size))
  clear hW hB hb
  go_wp2_with fail
  refine (H2.out _).mono ?_; rintro e w_ ⟨rfl, rfl⟩
  go_wp2_with fail
  go_loopg [7, 6] N (fun g s7 s6 wx => ∃ k : Nat, k + g = N ∧ s7 = .int .i64 (k : Int) ∧ Acc 3 wx w1.heap.size s6 (WS k) ∧ Below w1.heap.size w1 wx)
  case atStart => exact ⟨0, by omega, rfl, by rw [HW0.out]; exact Acc.nil _ _ _, Below.refl _ _⟩
  case round =>
    obtain ⟨k, hkg, rfl, hacc, hb⟩ := hrel
    have hbk := HB1.out.step hb
    have c0 := hbk.cell 0
    have c1 := hbk.cell 1
    simp at c0 c1
    have HA := Lib.hid hacc
    have HB := Lib.hid hb
    have HS := Lib.hid hb.size
    clear hacc hb hbk
    cases gk with
    | zero =>
      have hke : k = N := by omega
      have hz : ¬ ((N : Int) < (N : Int)) := by omega
      rw [hke] at HA ⊢
      clear hke hkg
      go_wp2_with fail
      go_ret2
      exact ⟨_, rfl, HA.out.oi.wide HT1.out.size (Nat.le_refl _), HT1.out.trans (HB.out.mono HT1.out.size)⟩
    | succ g =>
      have hk' : (k : Int) < (N : Int) := by omega
      have HLN : Hid ((WS k).length < 1000000000) := by show _ < _; rw [HWL.out]; omega
      by_cases hk0 : k = 0
      · subst hk0
        go_wp2_with (first | (go_at_call 81; (with_reducible refine (HLE.out _).mono ?_); rintro e w' ⟨rfl, rfl⟩) | (at_builtin; refine wpList_push rfl (.tmp 31) (.tmp 33) 26 rfl 3 i0 Try.underlying26 hi hz0 hz1 hz2 wr w1 w1.heap.size _ (WS 0) d rfl rfl HA.out rfl HLN.out HS.out HB.out ?_; intro v2 w2 ha2 hb2; have HA2 := Lib.hid ha2; have HB2 := Lib.hid hb2; clear ha2 hb2))
        go_roundg g
        case measure => omega
        case rel => exact ⟨0 + 1, by omega, by go_num, (by rw [← HW1.out]; exact HA2.out), HB2.out⟩
      · have hk1 : ¬ ((k : Int) = 0) := by omega
        have hkb : ((k : Int) == 0) = false := by simpa using hk1
        go_wp2_with (first | (go_at_call 81; (with_reducible refine (HLE.out _).mono ?_); rintro e w' ⟨rfl, rfl⟩) | (at_builtin; refine wpList_push rfl (.tmp 31) (.tmp 33) 26 rfl 3 i0 Try.underlying26 hi hz0 hz1 hz2 wr w1 w1.heap.size _ (WS k) m rfl rfl HA.out rfl HLN.out HS.out HB.out ?_; intro v2 w2 ha2 hb2; have HA2 := Lib.hid ha2; have HB2 := Lib.hid hb2; clear ha2 hb2))
        go_roundg g
        case measure => omega
        case rel => exact ⟨k + 1, by omega, by go_num, (by rw [← HWS.out k (by omega)]; exact HA2.out), HB2.out⟩
end Go.Proofs.Ytlanpfcjcafapaa
