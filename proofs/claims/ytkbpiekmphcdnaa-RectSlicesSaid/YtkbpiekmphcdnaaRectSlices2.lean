import Derived.Test.YtkbpiekmphcdnaaRectSlices
import Derived.Test.YtkbpiekmphcdnaaSpanLess2
/- A rectangle parted into slices: the document's way. Two rows of rectangles that are the same. Whether a rectangle's numbers are near. -/
namespace Go.Proofs.Ytkbpiekmphcdnaa
open Go.RowKit
set_option linter.unusedVariables false
set_option linter.unusedSimpArgs false
theorem rect_cells (w : World) (a b c d : Int) (t : TypeId) (n : Nat) (hn : n = w.heap.size) : Cells (w.alloc (.cells #[.int .i64 a, .int .i64 b, .int .i64 c, .int .i64 d] t)) (some ⟨n, 0, none⟩) 1 4 [.int .i64 a, .int .i64 b, .int .i64 c, .int .i64 d] := by
  subst hn
  refine ⟨rfl, by decide, fun _ => ⟨_, _, rfl, by simp, fun j u hu => ?_⟩⟩
  rw [Nat.zero_add]; exact (Box.new4 w _ _ _ _ t).2.2 j u hu
theorem rect_cell4 (a b c d : Int) : ∀ u ∈ ([.int .i64 a, .int .i64 b, .int .i64 c, .int .i64 d] : List Value), u.oneCell' = true := by
  intro u hu; simp at hu; rcases hu with rfl | rfl | rfl | rfl <;> rfl
theorem range_snoc (f : Nat → Rc) (k : Nat) : ((List.range (k + 1)).map f).flatMap encR = ((List.range k).map f).flatMap encR ++ encR (f k) := by
  rw [List.range_succ, List.map_append, List.flatMap_append]; simp
set_option maxRecDepth 100000 in
set_option maxHeartbeats 2000000 in
theorem refslices_any (x y w h high : Int) (hr : NearR ⟨x, y, w, h⟩) (hh : -9223372036854775808 ≤ high ∧ high ≤ 9223372036854775807) (W : World) :
    Calls Try.prog 31 #[.agg #[.int .i64 x, .int .i64 y, .int .i64 w, .int .i64 h], .int .i64 high] W (SlicesPost W ⟨x, y, w, h⟩ high) := by
  obtain ⟨i0, hi0, hz0, hz1, hz2⟩ := info_parts rect_info
  obtain ⟨⟨n1, n2⟩, ⟨n3, n4⟩, ⟨n5, n6⟩, n7, n8⟩ := hr
  simp only at n1 n2 n3 n4 n5 n6 n7 n8
  by_cases hq : noneR ⟨x, y, w, h⟩
  · have HD := Lib.hid (decide_eq_true hq)
    have HE := Lib.hid (slices_none (countS_zero (high := high) (.inl hq)))
    clear hq
    go_enter Try.func31, Try.ntmps31
    go_wp2_with (go_at_call 43; refine (none_to HD.out _).mono ?_; rintro e w1 ⟨rfl, hb⟩)
    go_ret
    exact ⟨_, _, _, rfl, by rw [HE.out]; exact Rows.nil _ _, below_then (by go_grown) hb⟩
  by_cases hq1 : high < 1
  · have HD := Lib.hid (decide_eq_false hq)
    have HE := Lib.hid (slices_none (countS_zero (r := ⟨x, y, w, h⟩) (.inr hq1)))
    clear hq
    go_enter Try.func31, Try.ntmps31
    go_wp2_with (go_at_call 43; refine (none_to HD.out _).mono ?_; rintro e w1 ⟨rfl, hb⟩)
    go_ret
    exact ⟨_, _, _, rfl, by rw [HE.out]; exact Rows.nil _ _, below_then (by go_grown) hb⟩
  have HD := Lib.hid (decide_eq_false hq)
  have hw1 : 1 ≤ w ∧ 1 ≤ h := by unfold noneR at hq; simp only at hq; omega
  obtain ⟨hw1, hh1⟩ := hw1
  have hh2 : 1 ≤ high := by omega
  have g0 := Int.ediv_nonneg (show 0 ≤ h by omega) (show 0 ≤ high by omega)
  have g1 := Int.ediv_le_self high (show 0 ≤ h by omega)
  have g2 := Int.ediv_mul_le h (show high ≠ 0 by omega)
  obtain ⟨hd1, hd2⟩ := count_doc hh1 hh2
  have g3 := Int.mul_nonneg g0 (show 0 ≤ high by omega)
  have o1 : IntKind.i64.wrap (h / high * high) = h / high * high := IntWalk.i64_in _ (by omega)
  have o2 : IntKind.i64.wrap (h / high + 1) = h / high + 1 := IntWalk.i64_in _ (by omega)
  have HD1 := Lib.hid hd1
  have HD2 := Lib.hid hd2
  clear hd1 hd2
  by_cases hq3 : 32768 < (h - 1) / high + 1
  · have HE := Lib.hid (slices_none (countS_far (r := ⟨x, y, w, h⟩) hq3))
    by_cases hlo : h / high * high < h
    all_goals
      first
        | (have hq4 : 32768 < h / high + 1 := by rw [HD1.out hlo]; exact hq3)
        | (have hq4 : 32768 < h / high := by rw [HD2.out hlo]; exact hq3)
      clear hq hq3
      go_enter Try.func31, Try.ntmps31
      go_wp2_with fail
      refine (none_to HD.out _).mono ?_
      rintro e w1 ⟨rfl, hb⟩
      have hA := (Box.new4 W (.int .i64 x) (.int .i64 y) (.int .i64 w) (.int .i64 h) 41).below hb
      have HB := Lib.hid (below_then (by go_grown) hb : Below W.heap.size W w1)
      clear hb
      obtain ⟨⟨a0, a1, a2, a3⟩, ⟨f0, f1, f2, f3⟩, a4⟩ := hA.of4
      go_wp2_with fail
      go_ret
      exact ⟨_, _, _, rfl, by rw [HE.out]; exact Rows.nil _ _, HB.out⟩
  · obtain ⟨hc1, hc2, hc3⟩ := countS_some (r := ⟨x, y, w, h⟩) hq hq1 hq3
    simp only at hc1
    have HSl := Lib.hid (show slicesR ⟨x, y, w, h⟩ high = (List.range (countS ⟨x, y, w, h⟩ high)).map (sliceAt ⟨x, y, w, h⟩ high) from rfl)
    obtain ⟨cnt, hcnt⟩ : ∃ cnt, countS ⟨x, y, w, h⟩ high = cnt := ⟨_, rfl⟩
    obtain ⟨f, hf⟩ : ∃ f, sliceAt ⟨x, y, w, h⟩ high = f := ⟨_, rfl⟩
    rw [hcnt] at hc1 hc2 hc3 HSl
    rw [hf] at HSl
    have HF := Lib.hid hf
    have hin0 : ∀ k : Nat, k < cnt → 0 ≤ (k : Int) * high ∧ (k : Int) * high ≤ h - 1 := fun k hk => slice_in (r := ⟨x, y, w, h⟩) (high := high) hh1 hh2 (i := k) (by show (k : Int) ≤ (h - 1) / high; omega)
    have HIn := Lib.hid hin0
    have o5 : IntKind.i64.wrap (cnt : Int) = cnt := IntWalk.i64_in _ (by omega)
    have hcc : (cnt : Int) ≤ 32768 := by omega
    by_cases hlo : h / high * high < h
    all_goals
      first
        | (have hq4 : h / high + 1 ≤ (cnt : Int) := by rw [HD1.out hlo]; omega
           have hq5 : (cnt : Int) ≤ h / high + 1 := by rw [HD1.out hlo]; omega)
        | (have hq4 : h / high ≤ (cnt : Int) := by rw [HD2.out hlo]; omega
           have hq5 : (cnt : Int) ≤ h / high := by rw [HD2.out hlo]; omega)
      clear hq hf hcnt hin0 hq3 hc1
      go_enter Try.func31, Try.ntmps31
      go_wp2_with fail
      refine (none_to HD.out _).mono ?_
      rintro e w1 ⟨rfl, hb⟩
      have hA := (Box.new4 W (.int .i64 x) (.int .i64 y) (.int .i64 w) (.int .i64 h) 41).below hb
      have HB := Lib.hid (below_then (by go_grown) hb : Below W.heap.size W w1)
      clear hb
      obtain ⟨⟨a0, a1, a2, a3⟩, ⟨f0, f1, f2, f3⟩, a4⟩ := hA.of4
      have HA := Lib.hid hA
      go_wp2_with fail
      clear a0 a1 a2 a3 f0 f1 f2 f3 hA
      go_loopw [6, 7] (fun v i wr => ∃ (k c' : Nat) (A' : Option Addr), k ≤ cnt ∧ i = .int .i64 k ∧ v = .slice A' k c' ∧ wr.ownsRow w1.heap.size 41 4 (.slice A' k c') k (((List.range k).map f).flatMap encR) ∧ Below w1.heap.size w1 wr) (fun _ i _ => cnt - (intOf i).toNat)
      case atStart => exact ⟨0, 0, none, by omega, rfl, rfl, owns_nil _ _ _ _, Below.refl _ _⟩
      case round =>
        obtain ⟨k, c', A', hk, rfl, rfl, hO, hb⟩ := hrel
        have HO := Lib.hid hO
        have HB3 := Lib.hid hb
        have hsz := hb.size
        clear hO hb
        by_cases hlt : k < cnt
        · obtain ⟨hin1, hin2⟩ := HIn.out k hlt
          obtain ⟨top, htop⟩ : ∃ top, (k : Int) * high = top := ⟨_, rfl⟩
          rw [htop] at hin1 hin2
          have p1 : IntKind.i64.wrap top = top := IntWalk.i64_in _ (by omega)
          have p2 : IntKind.i64.wrap (y + top) = y + top := IntWalk.i64_in _ (by omega)
          have p3 : IntKind.i64.wrap (h - top) = h - top := IntWalk.i64_in _ (by omega)
          have hfk : f k = ⟨x, y + top, w, min high (h - top)⟩ := by rw [← HF.out]; unfold sliceAt; simp only [htop]
          have hsn := range_snoc f k
          rw [hfk] at hsn
          have HSn := Lib.hid hsn
          have hk1 : (0 : Int) ≤ (k : Int) := by omega
          have hk2 : (k : Int) < (cnt : Int) := by omega
          obtain ⟨⟨a0, a1, a2, a3⟩, ⟨f0, f1, f2, f3⟩, a5⟩ := (HA.out.below HB3.out).of4
          have HC1 := Lib.hid (rect_cells wr x (y + top) w (min high (h - top)) 41 wr.heap.size rfl)
          have HO6 := Lib.hid (owns_below HO.out (w' := wr.alloc (.cells #[.int .i64 x, .int .i64 (y + top), .int .i64 w, .int .i64 (min high (h - top))] 41)) (by go_grown))
          have HB6 := Lib.hid (HB3.out.alloc hsz (.cells #[.int .i64 x, .int .i64 (y + top), .int .i64 w, .int .i64 (min high (h - top))] 41))
          clear hfk hsn
          go_wp2_with (at_builtin; refine wpList_append_cells _ rfl (.tmp 33) (.tmp 53) _ rfl w1.heap.size 41 i0 (.agg #[.int .i64 0, .int .i64 0, .int .i64 0, .int .i64 0]) 4 32 Try.underlying39 hi0 hz0 hz1 hz2 rfl (by decide) _ k _ rfl HO6.out _ 1 1 _ rfl HC1.out (rect_cell4 _ _ _ _) (by unfold maxLen; omega) (by omega) (by simp; omega) ?_; intro A6 c6 w6 hown6 hg6; have hb6 : Below w1.heap.size _ w6 := (Below.refl _ _).grown hg6 (by simp; omega) (owns_block HO6.out); have HB7 := Lib.hid (HB6.out.trans hb6); have HO7 := Lib.hid hown6; clear hg6 hown6 hb6)
          go_roundw
          case rel => exact ⟨k + 1, c6, A6, by omega, by go_num, rfl, by rw [HSn.out]; exact HO7.out, HB7.out⟩
          case measure => simp [intOf]; omega
        · obtain rfl : k = cnt := by omega
          have hR := ownsRow_rows (enc := encR) (zs := (List.range k).map f) encR_len (by decide) HO.out
          rw [← HSl.out] at hR
          have HR := Lib.hid hR
          have HB4 := Lib.hid (below_then HB.out HB3.out)
          clear hR
          go_wp2_with fail
          go_ret
          exact ⟨_, _, _, rfl, HR.out, HB4.out⟩
end Go.Proofs.Ytkbpiekmphcdnaa
