import Derived.Test.YtkbpiekmphcdnaaRectRow
/- A rectangle parted into slices: the program's way. -/
namespace Go.Proofs.Ytkbpiekmphcdnaa
open Go.RowKit
set_option linter.unusedVariables false
set_option linter.unusedSimpArgs false
def SlicesPost (w : World) (r : Rc) (high : Int) (e : Ending) (w' : World) : Prop :=
  ∃ A n c, e = .returned (.slice A n c) ∧ Rows 4 encR w' A n (slicesR r high) ∧ Below w.heap.size w w'
theorem slices_none {r : Rc} {high : Int} (h : countS r high = 0) : slicesR r high = [] := by unfold slicesR; rw [h]; rfl
set_option maxRecDepth 100000 in
set_option maxHeartbeats 2000000 in
theorem rectslices_any (x y w h high : Int) (hr : NearR ⟨x, y, w, h⟩) (hh : -9223372036854775808 ≤ high ∧ high ≤ 9223372036854775807) (W : World) :
    Calls Try.prog 30 #[.agg #[.int .i64 x, .int .i64 y, .int .i64 w, .int .i64 h], .int .i64 high] W (SlicesPost W ⟨x, y, w, h⟩ high) := by
  obtain ⟨⟨n1, n2⟩, ⟨n3, n4⟩, ⟨n5, n6⟩, n7, n8⟩ := hr
  simp only at n1 n2 n3 n4 n5 n6 n7 n8
  by_cases hq : noneR ⟨x, y, w, h⟩
  · have HD := Lib.hid (decide_eq_true hq)
    have HE := Lib.hid (slices_none (countS_zero (high := high) (.inl hq)))
    clear hq
    go_enter Try.func30, Try.ntmps30
    go_wp2_with (go_at_call 45; refine (empty_to HD.out _).mono ?_; rintro e w1 ⟨rfl, hb⟩)
    go_ret
    exact ⟨_, _, _, rfl, by rw [HE.out]; exact Rows.nil _ _, below_then (by go_grown) hb⟩
  · by_cases hq1 : high < 1
    · have HD := Lib.hid (decide_eq_false hq)
      have HE := Lib.hid (slices_none (countS_zero (r := ⟨x, y, w, h⟩) (.inr hq1)))
      clear hq
      go_enter Try.func30, Try.ntmps30
      go_wp2_with (go_at_call 45; refine (empty_to HD.out _).mono ?_; rintro e w1 ⟨rfl, hb⟩)
      go_ret
      exact ⟨_, _, _, rfl, by rw [HE.out]; exact Rows.nil _ _, below_then (by go_grown) hb⟩
    · have HD := Lib.hid (decide_eq_false hq)
      have hw1 : 1 ≤ w ∧ 1 ≤ h := by unfold noneR at hq; simp only at hq; omega
      obtain ⟨hw1, hh1⟩ := hw1
      have hh2 : 1 ≤ high := by omega
      have hq0 := Int.ediv_nonneg (show 0 ≤ h - 1 by omega) (show 0 ≤ high by omega)
      have hq2 := Int.ediv_le_self high (show 0 ≤ h - 1 by omega)
      by_cases hq3 : 32768 < (h - 1) / high + 1
      · have HE := Lib.hid (slices_none (countS_far (r := ⟨x, y, w, h⟩) hq3))
        clear hq
        go_enter Try.func30, Try.ntmps30
        go_wp2_with fail
        refine (empty_to HD.out _).mono ?_
        rintro e w1 ⟨rfl, hb⟩
        have hA := (Box.new4 W (.int .i64 x) (.int .i64 y) (.int .i64 w) (.int .i64 h) 41).below hb
        have HB := Lib.hid (below_then (by go_grown) hb : Below W.heap.size W w1)
        clear hb
        obtain ⟨⟨a0, a1, a2, a3⟩, ⟨f0, f1, f2, f3⟩, a4⟩ := hA.of4
        go_wp2_with fail
        go_ret
        exact ⟨_, _, _, rfl, by rw [HE.out]; exact Rows.nil _ _, HB.out⟩
      · obtain ⟨hc1, hc2, hc3⟩ := countS_some (r := ⟨x, y, w, h⟩) hq hq1 hq3
        simp only at hc1
        have HSl := Lib.hid (show slicesR ⟨x, y, w, h⟩ high = (List.range (countS ⟨x, y, w, h⟩ high)).map (sliceAt ⟨x, y, w, h⟩ high) from rfl)
        obtain ⟨cnt, hcnt⟩ : ∃ cnt, countS ⟨x, y, w, h⟩ high = cnt := ⟨_, rfl⟩
        obtain ⟨f, hf⟩ : ∃ f, sliceAt ⟨x, y, w, h⟩ high = f := ⟨_, rfl⟩
        rw [hcnt] at hc1 hc2 hc3 HSl
        rw [hf] at HSl
        have HF := Lib.hid hf
        obtain ⟨many, hmany⟩ : ∃ many, (h - 1) / high = many := ⟨_, rfl⟩
        rw [hmany] at hc1 hq0 hq3
        have HMk := make_rects cnt (by omega) (many + 1) hc1
        have HQ := Lib.hid hmany
        clear hq hf hcnt hq2
        go_enter Try.func30, Try.ntmps30
        go_wp2_with fail
        refine (empty_to HD.out _).mono ?_
        rintro e w1 ⟨rfl, hb⟩
        have hA := (Box.new4 W (.int .i64 x) (.int .i64 y) (.int .i64 w) (.int .i64 h) 41).below hb
        have HB := Lib.hid (below_then (by go_grown) hb : Below W.heap.size W w1)
        clear hb
        obtain ⟨⟨a0, a1, a2, a3⟩, ⟨f0, f1, f2, f3⟩, a4⟩ := hA.of4
        have hmany := HQ.out
        go_wp2_with fail
        clear hmany
        have hG0 : Box (w1.alloc (.cells ((List.replicate cnt zeroR).flatMap encR).toArray 41)) w1.heap.size ((partR f cnt 0).flatMap encR) := by
          rw [partR_zero]; exact Box.new _ _ _
        have hA0 := hA.alloc (.cells ((List.replicate cnt zeroR).flatMap encR).toArray 41)
        have hB0 := HB.out.alloc HB.out.size (.cells ((List.replicate cnt zeroR).flatMap encR).toArray 41)
        have hlt0 : W.heap.size < w1.heap.size := a4
        have HG0 := Lib.hid hG0
        have HA0 := Lib.hid hA0
        have HB0 := Lib.hid hB0
        clear hG0 hA0 hB0 hA a0 a1 a2 a3 f0 f1 f2 f3
        go_loopw [27] (fun i wr => ∃ k : Nat, k ≤ cnt ∧ i = .int .i64 k ∧ Box wr w1.heap.size ((partR f cnt k).flatMap encR) ∧ Box wr W.heap.size [.int .i64 x, .int .i64 y, .int .i64 w, .int .i64 h] ∧ Below W.heap.size W wr) (fun i _ => cnt - (intOf i).toNat)
        case atStart => exact ⟨0, by omega, rfl, HG0.out, HA0.out, HB0.out⟩
        case round =>
          obtain ⟨k, hk, rfl, hG, hA, hb⟩ := hrel
          have HG := Lib.hid hG
          have HB2 := Lib.hid hb
          clear hG hb
          by_cases hlt : k < cnt
          · have hin := slice_in (r := ⟨x, y, w, h⟩) (high := high) hh1 hh2 (i := k) (by rw [HQ.out]; omega)
            obtain ⟨top, htop⟩ : ∃ top, (k : Int) * high = top := ⟨_, rfl⟩
            simp only at hin
            rw [htop] at hin
            obtain ⟨hin1, hin2⟩ := hin
            have o1 : IntKind.i64.wrap top = top := IntWalk.i64_in _ (by omega)
            have o2 : IntKind.i64.wrap (y + top) = y + top := IntWalk.i64_in _ (by omega)
            have o3 : IntKind.i64.wrap (h - top) = h - top := IntWalk.i64_in _ (by omega)
            have hfk : f k = ⟨x, y + top, w, min high (h - top)⟩ := by rw [← HF.out]; unfold sliceAt; simp only [htop]
            have hk1 : (0 : Int) ≤ (k : Int) := by omega
            have hk2 : (k : Int) < (cnt : Int) := by omega
            have HFm := Lib.hid hfk
            obtain ⟨⟨c0, c1, c2, c3⟩, ⟨d0, d1, d2, d3⟩, c4⟩ := part_cells hlt HG.out
            obtain ⟨⟨a0, a1, a2, a3⟩, ⟨f0, f1, f2, f3⟩, a4⟩ := hA.of4
            clear hfk
            go_wp2_with fail
            have hG2 := part_stored hlt HG.out
            have hA2 := other_stored (g := w1.heap.size) hA (by omega) k (f k)
            have hB2 := below_stored (g := w1.heap.size) HB2.out (by omega) k (f k)
            rw [HFm.out] at hG2 hA2 hB2
            unfold set4k at hG2 hA2 hB2
            simp only at hG2 hA2 hB2
            go_roundw
            case rel => exact ⟨k + 1, by omega, by go_num, hG2, hA2, hB2⟩
            case measure => simp [intOf]; omega
          · obtain rfl : k = cnt := by omega
            have hR := box_rows HG.out (partR_len _ _ _) (by omega)
            rw [partR_all, ← HSl.out] at hR
            have HR := Lib.hid hR
            clear hR
            go_wp2_with fail
            go_ret
            exact ⟨_, _, _, rfl, HR.out, HB2.out⟩
end Go.Proofs.Ytkbpiekmphcdnaa
