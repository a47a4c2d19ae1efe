import Derived.Test.YtkbpiekmphcdnaaSpan
import Derived.Deep.RegionHeld3
/- Functions of package span that ask others. -/
namespace Go.Proofs.Ytkbpiekmphcdnaa
open Go.RowKit
set_option linter.unusedVariables false
set_option linter.unusedSimpArgs false
theorem meet_to {a b c d p q : Int} (h : meetS (a, b) (c, d) = (p, q)) (w : World) : Calls Try.prog 15 #[.agg #[.int .i64 a, .int .i64 b], .agg #[.int .i64 c, .int .i64 d]] w fun e w' => e = .returned (.agg #[.int .i64 p, .int .i64 q]) ∧ Below w.heap.size w w' := by
  have := meet_any a b c d w
  rw [h] at this; exact this
theorem apart_any (a b c d : Int) (w : World) : Calls Try.prog 16 #[.agg #[.int .i64 a, .int .i64 b], .agg #[.int .i64 c, .int .i64 d]] w fun e w' => e = .returned (.bool (decide (meetS (a, b) (c, d) = (0, 0)))) ∧ Below w.heap.size w w' := by
  rcases hm : meetS (a, b) (c, d) with ⟨p, q⟩
  have HM := Lib.hid hm
  clear hm
  go_enter Try.func16, Try.ntmps16
  go_wp2_with (go_at_call 15; refine (meet_to HM.out _).mono ?_; rintro e w1 ⟨rfl, hb⟩; obtain ⟨hc, hf⟩ := bcell hb; have hz : w.heap.size + 1 < w1.heap.size := by have := hb.size; simp at this; omega)
  all_goals
    go_ret
    exact ⟨ret_bool (by simp_all), below_then (by go_grown) hb⟩
theorem tidy_at {a b p q : Int} (h : tidyS (a, b) = (p, q)) (w : World) : Calls Try.prog 34 #[.agg #[.int .i64 a, .int .i64 b]] w fun e w' => e = .returned (.agg #[.int .i64 p, .int .i64 q]) ∧ Below w.heap.size w w' := by
  have := tidy_any a b w
  rw [h] at this; exact this
set_option maxHeartbeats 400000 in
theorem within_to (a b c d p q r s : Int) (w : World) (HM : Hid (meetS (a, b) (c, d) = (p, q))) (HT : Hid (tidyS (a, b) = (r, s))) (u v : Bool) (h1 : (p == r) = u) (h2 : (q == s) = v) : Calls Try.prog 18 #[.agg #[.int .i64 a, .int .i64 b], .agg #[.int .i64 c, .int .i64 d]] w fun e w' => e = .returned (.bool (u && v)) ∧ Below w.heap.size w w' := by
  cases u <;> cases v
  all_goals
    go_enter Try.func18, Try.ntmps18
    go_wp2_with fail
    generalize hW : (w.alloc (.cells #[.int .i64 a, .int .i64 b] 23)).alloc (.cells #[.int .i64 c, .int .i64 d] 23) = W
    have k0 := On.cell (W := W) (a := ⟨w.heap.size, 0, none⟩) (v := .int .i64 a) (by rw [← hW]; simp)
    have k1 := On.cell (W := W) (a := ⟨w.heap.size, 1, none⟩) (v := .int .i64 b) (by rw [← hW]; simp)
    have k2 := On.cell (W := W) (a := ⟨w.heap.size + 1, 0, none⟩) (v := .int .i64 c) (by rw [← hW]; simp)
    have k3 := On.cell (W := W) (a := ⟨w.heap.size + 1, 1, none⟩) (v := .int .i64 d) (by rw [← hW]; simp)
    have HB := Lib.hid (show Below w.heap.size w W by rw [← hW]; go_grown)
    clear hW
    go_region_held3 (fun W' => On W W') (first | exact (On.refl _).drew | exact On.step (by assumption) hb) (first
      | (go_at_call 15; refine (meet_to HM.out _).mono ?_; rintro e w1 ⟨rfl, hb⟩)
      | (go_at_call 34; refine (tidy_at HT.out _).mono ?_; rintro e w1 ⟨rfl, hb⟩))
    rename_i hOn
    go_wp2_with fail
    go_ret
    exact ⟨rfl, below_then HB.out hOn⟩
theorem within_any (a b c d : Int) (w : World) : Calls Try.prog 18 #[.agg #[.int .i64 a, .int .i64 b], .agg #[.int .i64 c, .int .i64 d]] w fun e w' => e = .returned (.bool (decide (meetS (a, b) (c, d) = tidyS (a, b)))) ∧ Below w.heap.size w w' := by
  rcases hm : meetS (a, b) (c, d) with ⟨p, q⟩
  rcases ht : tidyS (a, b) with ⟨r, s⟩
  have h := within_to a b c d p q r s w hm ht _ _ rfl rfl
  have e : (p == r && q == s) = decide ((p, q) = (r, s)) := by rw [Bool.eq_iff_iff]; simp
  rwa [e] at h
theorem meetS_n1 {a b c d : Int} (h : b ≤ a) : meetS (a, b) (c, d) = (0, 0) := tidyS_none (by show min b d ≤ max a c; omega)
theorem meetS_n2 {a b c d : Int} (h : d ≤ c) : meetS (a, b) (c, d) = (0, 0) := tidyS_none (by show min b d ≤ max a c; omega)
theorem meetS_at {a b c d x y : Int} (h1 : max a c = x) (h2 : min b d = y) : meetS (a, b) (c, d) = tidyS (x, y) := by unfold meetS; simp only [h1, h2]
set_option maxHeartbeats 1000000 in
theorem rmeet_ab (a b c d : Int) (w : World) (h1 : ¬ b ≤ a) (h2 : ¬ d ≤ c) (h3 : c ≤ a) (h4 : b ≤ d) : Calls Try.prog 9 #[.agg #[.int .i64 a, .int .i64 b], .agg #[.int .i64 c, .int .i64 d]] w fun e w' => e = .returned (.agg #[.int .i64 (tidyS (a, b)).1, .int .i64 (tidyS (a, b)).2]) ∧ Below w.heap.size w w' := by
  by_cases h5 : b ≤ a
  all_goals
    have HT := Lib.hid (show (if b ≤ a then ((0 : Int), (0 : Int)) else (a, b)) = tidyS (a, b) from rfl)
    first | rw [if_pos h5] at HT | rw [if_neg h5] at HT
  all_goals first | (exfalso; omega) | skip
  all_goals
    go_enter Try.func9, Try.ntmps9
    go_wp2_with fail
    generalize hW : ((w.alloc (.cells #[.int .i64 a, .int .i64 b] 23)).alloc (.cells #[.int .i64 c, .int .i64 d] 23)).alloc (.cells #[.int .i64 0, .int .i64 0] 23) = W
    have hA : Box W w.heap.size [.int .i64 a, .int .i64 b] := by rw [← hW]; exact ((Box.new2 _ _ _ _).alloc _).alloc _
    have hB : Box W (w.heap.size + 1) [.int .i64 c, .int .i64 d] := by rw [← hW]; exact ((Box.new2' _ _ _ _ _ (by simp))).alloc _
    have hR : Box W (w.heap.size + 1 + 1) [.int .i64 0, .int .i64 0] := by rw [← hW]; exact (Box.new2' _ _ _ _ _ (by simp))
    have HB := Lib.hid (show Below w.heap.size w W by rw [← hW]; go_grown)
    clear hW
    refine (none_any _ _ _).mono ?_
    rintro e w1 ⟨rfl, hb⟩
    replace HB := Lib.hid (below_then HB.out hb)
    replace hA := hA.below hb
    replace hB := hB.below hb
    replace hR := hR.below hb
    clear hb
    obtain ⟨a0, a1, a2, a3, a4⟩ := hA.of2
    obtain ⟨b0, b1, b2, b3, b4⟩ := hB.of2
    obtain ⟨r0, r1, r2, r3, r4⟩ := hR.of2
    go_wp2_with fail
    clear a0 a1 a2 a3 a4 b0 b1 b2 b3 b4 r0 r1 r2 r3 r4
    refine (none_any _ _ _).mono ?_
    rintro e w2 ⟨rfl, hb⟩
    replace HB := Lib.hid (below_then HB.out hb)
    replace hA := hA.below hb
    replace hB := hB.below hb
    replace hR := hR.below hb
    clear hb
    obtain ⟨a0, a1, a2, a3, a4⟩ := hA.of2
    obtain ⟨b0, b1, b2, b3, b4⟩ := hB.of2
    obtain ⟨r0, r1, r2, r3, r4⟩ := hR.of2
    go_wp2_with fail
    clear a0 a1 a2 a3 a4 b0 b1 b2 b3 b4 r0 r1 r2 r3 r4
    refine (none_any _ _ _).mono ?_
    rintro e w3 ⟨rfl, hb⟩
    replace HB := Lib.hid (below_then HB.out hb)
    replace hA := hA.below hb
    replace hB := hB.below hb
    replace hR := hR.below hb
    clear hb
    obtain ⟨a0, a1, a2, a3, a4⟩ := hA.of2
    obtain ⟨b0, b1, b2, b3, b4⟩ := hB.of2
    obtain ⟨r0, r1, r2, r3, r4⟩ := hR.of2
    go_wp2_with fail
    first
      | (refine bodyPost_ret (v := .agg #[.int .i64 0, .int .i64 0]) ?_ rfl ?_; (· (simp [results, Try.results9, go_sem, r0, r1]; done)); exact ⟨by rw [← HT.out], Below.setCell (Below.setCell HB.out (by go_size) _) (by go_size) _⟩)
      | (refine bodyPost_ret (v := .agg #[.int .i64 a, .int .i64 b]) ?_ rfl ?_; (· (simp [results, Try.results9, go_sem, r0, r1]; done)); exact ⟨by rw [← HT.out], Below.setCell (Below.setCell HB.out (by go_size) _) (by go_size) _⟩)
set_option maxHeartbeats 1000000 in
theorem rmeet_cb (a b c d : Int) (w : World) (h1 : ¬ b ≤ a) (h2 : ¬ d ≤ c) (h3 : a < c) (h4 : b ≤ d) : Calls Try.prog 9 #[.agg #[.int .i64 a, .int .i64 b], .agg #[.int .i64 c, .int .i64 d]] w fun e w' => e = .returned (.agg #[.int .i64 (tidyS (c, b)).1, .int .i64 (tidyS (c, b)).2]) ∧ Below w.heap.size w w' := by
  by_cases h5 : b ≤ c
  all_goals
    have HT := Lib.hid (show (if b ≤ c then ((0 : Int), (0 : Int)) else (c, b)) = tidyS (c, b) from rfl)
    first | rw [if_pos h5] at HT | rw [if_neg h5] at HT
  all_goals first | (exfalso; omega) | skip
  all_goals
    go_enter Try.func9, Try.ntmps9
    go_wp2_with fail
    generalize hW : ((w.alloc (.cells #[.int .i64 a, .int .i64 b] 23)).alloc (.cells #[.int .i64 c, .int .i64 d] 23)).alloc (.cells #[.int .i64 0, .int .i64 0] 23) = W
    have hA : Box W w.heap.size [.int .i64 a, .int .i64 b] := by rw [← hW]; exact ((Box.new2 _ _ _ _).alloc _).alloc _
    have hB : Box W (w.heap.size + 1) [.int .i64 c, .int .i64 d] := by rw [← hW]; exact ((Box.new2' _ _ _ _ _ (by simp))).alloc _
    have hR : Box W (w.heap.size + 1 + 1) [.int .i64 0, .int .i64 0] := by rw [← hW]; exact (Box.new2' _ _ _ _ _ (by simp))
    have HB := Lib.hid (show Below w.heap.size w W by rw [← hW]; go_grown)
    clear hW
    refine (none_any _ _ _).mono ?_
    rintro e w1 ⟨rfl, hb⟩
    replace HB := Lib.hid (below_then HB.out hb)
    replace hA := hA.below hb
    replace hB := hB.below hb
    replace hR := hR.below hb
    clear hb
    obtain ⟨a0, a1, a2, a3, a4⟩ := hA.of2
    obtain ⟨b0, b1, b2, b3, b4⟩ := hB.of2
    obtain ⟨r0, r1, r2, r3, r4⟩ := hR.of2
    go_wp2_with fail
    clear a0 a1 a2 a3 a4 b0 b1 b2 b3 b4 r0 r1 r2 r3 r4
    refine (none_any _ _ _).mono ?_
    rintro e w2 ⟨rfl, hb⟩
    replace HB := Lib.hid (below_then HB.out hb)
    replace hA := hA.below hb
    replace hB := hB.below hb
    replace hR := hR.below hb
    clear hb
    obtain ⟨a0, a1, a2, a3, a4⟩ := hA.of2
    obtain ⟨b0, b1, b2, b3, b4⟩ := hB.of2
    obtain ⟨r0, r1, r2, r3, r4⟩ := hR.of2
    go_wp2_with fail
    clear a0 a1 a2 a3 a4 b0 b1 b2 b3 b4 r0 r1 r2 r3 r4
    refine (none_any _ _ _).mono ?_
    rintro e w3 ⟨rfl, hb⟩
    replace HB := Lib.hid (below_then (Below.setCell HB.out (p := ⟨w.heap.size, 0, none⟩) (Nat.le_refl _) (.int .i64 c)) hb)
    replace hA := (hA.set 0 (.int .i64 c) (by simp)).below hb
    replace hB := (hB.set_other (by omega) 0 (.int .i64 c)).below hb
    replace hR := (hR.set_other (by omega) 0 (.int .i64 c)).below hb
    clear hb
    obtain ⟨a0, a1, a2, a3, a4⟩ := hA.of2
    obtain ⟨b0, b1, b2, b3, b4⟩ := hB.of2
    obtain ⟨r0, r1, r2, r3, r4⟩ := hR.of2
    go_wp2_with fail
    first
      | (refine bodyPost_ret (v := .agg #[.int .i64 0, .int .i64 0]) ?_ rfl ?_; (· (simp [results, Try.results9, go_sem, r0, r1]; done)); exact ⟨by rw [← HT.out], Below.setCell (Below.setCell HB.out (by go_size) _) (by go_size) _⟩)
      | (refine bodyPost_ret (v := .agg #[.int .i64 c, .int .i64 b]) ?_ rfl ?_; (· (simp [results, Try.results9, go_sem, r0, r1]; done)); exact ⟨by rw [← HT.out], Below.setCell (Below.setCell HB.out (by go_size) _) (by go_size) _⟩)
set_option maxHeartbeats 1000000 in
theorem rmeet_ad (a b c d : Int) (w : World) (h1 : ¬ b ≤ a) (h2 : ¬ d ≤ c) (h3 : c ≤ a) (h4 : d < b) : Calls Try.prog 9 #[.agg #[.int .i64 a, .int .i64 b], .agg #[.int .i64 c, .int .i64 d]] w fun e w' => e = .returned (.agg #[.int .i64 (tidyS (a, d)).1, .int .i64 (tidyS (a, d)).2]) ∧ Below w.heap.size w w' := by
  by_cases h5 : d ≤ a
  all_goals
    have HT := Lib.hid (show (if d ≤ a then ((0 : Int), (0 : Int)) else (a, d)) = tidyS (a, d) from rfl)
    first | rw [if_pos h5] at HT | rw [if_neg h5] at HT
  all_goals first | (exfalso; omega) | skip
  all_goals
    go_enter Try.func9, Try.ntmps9
    go_wp2_with fail
    generalize hW : ((w.alloc (.cells #[.int .i64 a, .int .i64 b] 23)).alloc (.cells #[.int .i64 c, .int .i64 d] 23)).alloc (.cells #[.int .i64 0, .int .i64 0] 23) = W
    have hA : Box W w.heap.size [.int .i64 a, .int .i64 b] := by rw [← hW]; exact ((Box.new2 _ _ _ _).alloc _).alloc _
    have hB : Box W (w.heap.size + 1) [.int .i64 c, .int .i64 d] := by rw [← hW]; exact ((Box.new2' _ _ _ _ _ (by simp))).alloc _
    have hR : Box W (w.heap.size + 1 + 1) [.int .i64 0, .int .i64 0] := by rw [← hW]; exact (Box.new2' _ _ _ _ _ (by simp))
    have HB := Lib.hid (show Below w.heap.size w W by rw [← hW]; go_grown)
    clear hW
    refine (none_any _ _ _).mono ?_
    rintro e w1 ⟨rfl, hb⟩
    replace HB := Lib.hid (below_then HB.out hb)
    replace hA := hA.below hb
    replace hB := hB.below hb
    replace hR := hR.below hb
    clear hb
    obtain ⟨a0, a1, a2, a3, a4⟩ := hA.of2
    obtain ⟨b0, b1, b2, b3, b4⟩ := hB.of2
    obtain ⟨r0, r1, r2, r3, r4⟩ := hR.of2
    go_wp2_with fail
    clear a0 a1 a2 a3 a4 b0 b1 b2 b3 b4 r0 r1 r2 r3 r4
    refine (none_any _ _ _).mono ?_
    rintro e w2 ⟨rfl, hb⟩
    replace HB := Lib.hid (below_then HB.out hb)
    replace hA := hA.below hb
    replace hB := hB.below hb
    replace hR := hR.below hb
    clear hb
    obtain ⟨a0, a1, a2, a3, a4⟩ := hA.of2
    obtain ⟨b0, b1, b2, b3, b4⟩ := hB.of2
    obtain ⟨r0, r1, r2, r3, r4⟩ := hR.of2
    go_wp2_with fail
    clear a0 a1 a2 a3 a4 b0 b1 b2 b3 b4 r0 r1 r2 r3 r4
    refine (none_any _ _ _).mono ?_
    rintro e w3 ⟨rfl, hb⟩
    replace HB := Lib.hid (below_then (Below.setCell HB.out (p := ⟨w.heap.size, 1, none⟩) (Nat.le_refl _) (.int .i64 d)) hb)
    replace hA := (hA.set 1 (.int .i64 d) (by simp)).below hb
    replace hB := (hB.set_other (by omega) 1 (.int .i64 d)).below hb
    replace hR := (hR.set_other (by omega) 1 (.int .i64 d)).below hb
    clear hb
    obtain ⟨a0, a1, a2, a3, a4⟩ := hA.of2
    obtain ⟨b0, b1, b2, b3, b4⟩ := hB.of2
    obtain ⟨r0, r1, r2, r3, r4⟩ := hR.of2
    go_wp2_with fail
    first
      | (refine bodyPost_ret (v := .agg #[.int .i64 0, .int .i64 0]) ?_ rfl ?_; (· (simp [results, Try.results9, go_sem, r0, r1]; done)); exact ⟨by rw [← HT.out], Below.setCell (Below.setCell HB.out (by go_size) _) (by go_size) _⟩)
      | (refine bodyPost_ret (v := .agg #[.int .i64 a, .int .i64 d]) ?_ rfl ?_; (· (simp [results, Try.results9, go_sem, r0, r1]; done)); exact ⟨by rw [← HT.out], Below.setCell (Below.setCell HB.out (by go_size) _) (by go_size) _⟩)
set_option maxHeartbeats 1000000 in
theorem rmeet_cd (a b c d : Int) (w : World) (h1 : ¬ b ≤ a) (h2 : ¬ d ≤ c) (h3 : a < c) (h4 : d < b) : Calls Try.prog 9 #[.agg #[.int .i64 a, .int .i64 b], .agg #[.int .i64 c, .int .i64 d]] w fun e w' => e = .returned (.agg #[.int .i64 (tidyS (c, d)).1, .int .i64 (tidyS (c, d)).2]) ∧ Below w.heap.size w w' := by
  by_cases h5 : d ≤ c
  all_goals
    have HT := Lib.hid (show (if d ≤ c then ((0 : Int), (0 : Int)) else (c, d)) = tidyS (c, d) from rfl)
    first | rw [if_pos h5] at HT | rw [if_neg h5] at HT
  all_goals first | (exfalso; omega) | skip
  all_goals
    go_enter Try.func9, Try.ntmps9
    go_wp2_with fail
    generalize hW : ((w.alloc (.cells #[.int .i64 a, .int .i64 b] 23)).alloc (.cells #[.int .i64 c, .int .i64 d] 23)).alloc (.cells #[.int .i64 0, .int .i64 0] 23) = W
    have hA : Box W w.heap.size [.int .i64 a, .int .i64 b] := by rw [← hW]; exact ((Box.new2 _ _ _ _).alloc _).alloc _
    have hB : Box W (w.heap.size + 1) [.int .i64 c, .int .i64 d] := by rw [← hW]; exact ((Box.new2' _ _ _ _ _ (by simp))).alloc _
    have hR : Box W (w.heap.size + 1 + 1) [.int .i64 0, .int .i64 0] := by rw [← hW]; exact (Box.new2' _ _ _ _ _ (by simp))
    have HB := Lib.hid (show Below w.heap.size w W by rw [← hW]; go_grown)
    clear hW
    refine (none_any _ _ _).mono ?_
    rintro e w1 ⟨rfl, hb⟩
    replace HB := Lib.hid (below_then HB.out hb)
    replace hA := hA.below hb
    replace hB := hB.below hb
    replace hR := hR.below hb
    clear hb
    obtain ⟨a0, a1, a2, a3, a4⟩ := hA.of2
    obtain ⟨b0, b1, b2, b3, b4⟩ := hB.of2
    obtain ⟨r0, r1, r2, r3, r4⟩ := hR.of2
    go_wp2_with fail
    clear a0 a1 a2 a3 a4 b0 b1 b2 b3 b4 r0 r1 r2 r3 r4
    refine (none_any _ _ _).mono ?_
    rintro e w2 ⟨rfl, hb⟩
    replace HB := Lib.hid (below_then HB.out hb)
    replace hA := hA.below hb
    replace hB := hB.below hb
    replace hR := hR.below hb
    clear hb
    obtain ⟨a0, a1, a2, a3, a4⟩ := hA.of2
    obtain ⟨b0, b1, b2, b3, b4⟩ := hB.of2
    obtain ⟨r0, r1, r2, r3, r4⟩ := hR.of2
    go_wp2_with fail
    clear a0 a1 a2 a3 a4 b0 b1 b2 b3 b4 r0 r1 r2 r3 r4
    refine (none_any _ _ _).mono ?_
    rintro e w3 ⟨rfl, hb⟩
    replace HB := Lib.hid (below_then (Below.setCell (Below.setCell HB.out (p := ⟨w.heap.size, 0, none⟩) (Nat.le_refl _) (.int .i64 c)) (p := ⟨w.heap.size, 1, none⟩) (Nat.le_refl _) (.int .i64 d)) hb)
    replace hA := ((hA.set 0 (.int .i64 c) (by simp)).set 1 (.int .i64 d) (by simp)).below hb
    replace hB := ((hB.set_other (by omega) 0 (.int .i64 c)).set_other (by omega) 1 (.int .i64 d)).below hb
    replace hR := ((hR.set_other (by omega) 0 (.int .i64 c)).set_other (by omega) 1 (.int .i64 d)).below hb
    clear hb
    obtain ⟨a0, a1, a2, a3, a4⟩ := hA.of2
    obtain ⟨b0, b1, b2, b3, b4⟩ := hB.of2
    obtain ⟨r0, r1, r2, r3, r4⟩ := hR.of2
    go_wp2_with fail
    first
      | (refine bodyPost_ret (v := .agg #[.int .i64 0, .int .i64 0]) ?_ rfl ?_; (· (simp [results, Try.results9, go_sem, r0, r1]; done)); exact ⟨by rw [← HT.out], Below.setCell (Below.setCell HB.out (by go_size) _) (by go_size) _⟩)
      | (refine bodyPost_ret (v := .agg #[.int .i64 c, .int .i64 d]) ?_ rfl ?_; (· (simp [results, Try.results9, go_sem, r0, r1]; done)); exact ⟨by rw [← HT.out], Below.setCell (Below.setCell HB.out (by go_size) _) (by go_size) _⟩)
theorem rmeet_any (a b c d : Int) (w : World) : Calls Try.prog 9 #[.agg #[.int .i64 a, .int .i64 b], .agg #[.int .i64 c, .int .i64 d]] w fun e w' => e = .returned (.agg #[.int .i64 (meetS (a, b) (c, d)).1, .int .i64 (meetS (a, b) (c, d)).2]) ∧ Below w.heap.size w w' := by
  by_cases h1 : b ≤ a
  · have HN := Lib.hid (meetS_n1 (c := c) (d := d) h1)
    go_enter Try.func9, Try.ntmps9
    go_wp2_with (go_at_call 17; refine (none_any _ _ _).mono ?_; rintro e w1 ⟨rfl, hb⟩; obtain ⟨hc, hf⟩ := bcell hb; have hz : w.heap.size + 1 + 1 < w1.heap.size := by have := hb.size; simp at this; omega)
    refine bodyPost_ret (v := .agg #[.int .i64 0, .int .i64 0]) (by simp [results, Try.results9, go_sem, hc, hz]) rfl ⟨by rw [HN.out], ?_⟩
    exact Below.setCell (Below.setCell (below_then (by go_grown) hb) (by go_size) _) (by go_size) _
  · by_cases h2 : d ≤ c
    · have HN := Lib.hid (meetS_n2 (a := a) (b := b) h2)
      go_enter Try.func9, Try.ntmps9
      go_wp2_with fail
      refine (none_any _ _ _).mono ?_
      rintro e w1 ⟨rfl, hb1⟩
      have B1 := Box.below (((Box.new2 w (.int .i64 a) (.int .i64 b) 23).alloc (.cells #[.int .i64 c, .int .i64 d] 23)).alloc (.cells #[.int .i64 0, .int .i64 0] 23)) hb1
      have B2 := Box.below ((Box.new2' (w.alloc (.cells #[.int .i64 a, .int .i64 b] 23)) (.int .i64 c) (.int .i64 d) 23 (w.heap.size + 1) (by simp)).alloc (.cells #[.int .i64 0, .int .i64 0] 23)) hb1
      have B3 := Box.below (Box.new2' ((w.alloc (.cells #[.int .i64 a, .int .i64 b] 23)).alloc (.cells #[.int .i64 c, .int .i64 d] 23)) (.int .i64 0) (.int .i64 0) 23 (w.heap.size + 1 + 1) (by simp)) hb1
      have HB := Lib.hid (below_then (by go_grown) hb1 : Below w.heap.size w w1)
      clear hb1
      obtain ⟨b0, b1, b2, b3, b4⟩ := B2.of2
      go_wp2_with fail
      refine (none_any _ _ _).mono ?_
      rintro e w2 ⟨rfl, hb2⟩
      obtain ⟨r0, r1, r2, r3, r4⟩ := (B3.below hb2).of2
      replace HB := Lib.hid (below_then HB.out hb2)
      clear hb2
      go_wp2_with fail
      refine bodyPost_ret (v := .agg #[.int .i64 0, .int .i64 0]) (by simp [results, Try.results9, go_sem, r0, r1]) rfl ⟨by rw [HN.out], ?_⟩
      exact Below.setCell (Below.setCell HB.out (by go_size) _) (by go_size) _
    · rcases (show c ≤ a ∨ a < c by omega) with h3 | h3 <;> rcases (show b ≤ d ∨ d < b by omega) with h4 | h4
      · rw [meetS_at (x := a) (y := b) (by omega) (by omega)]; exact rmeet_ab a b c d w h1 h2 h3 h4
      · rw [meetS_at (x := a) (y := d) (by omega) (by omega)]; exact rmeet_ad a b c d w h1 h2 h3 h4
      · rw [meetS_at (x := c) (y := b) (by omega) (by omega)]; exact rmeet_cb a b c d w h1 h2 h3 h4
      · rw [meetS_at (x := c) (y := d) (by omega) (by omega)]; exact rmeet_cd a b c d w h1 h2 h3 h4
end Go.Proofs.Ytkbpiekmphcdnaa
