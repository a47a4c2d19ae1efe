import Derived.Test.YtkbpiekmphcdnaaRows
import Derived.Test.YtkbpiekmphcdnaaSpanMath
import Derived.Test.YtkbpiekmphcdnaaBoxes
import Derived.Deep.QuietTactic
import Derived.BigQuiet
/- What each function of package span on one or two spans answers, and each of the document's answers for it. -/
namespace Go.Proofs.Ytkbpiekmphcdnaa
open Go.RowKit
set_option linter.unusedVariables false
set_option linter.unusedSimpArgs false

theorem empty_any (a b : Int) (w : World) : Calls Try.prog 33 #[.agg #[.int .i64 a, .int .i64 b]] w fun e w' => e = .returned (.bool (decide (b ≤ a))) ∧ Below w.heap.size w w' := by
  go_enter Try.func33, Try.ntmps33
  go_wp2
  go_ret
  exact ⟨rfl, by go_grown⟩
theorem none_any (a b : Int) (w : World) : Calls Try.prog 17 #[.agg #[.int .i64 a, .int .i64 b]] w fun e w' => e = .returned (.bool (decide (b ≤ a))) ∧ Below w.heap.size w w' := by
  go_enter Try.func17, Try.ntmps17
  go_wp2
  go_ret
  exact ⟨rfl, by go_grown⟩
theorem of_any (a b : Int) (w : World) : Calls Try.prog 35 #[.int .i64 a, .int .i64 b] w fun e w' => e = .returned (.agg #[.int .i64 a, .int .i64 b]) ∧ Below w.heap.size w w' := by
  go_enter Try.func35, Try.ntmps35
  go_wp2
  go_returns
  exact ⟨rfl, by go_grown⟩
theorem has_any (a b n : Int) (w : World) : Calls Try.prog 13 #[.agg #[.int .i64 a, .int .i64 b], .int .i64 n] w fun e w' => e = .returned (.bool (decide (a ≤ n ∧ n < b))) ∧ Below w.heap.size w w' := by
  by_cases h1 : a ≤ n <;> by_cases h2 : n < b
  all_goals
    go_enter Try.func13, Try.ntmps13
    go_wp2
    go_ret
    exact ⟨ret_bool (by simp [h1, h2]), by go_grown⟩
theorem tidy_any (a b : Int) (w : World) : Calls Try.prog 34 #[.agg #[.int .i64 a, .int .i64 b]] w fun e w' => e = .returned (.agg #[.int .i64 (tidyS (a, b)).1, .int .i64 (tidyS (a, b)).2]) ∧ Below w.heap.size w w' := by
  by_cases h1 : b ≤ a
  · have HN := Lib.hid (tidyS_none (s := (a, b)) h1)
    go_enter Try.func34, Try.ntmps34
    go_wp2_with (go_at_call 33; refine (empty_any _ _ _).mono ?_; rintro e w1 ⟨rfl, hb⟩; obtain ⟨hc, hf⟩ := bcell hb; have hz : w.heap.size + 1 < w1.heap.size := by have := hb.size; simp at this; omega)
    refine bodyPost_ret (v := .agg #[.int .i64 0, .int .i64 0]) (by simp [results, Try.results34, go_sem, hc, hz]) rfl ⟨by rw [HN.out], ?_⟩
    exact Below.setCell (Below.setCell (below_then (by go_grown) hb) (by go_size) _) (by go_size) _
  · have HN := Lib.hid (tidyS_some (s := (a, b)) (by simpa using h1))
    go_enter Try.func34, Try.ntmps34
    go_wp2_with (go_at_call 33; refine (empty_any _ _ _).mono ?_; rintro e w1 ⟨rfl, hb⟩; obtain ⟨hc, hf⟩ := bcell hb; have hz : w.heap.size + 1 < w1.heap.size := by have := hb.size; simp at this; omega)
    refine bodyPost_ret (v := .agg #[.int .i64 a, .int .i64 b]) (by simp [results, Try.results34, go_sem, hc, hz]) rfl ⟨by rw [HN.out], ?_⟩
    exact Below.setCell (Below.setCell (below_then (by go_grown) hb) (by go_size) _) (by go_size) _
theorem tidy_to {a b p q : Int} (h1 : a = p) (h2 : b = q) (w : World) : Calls Try.prog 34 #[.agg #[.int .i64 a, .int .i64 b]] w fun e w' => e = .returned (.agg #[.int .i64 (tidyS (p, q)).1, .int .i64 (tidyS (p, q)).2]) ∧ Below w.heap.size w w' := by
  subst h1 h2; exact tidy_any _ _ _
theorem meet_any (a b c d : Int) (w : World) : Calls Try.prog 15 #[.agg #[.int .i64 a, .int .i64 b], .agg #[.int .i64 c, .int .i64 d]] w fun e w' => e = .returned (.agg #[.int .i64 (meetS (a, b) (c, d)).1, .int .i64 (meetS (a, b) (c, d)).2]) ∧ Below w.heap.size w w' := by
  unfold meetS
  go_enter Try.func15, Try.ntmps15
  go_wp2_with (go_at_call 34; refine (tidy_to (p := max a c) (q := min b d) (by omega) (by omega) _).mono ?_; rintro e w1 ⟨rfl, hb⟩; obtain ⟨hc, hf⟩ := bcell hb; have hz : w.heap.size + 1 + 1 < w1.heap.size := by have := hb.size; simp at this; omega)
  all_goals
    refine bodyPost_ret (v := .agg #[.int .i64 (tidyS (max a c, min b d)).1, .int .i64 (tidyS (max a c, min b d)).2]) (by simp [results, Try.results15, go_sem, hc, hz]) rfl ⟨rfl, ?_⟩
    exact Below.setCell (Below.setCell (below_then (by go_grown) hb) (by go_size) _) (by go_size) _
theorem len_any (a b : Int) (w : World) (h1 : -2305843009213693952 ≤ a ∧ a ≤ 2305843009213693952) (h2 : -2305843009213693952 ≤ b ∧ b ≤ 2305843009213693952) : Calls Try.prog 11 #[.agg #[.int .i64 a, .int .i64 b]] w fun e w' => e = .returned (.int .i64 (lenS (a, b))) ∧ Below w.heap.size w w' := by
  unfold lenS
  by_cases h : b ≤ a
  all_goals
    go_enter Try.func11, Try.ntmps11
    go_wp2_with (go_at_call 33; refine (empty_any _ _ _).mono ?_; rintro e w1 ⟨rfl, hb⟩; obtain ⟨hc, hf⟩ := bcell hb; have hz : w.heap.size < w1.heap.size := by have := hb.size; simp at this; omega)
    go_ret
    exact ⟨ret_int (by simp [h]), below_then (by go_grown) hb⟩
theorem rlen_any (a b : Int) (w : World) (h1 : -2305843009213693952 ≤ a ∧ a ≤ 2305843009213693952) (h2 : -2305843009213693952 ≤ b ∧ b ≤ 2305843009213693952) : Calls Try.prog 12 #[.agg #[.int .i64 a, .int .i64 b]] w fun e w' => e = .returned (.int .i64 (lenS (a, b))) ∧ Below w.heap.size w w' := by
  unfold lenS
  by_cases h : b ≤ a
  all_goals
    go_enter Try.func12, Try.ntmps12
    go_wp2_with (go_at_call 17; refine (none_any _ _ _).mono ?_; rintro e w1 ⟨rfl, hb⟩; obtain ⟨hc, hf⟩ := bcell hb; have hz : w.heap.size < w1.heap.size := by have := hb.size; simp at this; omega)
    go_ret
    exact ⟨ret_int (by simp [h]), below_then (by go_grown) hb⟩
theorem rhas_any (a b n : Int) (w : World) : Calls Try.prog 14 #[.agg #[.int .i64 a, .int .i64 b], .int .i64 n] w fun e w' => e = .returned (.bool (decide (a ≤ n ∧ n < b))) ∧ Below w.heap.size w w' := by
  by_cases h1 : a ≤ n <;> by_cases h2 : n < b
  all_goals
    go_enter Try.func14, Try.ntmps14
    go_wp2
    go_ret
    exact ⟨ret_bool (by simp [h1, h2]), by go_grown⟩
end Go.Proofs.Ytkbpiekmphcdnaa
