import Derived.Test.YtideikbijjheeaaRows
import Derived.Test.YtideikbijjheeaaSpanMath
import Derived.Test.YtideikbijjheeaaBoxes
import Derived.Deep.QuietTactic
import Derived.BigQuiet
/- What the program's functions of package span answer of one or two spans: none, meet, apart. (For seats that lack the rest of the package.) -/
namespace Go.Proofs.Ytideikbijjheeaa
open Go.RowKit
set_option linter.unusedVariables false
set_option linter.unusedSimpArgs false
theorem empty_any (a b : Int) (w : World) : Calls Try.prog 29 #[.agg #[.int .i64 a, .int .i64 b]] w fun e w' => e = .returned (.bool (decide (b ≤ a))) ∧ Below w.heap.size w w' := by
  go_enter Try.func29, Try.ntmps29
  go_wp2
  go_ret
  exact ⟨rfl, by go_grown⟩
theorem tidy_any (a b : Int) (w : World) : Calls Try.prog 41 #[.agg #[.int .i64 a, .int .i64 b]] w fun e w' => e = .returned (.agg #[.int .i64 (tidyS (a, b)).1, .int .i64 (tidyS (a, b)).2]) ∧ Below w.heap.size w w' := by
  by_cases h1 : b ≤ a
  · have HN := Lib.hid (tidyS_none (s := (a, b)) h1)
    go_enter Try.func41, Try.ntmps41
    go_wp2_with (go_at_call 29; refine (empty_any _ _ _).mono ?_; rintro e w1 ⟨rfl, hb⟩; obtain ⟨hc, hf⟩ := bcell hb; have hz : w.heap.size + 1 < w1.heap.size := by have := hb.size; simp at this; omega)
    refine bodyPost_ret (v := .agg #[.int .i64 0, .int .i64 0]) (by simp [results, Try.results41, go_sem, hc, hz]) rfl ⟨by rw [HN.out], ?_⟩
    exact Below.setCell (Below.setCell (below_then (by go_grown) hb) (by go_size) _) (by go_size) _
  · have HN := Lib.hid (tidyS_some (s := (a, b)) (by simpa using h1))
    go_enter Try.func41, Try.ntmps41
    go_wp2_with (go_at_call 29; refine (empty_any _ _ _).mono ?_; rintro e w1 ⟨rfl, hb⟩; obtain ⟨hc, hf⟩ := bcell hb; have hz : w.heap.size + 1 < w1.heap.size := by have := hb.size; simp at this; omega)
    refine bodyPost_ret (v := .agg #[.int .i64 a, .int .i64 b]) (by simp [results, Try.results41, go_sem, hc, hz]) rfl ⟨by rw [HN.out], ?_⟩
    exact Below.setCell (Below.setCell (below_then (by go_grown) hb) (by go_size) _) (by go_size) _
theorem tidy_to {a b p q : Int} (h1 : a = p) (h2 : b = q) (w : World) : Calls Try.prog 41 #[.agg #[.int .i64 a, .int .i64 b]] w fun e w' => e = .returned (.agg #[.int .i64 (tidyS (p, q)).1, .int .i64 (tidyS (p, q)).2]) ∧ Below w.heap.size w w' := by
  subst h1 h2; exact tidy_any _ _ _
theorem meet_any (a b c d : Int) (w : World) : Calls Try.prog 40 #[.agg #[.int .i64 a, .int .i64 b], .agg #[.int .i64 c, .int .i64 d]] w fun e w' => e = .returned (.agg #[.int .i64 (meetS (a, b) (c, d)).1, .int .i64 (meetS (a, b) (c, d)).2]) ∧ Below w.heap.size w w' := by
  unfold meetS
  go_enter Try.func40, Try.ntmps40
  go_wp2_with (go_at_call 41; refine (tidy_to (p := max a c) (q := min b d) (by omega) (by omega) _).mono ?_; rintro e w1 ⟨rfl, hb⟩; obtain ⟨hc, hf⟩ := bcell hb; have hz : w.heap.size + 1 + 1 < w1.heap.size := by have := hb.size; simp at this; omega)
  all_goals
    refine bodyPost_ret (v := .agg #[.int .i64 (tidyS (max a c, min b d)).1, .int .i64 (tidyS (max a c, min b d)).2]) (by simp [results, Try.results40, go_sem, hc, hz]) rfl ⟨rfl, ?_⟩
    exact Below.setCell (Below.setCell (below_then (by go_grown) hb) (by go_size) _) (by go_size) _
theorem meet_to {a b c d p q : Int} (h : meetS (a, b) (c, d) = (p, q)) (w : World) : Calls Try.prog 40 #[.agg #[.int .i64 a, .int .i64 b], .agg #[.int .i64 c, .int .i64 d]] w fun e w' => e = .returned (.agg #[.int .i64 p, .int .i64 q]) ∧ Below w.heap.size w w' := by
  have := meet_any a b c d w
  rw [h] at this; exact this
theorem apart_any (a b c d : Int) (w : World) : Calls Try.prog 38 #[.agg #[.int .i64 a, .int .i64 b], .agg #[.int .i64 c, .int .i64 d]] w fun e w' => e = .returned (.bool (decide (meetS (a, b) (c, d) = (0, 0)))) ∧ Below w.heap.size w w' := by
  rcases hm : meetS (a, b) (c, d) with ⟨p, q⟩
  have HM := Lib.hid hm
  clear hm
  go_enter Try.func38, Try.ntmps38
  go_wp2_with (go_at_call 40; refine (meet_to HM.out _).mono ?_; rintro e w1 ⟨rfl, hb⟩; obtain ⟨hc, hf⟩ := bcell hb; have hz : w.heap.size + 1 < w1.heap.size := by have := hb.size; simp at this; omega)
  all_goals
    go_ret
    exact ⟨ret_bool (by simp_all), below_then (by go_grown) hb⟩
end Go.Proofs.Ytideikbijjheeaa
