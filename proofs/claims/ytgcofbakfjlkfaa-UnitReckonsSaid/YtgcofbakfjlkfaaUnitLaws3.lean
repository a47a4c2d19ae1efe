import Derived.Test.YtgcofbakfjlkfaaUnitLaws
/- The walk of the law UnitReckons. -/
namespace Go.Proofs.Ytgcofbakfjlkfaa
open Go.RowKit
set_option linter.unusedVariables false
set_option linter.unusedSimpArgs false
set_option maxHeartbeats 3000000 in
theorem reckons_law (a : Int) (_ : -9223372036854775808 ≤ a ∧ a ≤ 9223372036854775807) (b : Int) (_ : -9223372036854775808 ≤ b ∧ b ≤ 9223372036854775807) (w : World) :
    Calls Try.prog 3 #[.int .i64 a, .int .i64 b] w fun e w' => e = .returned (.bool true) ∧ Below w.heap.size w w' := by
  have ha := lim_bd a
  have hb := lim_bd b
  rcases (show (1 ≤ a ∧ a ≤ 1099511627776) ∨ a < 1 ∨ 1099511627776 < a by omega) with ⟨h1, h2⟩ | h1 | h1
  all_goals
    go_enter Try.func3, Try.ntmps3
    go_wp2_with (first
      | (go_at_call 11; refine (clamp_any _ _).mono ?_; rintro e w' ⟨rfl, rfl⟩)
      | (go_at_call 12; refine (rclamp_any _ _).mono ?_; rintro e w' ⟨rfl, rfl⟩)
      | (go_at_call 7; refine (parts_any _ _ _).mono ?_; rintro e w' ⟨rfl, rfl⟩)
      | (go_at_call 8; refine (rparts_any _ _ _).mono ?_; rintro e w' ⟨rfl, rfl⟩)
      | (go_at_call 9; refine (pixels_any _ _).mono ?_; rintro e w' ⟨rfl, rfl⟩)
      | (go_at_call 10; refine (rpixels_any _ _).mono ?_; rintro e w' ⟨rfl, rfl⟩)
      | (go_at_call 13; refine (may_any _ _).mono ?_; rintro e w' ⟨rfl, rfl⟩)
      | (go_at_call 16; refine (sub_any _ _ _).mono ?_; rintro e w' ⟨rfl, rfl⟩)
      | (go_at_call 17; refine (mul_any _ _ _).mono ?_; rintro e w' ⟨rfl, rfl⟩)
      | (go_at_call 18; refine (rmul_any _ _ _).mono ?_; rintro e w' ⟨rfl, rfl⟩)
      | (go_at_call 14; refine (add_any _ _ _ _ _ (Ints.new2' _ _ _ _ _ (by simp))).mono ?_; rintro e w' ⟨rfl, rfl⟩)
      | (go_at_call 15; refine (radd_any _ _ _ _ _ (Ints.new2' _ _ _ _ _ (by simp))).mono ?_; rintro e w' ⟨rfl, rfl⟩)
      | (go_at_call 19; refine (awake_any _).mono ?_; rintro e w' ⟨rfl, hbw⟩))
    all_goals go_ret
    all_goals exact ⟨rfl, Below.trans (by go_grown) (hbw.mono (by go_size))⟩
end Go.Proofs.Ytgcofbakfjlkfaa
