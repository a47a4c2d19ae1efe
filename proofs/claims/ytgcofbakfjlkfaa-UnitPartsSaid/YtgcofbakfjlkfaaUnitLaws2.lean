import Derived.Test.YtgcofbakfjlkfaaUnitLaws
/- The walks of the laws on package unit. -/
namespace Go.Proofs.Ytgcofbakfjlkfaa
open Go.RowKit
set_option linter.unusedVariables false
set_option linter.unusedSimpArgs false
set_option maxHeartbeats 400000 in
theorem parts_law (a : Int) (_ : -9223372036854775808 ≤ a ∧ a ≤ 9223372036854775807) (b : Int) (_ : -9223372036854775808 ≤ b ∧ b ≤ 9223372036854775807) (w : World) :
    Calls Try.prog 6 #[.int .i64 a, .int .i64 b] w fun e w' => e = .returned (.bool true) ∧ Below w.heap.size w w' := by
  obtain ⟨p1, p2, p3, p4, p5⟩ := pix_facts a
  have ha := lim_bd a
  have hb := lim_bd b
  by_cases h1 : lim a < 0
  · obtain ⟨e1, e2⟩ := partsN_lo (a := a) (b := b) (.inl h1)
    go_enter Try.func6, Try.ntmps6
    go_wp2_with (first
      | (go_at_call 11; refine (clamp_any _ _).mono ?_; rintro e w' ⟨rfl, rfl⟩)
      | (go_at_call 7; refine (parts_any _ _ _).mono ?_; rintro e w' ⟨rfl, rfl⟩)
      | (go_at_call 9; refine (pixels_any _ _).mono ?_; rintro e w' ⟨rfl, rfl⟩)
      | (go_at_call 19; refine (awake_any _).mono ?_; rintro e w' ⟨rfl, hbw⟩))
    all_goals go_ret
    all_goals exact ⟨rfl, hbw⟩
  · by_cases h2 : lim b < 1
    · obtain ⟨e1, e2⟩ := partsN_lo (a := a) (b := b) (.inr h2)
      go_enter Try.func6, Try.ntmps6
      go_wp2_with (first
        | (go_at_call 11; refine (clamp_any _ _).mono ?_; rintro e w' ⟨rfl, rfl⟩)
        | (go_at_call 7; refine (parts_any _ _ _).mono ?_; rintro e w' ⟨rfl, rfl⟩)
        | (go_at_call 9; refine (pixels_any _ _).mono ?_; rintro e w' ⟨rfl, rfl⟩)
        | (go_at_call 19; refine (awake_any _).mono ?_; rintro e w' ⟨rfl, hbw⟩))
      all_goals go_ret
      all_goals exact ⟨rfl, hbw⟩
    · have e2 := (partsN_hi (a := a) (b := b) h1 h2).2
      obtain ⟨f1, f2, f3, f4, f5, f6, f7⟩ := parts_facts (a := a) (b := b) h1 h2
      by_cases h3 : 0 < partsN a b
      all_goals
        go_enter Try.func6, Try.ntmps6
        go_wp2_with (first
          | (go_at_call 11; refine (clamp_any _ _).mono ?_; rintro e w' ⟨rfl, rfl⟩)
          | (go_at_call 7; refine (parts_any _ _ _).mono ?_; rintro e w' ⟨rfl, rfl⟩)
          | (go_at_call 9; refine (pixels_any _ _).mono ?_; rintro e w' ⟨rfl, rfl⟩)
          | (go_at_call 19; refine (awake_any _).mono ?_; rintro e w' ⟨rfl, hbw⟩))
        all_goals go_ret
        all_goals exact ⟨rfl, hbw⟩
end Go.Proofs.Ytgcofbakfjlkfaa
