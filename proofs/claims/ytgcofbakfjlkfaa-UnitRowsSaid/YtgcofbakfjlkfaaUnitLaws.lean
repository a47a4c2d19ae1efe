import Derived.Test.YtgcofbakfjlkfaaUnitRows
import Derived.Test.YtgcofbakfjlkfaaWords
/- The chapter's examples hold, in any world. -/
namespace Go.Proofs.Ytgcofbakfjlkfaa
open Go.RowKit
set_option linter.unusedVariables false
set_option linter.unusedSimpArgs false
set_option maxHeartbeats 400000 in
theorem awake_any (w : World) : Calls Try.prog 19 #[] w fun e w' => e = .returned (.bool true) ∧ Below w.heap.size w w' := by
  have c1 : lim 2199023255552 = 1099511627776 := by decide
  have c2 : lim (-2199023255552) = -1099511627776 := by decide
  have c3 : lim (lim (-1099511627776) - lim 1) = -1099511627776 := by decide
  have c4 : mulL 1073741824 1073741824 = 1099511627776 := by decide
  have c5 : partsN 10 3 = 4 ∧ partsB 10 3 = true ∧ partsN 0 3 = 0 ∧ partsB 0 3 = true ∧ partsB 3 0 = false := by decide
  have c6 : pixW 130 = 2 ∧ pixR 130 = 2 ∧ pixW (-1) = -1 ∧ pixR (-1) = 63 := by decide
  have c7 : sumL [1099511627776, 1, -1] = 1099511627775 ∧ leastL [3, 1, 2] = 1 ∧ greatestL [] = 0 ∧ lim 1 = 1 ∧ lim 0 = 0 := by decide
  obtain ⟨c51, c52, c53, c54, c55⟩ := c5
  obtain ⟨c61, c62, c63, c64⟩ := c6
  obtain ⟨c71, c72, c73, c74, c75⟩ := c7
  have c8 : lim (-1099511627776) = -1099511627776 := by decide
  have c9 : lim (-1099511627777) = -1099511627776 := by decide
  go_enter Try.func19, Try.ntmps19
  go_wp2_with (first
    | (go_at_call 11; refine (clamp_any _ _).mono ?_; rintro e w' ⟨rfl, rfl⟩)
    | (go_at_call 7; refine (parts_any _ _ _).mono ?_; rintro e w' ⟨rfl, rfl⟩)
    | (go_at_call 9; refine (pixels_any _ _).mono ?_; rintro e w' ⟨rfl, rfl⟩)
    | (go_at_call 13; refine (may_any _ _).mono ?_; rintro e w' ⟨rfl, rfl⟩)
    | (go_at_call 16; refine (sub_any _ _ _).mono ?_; rintro e w' ⟨rfl, rfl⟩)
    | (go_at_call 17; refine (mul_any _ _ _).mono ?_; rintro e w' ⟨rfl, rfl⟩))
  refine (add_any _ _ _ _ _ (Ints.new3' _ _ _ _ _ _ rfl)).mono ?_
  rintro e w' ⟨rfl, rfl⟩
  go_wp2_with (first
    | (go_at_call 16; refine (sub_any _ _ _).mono ?_; rintro e w' ⟨rfl, rfl⟩)
    | (go_at_call 17; refine (mul_any _ _ _).mono ?_; rintro e w' ⟨rfl, rfl⟩))
  refine (least_any _ _ _ _ _ (Ints.new3' _ _ _ _ _ _ (by simp))).mono ?_
  rintro e w' ⟨rfl, rfl⟩
  go_wp2_with (go_at_call 22; refine (greatest_any _ _ _ _ _ (Ints.nil _ _)).mono ?_; rintro e w' ⟨rfl, rfl⟩)
  go_ret
  exact ⟨rfl, by go_grown⟩

end Go.Proofs.Ytgcofbakfjlkfaa
