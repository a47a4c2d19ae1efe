import Derived.Test.YtideikbijjheeaaPlacePlaced
import Derived.Test.YtideikbijjheeaaPlacePut
import Derived.Lib.SliceRun
/- slices.Clone of floats. -/
namespace Go.Proofs.Ytideikbijjheeaa
open Go.RowKit
set_option linter.unusedVariables false
set_option linter.unusedSimpArgs false
set_option maxHeartbeats 2000000 in
theorem clone11_to {l : List Fl} {A : Option Addr} {n c : Nat} {w : World} (h : Rows 7 encFl w A n l) (hn : n ≤ 1000) :
    Calls Try.prog 17 #[.slice A n c] w fun e w' => ∃ A' c', e = .returned (.slice A' n c') ∧ w'.ownsRow w.heap.size 24 7 (.slice A' n c') n (l.flatMap encFl) ∧ Below w.heap.size w w' := by
  have HA := Lib.hid h
  have HL := Lib.hid h.1
  obtain ⟨i0, hi0, hz0, hz1, hz2⟩ := info_parts fl_info'
  cases A with
  | none =>
    have hn0 : n = 0 := by
      rcases Nat.eq_zero_or_pos n with h0 | h0
      · exact h0
      · obtain ⟨b, off, e, _⟩ := h.2.2 h0
        cases e
    subst hn0
    have hl : l = [] := List.eq_nil_of_length_eq_zero HL.out
    subst hl
    clear h
    have he : ∀ w : World, (binOp .eql 22 (.slice none 0 c) (.slice none 0 0)).run Try.prog w = .ok (.bool true) w := fun w => Lib.run_eql_slice_nil (P := Try.prog) w _ _ _ _ _ _ _ Try.underlying22
    go_enter Try.func17, Try.ntmps17
    go_wp2_with fail
    go_ret
    exact ⟨_, _, rfl, owns_nil _ _ _ _, Below.refl _ _⟩
  | some p =>
    clear h
    have he : ∀ w : World, (binOp .eql 22 (.slice (some p) n c) (.slice none 0 0)).run Try.prog w = .ok (.bool false) w := fun w => Lib.run_eql_slice_nil (P := Try.prog) w _ _ _ _ _ _ _ Try.underlying22
    go_enter Try.func17, Try.ntmps17
    go_wp2_with ((with_reducible refine stop_dst 7 ?_ ?_); exact rfl)
    refine Stop.intro ?_
    have hO : (w.alloc (.cells #[] 24)).ownsRow w.heap.size 24 7 (.slice (some ⟨w.heap.size, 0, none⟩) 0 0) 0 [] := World.ownsRow_made w #[] 0 (Nat.le_refl _) (by decide) rfl
    have hC : Cells (w.alloc (.cells #[] 24)) (some p) n 7 (l.flatMap encFl) := (HA.out.below ((Below.refl _ _).alloc (Nat.le_refl _) _)).cells encFl_len (by decide)
    refine wpList_append_cells _ rfl (.tmp 5) (.tmp 6) _ rfl w.heap.size 24 i0 (.agg #[.int .i64 0, .int .i64 0, .int .i64 0, .int .i64 0, .int .i64 0, .int .i64 0, .int .i64 0]) 7 56 Try.underlying22 hi0 hz0 hz1 hz2 rfl (by decide) _ 0 [] rfl hO (some p) n c _ rfl hC (fls_one' l) (by unfold maxLen; omega) (by omega) (by simp) ?_
    intro A1 c1 w2 hown1 hg1
    simp only [Nat.zero_add, List.nil_append] at hown1
    have hb1 : Below w.heap.size w w2 := ((Below.refl _ _).alloc (Nat.le_refl _) _).grown hg1 (by simp) (by intro k hk; cases hk; exact Nat.le_refl _)
    clear hg1 hO hC hi0 hz0 hz1 hz2 he
    go_wp2_with fail
    go_ret
    exact ⟨A1, c1, rfl, hown1, hb1⟩
end Go.Proofs.Ytideikbijjheeaa
