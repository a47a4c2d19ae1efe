import Derived.Test.YtamakeogaipdiaaJA03
/- The document's answer for package lex: the size of a character. -/
namespace Go.Proofs.Ytamakeogaipdiaa
open Go.RowKit
set_option linter.unusedVariables false
set_option linter.unusedSimpArgs false
set_option maxRecDepth 100000 in
set_option maxHeartbeats 2000000 in
theorem size_any (s : ByteArray) (k : Nat) (w : World) (hk : k ≤ 800000) (hs : s.size ≤ 800000) : Calls Try.prog 54 #[.string s, .int .i64 k] w fun e w' => e = .returned (.int .i64 (sizeB s k)) ∧ w = w' := by
  have hs2 : s.size ≤ 1000000 := by omega
  rcases byte_classes s k with ⟨c0, c1, c2, c3, c4, c5, c6, c7, c8⟩ | ⟨c0, c1, c2, c3, c4, c5, c6, c7, c8⟩ | ⟨c0, c1, c2, c3, c4, c5, c6, c7, c8⟩ | ⟨c0, c1, c2, c3, c4, c5, c6, c7, c8⟩ | ⟨c0, c1, c2, c3, c4, c5, c6, c7, c8⟩ | ⟨c0, c1, c2, c3, c4, c5, c6, c7, c8⟩ | ⟨c0, c1, c2, c3, c4, c5, c6, c7, c8⟩ | ⟨c0, c1, c2, c3, c4, c5, c6, c7, c8⟩ | ⟨c0, c1, c2, c3, c4, c5, c6, c7, c8⟩ | ⟨c0, c1, c2, c3, c4, c5, c6, c7, c8⟩
  all_goals
    generalize hr : sizeB s k = r
    unfold sizeB at hr
    simp only [c0, c1, c2, c3, c4, c5, c6, c7, c8, Bool.false_and, Bool.true_and, Bool.false_or, Bool.or_false, Bool.false_eq_true, if_false, if_true] at hr
  · all_goals
      subst hr
      go_enter Try.func54, Try.ntmps54
      go_wp2_with (first
        | (go_at_call 55; with_reducible refine (in_any s k _ _ _ (by omega) hs2).mono ?_; rintro e w' ⟨rfl, rfl⟩)
        | (go_at_call 55; with_reducible refine (in_k1 s k _ _ _ hk hs2).mono ?_; rintro e w' ⟨rfl, rfl⟩)
        | (go_at_call 66; with_reducible refine (more_k1_1 s k _ hk hs2).mono ?_; rintro e w' ⟨rfl, rfl⟩)
        | (go_at_call 66; with_reducible refine (more_k1_2 s k _ hk hs2).mono ?_; rintro e w' ⟨rfl, rfl⟩)
        | (go_at_call 66; with_reducible refine (more_k1_3 s k _ hk hs2).mono ?_; rintro e w' ⟨rfl, rfl⟩)
        | (go_at_call 66; with_reducible refine (more_k2_1 s k _ hk hs2).mono ?_; rintro e w' ⟨rfl, rfl⟩)
        | (go_at_call 66; with_reducible refine (more_k2_2 s k _ hk hs2).mono ?_; rintro e w' ⟨rfl, rfl⟩)
        | (go_at_call 66; with_reducible refine (more_k2_3 s k _ hk hs2).mono ?_; rintro e w' ⟨rfl, rfl⟩))
      go_ret
      exact ⟨rfl, rfl⟩
  · all_goals
      subst hr
      go_enter Try.func54, Try.ntmps54
      go_wp2_with (first
        | (go_at_call 55; with_reducible refine (in_any s k _ _ _ (by omega) hs2).mono ?_; rintro e w' ⟨rfl, rfl⟩)
        | (go_at_call 55; with_reducible refine (in_k1 s k _ _ _ hk hs2).mono ?_; rintro e w' ⟨rfl, rfl⟩)
        | (go_at_call 66; with_reducible refine (more_k1_1 s k _ hk hs2).mono ?_; rintro e w' ⟨rfl, rfl⟩)
        | (go_at_call 66; with_reducible refine (more_k1_2 s k _ hk hs2).mono ?_; rintro e w' ⟨rfl, rfl⟩)
        | (go_at_call 66; with_reducible refine (more_k1_3 s k _ hk hs2).mono ?_; rintro e w' ⟨rfl, rfl⟩)
        | (go_at_call 66; with_reducible refine (more_k2_1 s k _ hk hs2).mono ?_; rintro e w' ⟨rfl, rfl⟩)
        | (go_at_call 66; with_reducible refine (more_k2_2 s k _ hk hs2).mono ?_; rintro e w' ⟨rfl, rfl⟩)
        | (go_at_call 66; with_reducible refine (more_k2_3 s k _ hk hs2).mono ?_; rintro e w' ⟨rfl, rfl⟩))
      go_ret
      exact ⟨rfl, rfl⟩
  · obtain ⟨v0, m0⟩ : ∃ v, moreB s (k + 1) 1 = v := ⟨_, rfl⟩
    cases v0
    all_goals
      simp only [m0, Bool.false_and, Bool.true_and, Bool.and_true, Bool.and_false, Bool.false_eq_true, if_false, if_true] at hr
      subst hr
      go_enter Try.func54, Try.ntmps54
      go_wp2_with (first
        | (go_at_call 55; with_reducible refine (in_any s k _ _ _ (by omega) hs2).mono ?_; rintro e w' ⟨rfl, rfl⟩)
        | (go_at_call 55; with_reducible refine (in_k1 s k _ _ _ hk hs2).mono ?_; rintro e w' ⟨rfl, rfl⟩)
        | (go_at_call 66; with_reducible refine (more_k1_1 s k _ hk hs2).mono ?_; rintro e w' ⟨rfl, rfl⟩)
        | (go_at_call 66; with_reducible refine (more_k1_2 s k _ hk hs2).mono ?_; rintro e w' ⟨rfl, rfl⟩)
        | (go_at_call 66; with_reducible refine (more_k1_3 s k _ hk hs2).mono ?_; rintro e w' ⟨rfl, rfl⟩)
        | (go_at_call 66; with_reducible refine (more_k2_1 s k _ hk hs2).mono ?_; rintro e w' ⟨rfl, rfl⟩)
        | (go_at_call 66; with_reducible refine (more_k2_2 s k _ hk hs2).mono ?_; rintro e w' ⟨rfl, rfl⟩)
        | (go_at_call 66; with_reducible refine (more_k2_3 s k _ hk hs2).mono ?_; rintro e w' ⟨rfl, rfl⟩))
      go_ret
      exact ⟨rfl, rfl⟩
  · obtain ⟨v0, m0⟩ : ∃ v, inB s (k + 1) 160 191 = v := ⟨_, rfl⟩
    obtain ⟨v1, m1⟩ : ∃ v, moreB s (k + 2) 1 = v := ⟨_, rfl⟩
    cases v0 <;> cases v1
    all_goals
      simp only [m0, m1, Bool.false_and, Bool.true_and, Bool.and_true, Bool.and_false, Bool.false_eq_true, if_false, if_true] at hr
      subst hr
      go_enter Try.func54, Try.ntmps54
      go_wp2_with (first
        | (go_at_call 55; with_reducible refine (in_any s k _ _ _ (by omega) hs2).mono ?_; rintro e w' ⟨rfl, rfl⟩)
        | (go_at_call 55; with_reducible refine (in_k1 s k _ _ _ hk hs2).mono ?_; rintro e w' ⟨rfl, rfl⟩)
        | (go_at_call 66; with_reducible refine (more_k1_1 s k _ hk hs2).mono ?_; rintro e w' ⟨rfl, rfl⟩)
        | (go_at_call 66; with_reducible refine (more_k1_2 s k _ hk hs2).mono ?_; rintro e w' ⟨rfl, rfl⟩)
        | (go_at_call 66; with_reducible refine (more_k1_3 s k _ hk hs2).mono ?_; rintro e w' ⟨rfl, rfl⟩)
        | (go_at_call 66; with_reducible refine (more_k2_1 s k _ hk hs2).mono ?_; rintro e w' ⟨rfl, rfl⟩)
        | (go_at_call 66; with_reducible refine (more_k2_2 s k _ hk hs2).mono ?_; rintro e w' ⟨rfl, rfl⟩)
        | (go_at_call 66; with_reducible refine (more_k2_3 s k _ hk hs2).mono ?_; rintro e w' ⟨rfl, rfl⟩))
      go_ret
      exact ⟨rfl, rfl⟩
  · obtain ⟨v0, m0⟩ : ∃ v, moreB s (k + 1) 2 = v := ⟨_, rfl⟩
    cases v0
    all_goals
      simp only [m0, Bool.false_and, Bool.true_and, Bool.and_true, Bool.and_false, Bool.false_eq_true, if_false, if_true] at hr
      subst hr
      go_enter Try.func54, Try.ntmps54
      go_wp2_with (first
        | (go_at_call 55; with_reducible refine (in_any s k _ _ _ (by omega) hs2).mono ?_; rintro e w' ⟨rfl, rfl⟩)
        | (go_at_call 55; with_reducible refine (in_k1 s k _ _ _ hk hs2).mono ?_; rintro e w' ⟨rfl, rfl⟩)
        | (go_at_call 66; with_reducible refine (more_k1_1 s k _ hk hs2).mono ?_; rintro e w' ⟨rfl, rfl⟩)
        | (go_at_call 66; with_reducible refine (more_k1_2 s k _ hk hs2).mono ?_; rintro e w' ⟨rfl, rfl⟩)
        | (go_at_call 66; with_reducible refine (more_k1_3 s k _ hk hs2).mono ?_; rintro e w' ⟨rfl, rfl⟩)
        | (go_at_call 66; with_reducible refine (more_k2_1 s k _ hk hs2).mono ?_; rintro e w' ⟨rfl, rfl⟩)
        | (go_at_call 66; with_reducible refine (more_k2_2 s k _ hk hs2).mono ?_; rintro e w' ⟨rfl, rfl⟩)
        | (go_at_call 66; with_reducible refine (more_k2_3 s k _ hk hs2).mono ?_; rintro e w' ⟨rfl, rfl⟩))
      go_ret
      exact ⟨rfl, rfl⟩
  · obtain ⟨v0, m0⟩ : ∃ v, inB s (k + 1) 128 159 = v := ⟨_, rfl⟩
    obtain ⟨v1, m1⟩ : ∃ v, moreB s (k + 2) 1 = v := ⟨_, rfl⟩
    cases v0 <;> cases v1
    all_goals
      simp only [m0, m1, Bool.false_and, Bool.true_and, Bool.and_true, Bool.and_false, Bool.false_eq_true, if_false, if_true] at hr
      subst hr
      go_enter Try.func54, Try.ntmps54
      go_wp2_with (first
        | (go_at_call 55; with_reducible refine (in_any s k _ _ _ (by omega) hs2).mono ?_; rintro e w' ⟨rfl, rfl⟩)
        | (go_at_call 55; with_reducible refine (in_k1 s k _ _ _ hk hs2).mono ?_; rintro e w' ⟨rfl, rfl⟩)
        | (go_at_call 66; with_reducible refine (more_k1_1 s k _ hk hs2).mono ?_; rintro e w' ⟨rfl, rfl⟩)
        | (go_at_call 66; with_reducible refine (more_k1_2 s k _ hk hs2).mono ?_; rintro e w' ⟨rfl, rfl⟩)
        | (go_at_call 66; with_reducible refine (more_k1_3 s k _ hk hs2).mono ?_; rintro e w' ⟨rfl, rfl⟩)
        | (go_at_call 66; with_reducible refine (more_k2_1 s k _ hk hs2).mono ?_; rintro e w' ⟨rfl, rfl⟩)
        | (go_at_call 66; with_reducible refine (more_k2_2 s k _ hk hs2).mono ?_; rintro e w' ⟨rfl, rfl⟩)
        | (go_at_call 66; with_reducible refine (more_k2_3 s k _ hk hs2).mono ?_; rintro e w' ⟨rfl, rfl⟩))
      go_ret
      exact ⟨rfl, rfl⟩
  · obtain ⟨v0, m0⟩ : ∃ v, moreB s (k + 1) 2 = v := ⟨_, rfl⟩
    cases v0
    all_goals
      simp only [m0, Bool.false_and, Bool.true_and, Bool.and_true, Bool.and_false, Bool.false_eq_true, if_false, if_true] at hr
      subst hr
      go_enter Try.func54, Try.ntmps54
      go_wp2_with (first
        | (go_at_call 55; with_reducible refine (in_any s k _ _ _ (by omega) hs2).mono ?_; rintro e w' ⟨rfl, rfl⟩)
        | (go_at_call 55; with_reducible refine (in_k1 s k _ _ _ hk hs2).mono ?_; rintro e w' ⟨rfl, rfl⟩)
        | (go_at_call 66; with_reducible refine (more_k1_1 s k _ hk hs2).mono ?_; rintro e w' ⟨rfl, rfl⟩)
        | (go_at_call 66; with_reducible refine (more_k1_2 s k _ hk hs2).mono ?_; rintro e w' ⟨rfl, rfl⟩)
        | (go_at_call 66; with_reducible refine (more_k1_3 s k _ hk hs2).mono ?_; rintro e w' ⟨rfl, rfl⟩)
        | (go_at_call 66; with_reducible refine (more_k2_1 s k _ hk hs2).mono ?_; rintro e w' ⟨rfl, rfl⟩)
        | (go_at_call 66; with_reducible refine (more_k2_2 s k _ hk hs2).mono ?_; rintro e w' ⟨rfl, rfl⟩)
        | (go_at_call 66; with_reducible refine (more_k2_3 s k _ hk hs2).mono ?_; rintro e w' ⟨rfl, rfl⟩))
      go_ret
      exact ⟨rfl, rfl⟩
  · obtain ⟨v0, m0⟩ : ∃ v, inB s (k + 1) 144 191 = v := ⟨_, rfl⟩
    obtain ⟨v1, m1⟩ : ∃ v, moreB s (k + 2) 2 = v := ⟨_, rfl⟩
    cases v0 <;> cases v1
    all_goals
      simp only [m0, m1, Bool.false_and, Bool.true_and, Bool.and_true, Bool.and_false, Bool.false_eq_true, if_false, if_true] at hr
      subst hr
      go_enter Try.func54, Try.ntmps54
      go_wp2_with (first
        | (go_at_call 55; with_reducible refine (in_any s k _ _ _ (by omega) hs2).mono ?_; rintro e w' ⟨rfl, rfl⟩)
        | (go_at_call 55; with_reducible refine (in_k1 s k _ _ _ hk hs2).mono ?_; rintro e w' ⟨rfl, rfl⟩)
        | (go_at_call 66; with_reducible refine (more_k1_1 s k _ hk hs2).mono ?_; rintro e w' ⟨rfl, rfl⟩)
        | (go_at_call 66; with_reducible refine (more_k1_2 s k _ hk hs2).mono ?_; rintro e w' ⟨rfl, rfl⟩)
        | (go_at_call 66; with_reducible refine (more_k1_3 s k _ hk hs2).mono ?_; rintro e w' ⟨rfl, rfl⟩)
        | (go_at_call 66; with_reducible refine (more_k2_1 s k _ hk hs2).mono ?_; rintro e w' ⟨rfl, rfl⟩)
        | (go_at_call 66; with_reducible refine (more_k2_2 s k _ hk hs2).mono ?_; rintro e w' ⟨rfl, rfl⟩)
        | (go_at_call 66; with_reducible refine (more_k2_3 s k _ hk hs2).mono ?_; rintro e w' ⟨rfl, rfl⟩))
      go_ret
      exact ⟨rfl, rfl⟩
  · obtain ⟨v0, m0⟩ : ∃ v, moreB s (k + 1) 3 = v := ⟨_, rfl⟩
    cases v0
    all_goals
      simp only [m0, Bool.false_and, Bool.true_and, Bool.and_true, Bool.and_false, Bool.false_eq_true, if_false, if_true] at hr
      subst hr
      go_enter Try.func54, Try.ntmps54
      go_wp2_with (first
        | (go_at_call 55; with_reducible refine (in_any s k _ _ _ (by omega) hs2).mono ?_; rintro e w' ⟨rfl, rfl⟩)
        | (go_at_call 55; with_reducible refine (in_k1 s k _ _ _ hk hs2).mono ?_; rintro e w' ⟨rfl, rfl⟩)
        | (go_at_call 66; with_reducible refine (more_k1_1 s k _ hk hs2).mono ?_; rintro e w' ⟨rfl, rfl⟩)
        | (go_at_call 66; with_reducible refine (more_k1_2 s k _ hk hs2).mono ?_; rintro e w' ⟨rfl, rfl⟩)
        | (go_at_call 66; with_reducible refine (more_k1_3 s k _ hk hs2).mono ?_; rintro e w' ⟨rfl, rfl⟩)
        | (go_at_call 66; with_reducible refine (more_k2_1 s k _ hk hs2).mono ?_; rintro e w' ⟨rfl, rfl⟩)
        | (go_at_call 66; with_reducible refine (more_k2_2 s k _ hk hs2).mono ?_; rintro e w' ⟨rfl, rfl⟩)
        | (go_at_call 66; with_reducible refine (more_k2_3 s k _ hk hs2).mono ?_; rintro e w' ⟨rfl, rfl⟩))
      go_ret
      exact ⟨rfl, rfl⟩
  · obtain ⟨v0, m0⟩ : ∃ v, inB s (k + 1) 128 143 = v := ⟨_, rfl⟩
    obtain ⟨v1, m1⟩ : ∃ v, moreB s (k + 2) 2 = v := ⟨_, rfl⟩
    cases v0 <;> cases v1
    all_goals
      simp only [m0, m1, Bool.false_and, Bool.true_and, Bool.and_true, Bool.and_false, Bool.false_eq_true, if_false, if_true] at hr
      subst hr
      go_enter Try.func54, Try.ntmps54
      go_wp2_with (first
        | (go_at_call 55; with_reducible refine (in_any s k _ _ _ (by omega) hs2).mono ?_; rintro e w' ⟨rfl, rfl⟩)
        | (go_at_call 55; with_reducible refine (in_k1 s k _ _ _ hk hs2).mono ?_; rintro e w' ⟨rfl, rfl⟩)
        | (go_at_call 66; with_reducible refine (more_k1_1 s k _ hk hs2).mono ?_; rintro e w' ⟨rfl, rfl⟩)
        | (go_at_call 66; with_reducible refine (more_k1_2 s k _ hk hs2).mono ?_; rintro e w' ⟨rfl, rfl⟩)
        | (go_at_call 66; with_reducible refine (more_k1_3 s k _ hk hs2).mono ?_; rintro e w' ⟨rfl, rfl⟩)
        | (go_at_call 66; with_reducible refine (more_k2_1 s k _ hk hs2).mono ?_; rintro e w' ⟨rfl, rfl⟩)
        | (go_at_call 66; with_reducible refine (more_k2_2 s k _ hk hs2).mono ?_; rintro e w' ⟨rfl, rfl⟩)
        | (go_at_call 66; with_reducible refine (more_k2_3 s k _ hk hs2).mono ?_; rintro e w' ⟨rfl, rfl⟩))
      go_ret
      exact ⟨rfl, rfl⟩
end Go.Proofs.Ytamakeogaipdiaa
