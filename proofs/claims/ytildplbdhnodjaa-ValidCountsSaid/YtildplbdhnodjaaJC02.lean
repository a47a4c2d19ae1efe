import Derived.Test.YtildplbdhnodjaaJC00
import Derived.Test.YtildplbdhnodjaaRows
import Derived.Test.YtildplbdhnodjaaJC01
import Derived.OwnWalk
import Derived.Deep.QuietTactic
import Derived.BigQuiet
import Derived.Lib.MinMax
/- The document's answers for package lex: one byte, and the size of a character. -/
namespace Go.Proofs.Ytildplbdhnodjaa
open Go.RowKit
set_option linter.unusedVariables false
set_option linter.unusedSimpArgs false
theorem in_any (s : ByteArray) (k : Nat) (a b : Int) (w : World) (hk : k ≤ 1000000) (hs : s.size ≤ 1000000) : Calls Try.prog 33 #[.string s, .int .i64 k, .int .u8 a, .int .u8 b] w fun e w' => e = .returned (.bool (inB s k a b)) ∧ w = w' := by
  by_cases h1 : k < s.size
  · have hb := bAt_get s k h1
    have h2 : (k : Int) < (s.size : Int) := by omega
    by_cases h3 : a ≤ bAt s k
    all_goals
      go_enter Try.func33, Try.ntmps33
      go_wp2
      go_ret
      exact ⟨ret_bool (by rw [inB_at h1]; first | (simp [h3]; done) | (rw [decide_eq_false (show ¬ a ≤ bAt s k by omega)]; rfl)), rfl⟩
  · have h2 : (s.size : Int) ≤ (k : Int) := by omega
    go_enter Try.func33, Try.ntmps33
    go_wp2
    go_ret
    exact ⟨ret_bool (inB_ge h1 a b).symm, rfl⟩
theorem in_at {s : ByteArray} {x : Int} {k : Nat} (hx : x = (k : Int)) (a b : Int) (w : World) (hk : k ≤ 1000000) (hs : s.size ≤ 1000000) : Calls Try.prog 33 #[.string s, .int .i64 x, .int .u8 a, .int .u8 b] w fun e w' => e = .returned (.bool (inB s k a b)) ∧ w = w' := by
  subst hx; exact in_any s k a b w hk hs
theorem more_any (s : ByteArray) (k n : Nat) (w : World) (hk : k ≤ 900000) (hn : n ≤ 3) (hs : s.size ≤ 1000000) : Calls Try.prog 46 #[.string s, .int .i64 k, .int .i64 n] w fun e w' => e = .returned (.bool (moreB s k n)) ∧ w = w' := by
  go_enter Try.func46, Try.ntmps46
  go_wp2_with fail
  go_loopw [7] (fun i wr => ∃ j : Nat, j ≤ n ∧ i = .int .i64 j ∧ moreB s k j = true ∧ wr = w) (fun i _ => n - (intOf i).toNat)
  case atStart => exact ⟨0, by omega, rfl, rfl, rfl⟩
  case round =>
    obtain ⟨j, hj, rfl, hm, rfl⟩ := hrel
    have HM := Lib.hid hm
    clear hm
    by_cases hlt : j < n
    · obtain ⟨v, hv⟩ : ∃ v, inB s (k + j) 128 191 = v := ⟨_, rfl⟩
      cases v
      · have HN := Lib.hid (moreB_no (i := k) hlt hv)
        go_wp2_with (go_at_call 33; refine (in_at (k := k + j) (by omega) _ _ _ (by omega) hs).mono ?_; rintro e w' ⟨rfl, rfl⟩)
        go_ret
        exact ⟨ret_bool HN.out.symm, rfl⟩
      · have HN := Lib.hid (show moreB s k (j + 1) = true by show (moreB s k j && inB s (k + j) 128 191) = true; rw [HM.out, hv]; rfl)
        go_wp2_with (go_at_call 33; refine (in_at (k := k + j) (by omega) _ _ _ (by omega) hs).mono ?_; rintro e w' ⟨rfl, rfl⟩)
        go_roundw
        case rel => exact ⟨j + 1, by omega, by go_num, HN.out, by first | rfl | trivial⟩
        case measure => simp [intOf]; omega
    · obtain rfl : j = n := by omega
      go_wp2_with fail
      go_ret
      exact ⟨ret_bool HM.out.symm, rfl⟩
theorem more_at {s : ByteArray} {x y : Int} {k n : Nat} (hx : x = (k : Int)) (hy : y = (n : Int)) (w : World) (hk : k ≤ 900000) (hn : n ≤ 3) (hs : s.size ≤ 1000000) : Calls Try.prog 46 #[.string s, .int .i64 x, .int .i64 y] w fun e w' => e = .returned (.bool (moreB s k n)) ∧ w = w' := by
  subst hx hy; exact more_any s k n w hk hn hs
theorem in_k1 (s : ByteArray) (k : Nat) (a b : Int) (w : World) (hk : k ≤ 800000) (hs : s.size ≤ 1000000) : Calls Try.prog 33 #[.string s, .int .i64 ((k : Int) + 1), .int .u8 a, .int .u8 b] w fun e w' => e = .returned (.bool (inB s (k + 1) a b)) ∧ w = w' := in_at (by omega) a b w (by omega) hs
theorem more_k1_1 (s : ByteArray) (k : Nat) (w : World) (hk : k ≤ 800000) (hs : s.size ≤ 1000000) : Calls Try.prog 46 #[.string s, .int .i64 ((k : Int) + 1), .int .i64 1] w fun e w' => e = .returned (.bool (moreB s (k + 1) 1)) ∧ w = w' := more_at (by omega) (by omega) w (by omega) (by omega) hs
theorem more_k1_2 (s : ByteArray) (k : Nat) (w : World) (hk : k ≤ 800000) (hs : s.size ≤ 1000000) : Calls Try.prog 46 #[.string s, .int .i64 ((k : Int) + 1), .int .i64 2] w fun e w' => e = .returned (.bool (moreB s (k + 1) 2)) ∧ w = w' := more_at (by omega) (by omega) w (by omega) (by omega) hs
theorem more_k1_3 (s : ByteArray) (k : Nat) (w : World) (hk : k ≤ 800000) (hs : s.size ≤ 1000000) : Calls Try.prog 46 #[.string s, .int .i64 ((k : Int) + 1), .int .i64 3] w fun e w' => e = .returned (.bool (moreB s (k + 1) 3)) ∧ w = w' := more_at (by omega) (by omega) w (by omega) (by omega) hs
theorem more_k2_1 (s : ByteArray) (k : Nat) (w : World) (hk : k ≤ 800000) (hs : s.size ≤ 1000000) : Calls Try.prog 46 #[.string s, .int .i64 ((k : Int) + 2), .int .i64 1] w fun e w' => e = .returned (.bool (moreB s (k + 2) 1)) ∧ w = w' := more_at (by omega) (by omega) w (by omega) (by omega) hs
theorem more_k2_2 (s : ByteArray) (k : Nat) (w : World) (hk : k ≤ 800000) (hs : s.size ≤ 1000000) : Calls Try.prog 46 #[.string s, .int .i64 ((k : Int) + 2), .int .i64 2] w fun e w' => e = .returned (.bool (moreB s (k + 2) 2)) ∧ w = w' := more_at (by omega) (by omega) w (by omega) (by omega) hs
theorem more_k2_3 (s : ByteArray) (k : Nat) (w : World) (hk : k ≤ 800000) (hs : s.size ≤ 1000000) : Calls Try.prog 46 #[.string s, .int .i64 ((k : Int) + 2), .int .i64 3] w fun e w' => e = .returned (.bool (moreB s (k + 2) 3)) ∧ w = w' := more_at (by omega) (by omega) w (by omega) (by omega) hs
end Go.Proofs.Ytildplbdhnodjaa
/- The document's answer for package lex: the size of a character. -/
namespace Go.Proofs.Ytildplbdhnodjaa
open Go.RowKit
set_option linter.unusedVariables false
set_option linter.unusedSimpArgs false
set_option maxRecDepth 100000 in
set_option maxHeartbeats 2000000 in
theorem size_any (s : ByteArray) (k : Nat) (w : World) (hk : k ≤ 800000) (hs : s.size ≤ 800000) : Calls Try.prog 32 #[.string s, .int .i64 k] w fun e w' => e = .returned (.int .i64 (sizeB s k)) ∧ w = w' := by
  have hs2 : s.size ≤ 1000000 := by omega
  rcases byte_classes s k with ⟨c0, c1, c2, c3, c4, c5, c6, c7, c8⟩ | ⟨c0, c1, c2, c3, c4, c5, c6, c7, c8⟩ | ⟨c0, c1, c2, c3, c4, c5, c6, c7, c8⟩ | ⟨c0, c1, c2, c3, c4, c5, c6, c7, c8⟩ | ⟨c0, c1, c2, c3, c4, c5, c6, c7, c8⟩ | ⟨c0, c1, c2, c3, c4, c5, c6, c7, c8⟩ | ⟨c0, c1, c2, c3, c4, c5, c6, c7, c8⟩ | ⟨c0, c1, c2, c3, c4, c5, c6, c7, c8⟩ | ⟨c0, c1, c2, c3, c4, c5, c6, c7, c8⟩ | ⟨c0, c1, c2, c3, c4, c5, c6, c7, c8⟩
  all_goals
    generalize hr : sizeB s k = r
    unfold sizeB at hr
    simp only [c0, c1, c2, c3, c4, c5, c6, c7, c8, Bool.false_and, Bool.true_and, Bool.false_or, Bool.or_false, Bool.false_eq_true, if_false, if_true] at hr
  · all_goals
      subst hr
      go_enter Try.func32, Try.ntmps32
      go_wp2_with (first
        | (go_at_call 33; with_reducible refine (in_any s k _ _ _ (by omega) hs2).mono ?_; rintro e w' ⟨rfl, rfl⟩)
        | (go_at_call 33; with_reducible refine (in_k1 s k _ _ _ hk hs2).mono ?_; rintro e w' ⟨rfl, rfl⟩)
        | (go_at_call 46; with_reducible refine (more_k1_1 s k _ hk hs2).mono ?_; rintro e w' ⟨rfl, rfl⟩)
        | (go_at_call 46; with_reducible refine (more_k1_2 s k _ hk hs2).mono ?_; rintro e w' ⟨rfl, rfl⟩)
        | (go_at_call 46; with_reducible refine (more_k1_3 s k _ hk hs2).mono ?_; rintro e w' ⟨rfl, rfl⟩)
        | (go_at_call 46; with_reducible refine (more_k2_1 s k _ hk hs2).mono ?_; rintro e w' ⟨rfl, rfl⟩)
        | (go_at_call 46; with_reducible refine (more_k2_2 s k _ hk hs2).mono ?_; rintro e w' ⟨rfl, rfl⟩)
        | (go_at_call 46; with_reducible refine (more_k2_3 s k _ hk hs2).mono ?_; rintro e w' ⟨rfl, rfl⟩))
      go_ret
      exact ⟨rfl, rfl⟩
  · all_goals
      subst hr
      go_enter Try.func32, Try.ntmps32
      go_wp2_with (first
        | (go_at_call 33; with_reducible refine (in_any s k _ _ _ (by omega) hs2).mono ?_; rintro e w' ⟨rfl, rfl⟩)
        | (go_at_call 33; with_reducible refine (in_k1 s k _ _ _ hk hs2).mono ?_; rintro e w' ⟨rfl, rfl⟩)
        | (go_at_call 46; with_reducible refine (more_k1_1 s k _ hk hs2).mono ?_; rintro e w' ⟨rfl, rfl⟩)
        | (go_at_call 46; with_reducible refine (more_k1_2 s k _ hk hs2).mono ?_; rintro e w' ⟨rfl, rfl⟩)
        | (go_at_call 46; with_reducible refine (more_k1_3 s k _ hk hs2).mono ?_; rintro e w' ⟨rfl, rfl⟩)
        | (go_at_call 46; with_reducible refine (more_k2_1 s k _ hk hs2).mono ?_; rintro e w' ⟨rfl, rfl⟩)
        | (go_at_call 46; with_reducible refine (more_k2_2 s k _ hk hs2).mono ?_; rintro e w' ⟨rfl, rfl⟩)
        | (go_at_call 46; with_reducible refine (more_k2_3 s k _ hk hs2).mono ?_; rintro e w' ⟨rfl, rfl⟩))
      go_ret
      exact ⟨rfl, rfl⟩
  · obtain ⟨v0, m0⟩ : ∃ v, moreB s (k + 1) 1 = v := ⟨_, rfl⟩
    cases v0
    all_goals
      simp only [m0, Bool.false_and, Bool.true_and, Bool.and_true, Bool.and_false, Bool.false_eq_true, if_false, if_true] at hr
      subst hr
      go_enter Try.func32, Try.ntmps32
      go_wp2_with (first
        | (go_at_call 33; with_reducible refine (in_any s k _ _ _ (by omega) hs2).mono ?_; rintro e w' ⟨rfl, rfl⟩)
        | (go_at_call 33; with_reducible refine (in_k1 s k _ _ _ hk hs2).mono ?_; rintro e w' ⟨rfl, rfl⟩)
        | (go_at_call 46; with_reducible refine (more_k1_1 s k _ hk hs2).mono ?_; rintro e w' ⟨rfl, rfl⟩)
        | (go_at_call 46; with_reducible refine (more_k1_2 s k _ hk hs2).mono ?_; rintro e w' ⟨rfl, rfl⟩)
        | (go_at_call 46; with_reducible refine (more_k1_3 s k _ hk hs2).mono ?_; rintro e w' ⟨rfl, rfl⟩)
        | (go_at_call 46; with_reducible refine (more_k2_1 s k _ hk hs2).mono ?_; rintro e w' ⟨rfl, rfl⟩)
        | (go_at_call 46; with_reducible refine (more_k2_2 s k _ hk hs2).mono ?_; rintro e w' ⟨rfl, rfl⟩)
        | (go_at_call 46; with_reducible refine (more_k2_3 s k _ hk hs2).mono ?_; rintro e w' ⟨rfl, rfl⟩))
      go_ret
      exact ⟨rfl, rfl⟩
  · obtain ⟨v0, m0⟩ : ∃ v, inB s (k + 1) 160 191 = v := ⟨_, rfl⟩
    obtain ⟨v1, m1⟩ : ∃ v, moreB s (k + 2) 1 = v := ⟨_, rfl⟩
    cases v0 <;> cases v1
    all_goals
      simp only [m0, m1, Bool.false_and, Bool.true_and, Bool.and_true, Bool.and_false, Bool.false_eq_true, if_false, if_true] at hr
      subst hr
      go_enter Try.func32, Try.ntmps32
      go_wp2_with (first
        | (go_at_call 33; with_reducible refine (in_any s k _ _ _ (by omega) hs2).mono ?_; rintro e w' ⟨rfl, rfl⟩)
        | (go_at_call 33; with_reducible refine (in_k1 s k _ _ _ hk hs2).mono ?_; rintro e w' ⟨rfl, rfl⟩)
        | (go_at_call 46; with_reducible refine (more_k1_1 s k _ hk hs2).mono ?_; rintro e w' ⟨rfl, rfl⟩)
        | (go_at_call 46; with_reducible refine (more_k1_2 s k _ hk hs2).mono ?_; rintro e w' ⟨rfl, rfl⟩)
        | (go_at_call 46; with_reducible refine (more_k1_3 s k _ hk hs2).mono ?_; rintro e w' ⟨rfl, rfl⟩)
        | (go_at_call 46; with_reducible refine (more_k2_1 s k _ hk hs2).mono ?_; rintro e w' ⟨rfl, rfl⟩)
        | (go_at_call 46; with_reducible refine (more_k2_2 s k _ hk hs2).mono ?_; rintro e w' ⟨rfl, rfl⟩)
        | (go_at_call 46; with_reducible refine (more_k2_3 s k _ hk hs2).mono ?_; rintro e w' ⟨rfl, rfl⟩))
      go_ret
      exact ⟨rfl, rfl⟩
  · obtain ⟨v0, m0⟩ : ∃ v, moreB s (k + 1) 2 = v := ⟨_, rfl⟩
    cases v0
    all_goals
      simp only [m0, Bool.false_and, Bool.true_and, Bool.and_true, Bool.and_false, Bool.false_eq_true, if_false, if_true] at hr
      subst hr
      go_enter Try.func32, Try.ntmps32
      go_wp2_with (first
        | (go_at_call 33; with_reducible refine (in_any s k _ _ _ (by omega) hs2).mono ?_; rintro e w' ⟨rfl, rfl⟩)
        | (go_at_call 33; with_reducible refine (in_k1 s k _ _ _ hk hs2).mono ?_; rintro e w' ⟨rfl, rfl⟩)
        | (go_at_call 46; with_reducible refine (more_k1_1 s k _ hk hs2).mono ?_; rintro e w' ⟨rfl, rfl⟩)
        | (go_at_call 46; with_reducible refine (more_k1_2 s k _ hk hs2).mono ?_; rintro e w' ⟨rfl, rfl⟩)
        | (go_at_call 46; with_reducible refine (more_k1_3 s k _ hk hs2).mono ?_; rintro e w' ⟨rfl, rfl⟩)
        | (go_at_call 46; with_reducible refine (more_k2_1 s k _ hk hs2).mono ?_; rintro e w' ⟨rfl, rfl⟩)
        | (go_at_call 46; with_reducible refine (more_k2_2 s k _ hk hs2).mono ?_; rintro e w' ⟨rfl, rfl⟩)
        | (go_at_call 46; with_reducible refine (more_k2_3 s k _ hk hs2).mono ?_; rintro e w' ⟨rfl, rfl⟩))
      go_ret
      exact ⟨rfl, rfl⟩
  · obtain ⟨v0, m0⟩ : ∃ v, inB s (k + 1) 128 159 = v := ⟨_, rfl⟩
    obtain ⟨v1, m1⟩ : ∃ v, moreB s (k + 2) 1 = v := ⟨_, rfl⟩
    cases v0 <;> cases v1
    all_goals
      simp only [m0, m1, Bool.false_and, Bool.true_and, Bool.and_true, Bool.and_false, Bool.false_eq_true, if_false, if_true] at hr
      subst hr
      go_enter Try.func32, Try.ntmps32
      go_wp2_with (first
        | (go_at_call 33; with_reducible refine (in_any s k _ _ _ (by omega) hs2).mono ?_; rintro e w' ⟨rfl, rfl⟩)
        | (go_at_call 33; with_reducible refine (in_k1 s k _ _ _ hk hs2).mono ?_; rintro e w' ⟨rfl, rfl⟩)
        | (go_at_call 46; with_reducible refine (more_k1_1 s k _ hk hs2).mono ?_; rintro e w' ⟨rfl, rfl⟩)
        | (go_at_call 46; with_reducible refine (more_k1_2 s k _ hk hs2).mono ?_; rintro e w' ⟨rfl, rfl⟩)
        | (go_at_call 46; with_reducible refine (more_k1_3 s k _ hk hs2).mono ?_; rintro e w' ⟨rfl, rfl⟩)
        | (go_at_call 46; with_reducible refine (more_k2_1 s k _ hk hs2).mono ?_; rintro e w' ⟨rfl, rfl⟩)
        | (go_at_call 46; with_reducible refine (more_k2_2 s k _ hk hs2).mono ?_; rintro e w' ⟨rfl, rfl⟩)
        | (go_at_call 46; with_reducible refine (more_k2_3 s k _ hk hs2).mono ?_; rintro e w' ⟨rfl, rfl⟩))
      go_ret
      exact ⟨rfl, rfl⟩
  · obtain ⟨v0, m0⟩ : ∃ v, moreB s (k + 1) 2 = v := ⟨_, rfl⟩
    cases v0
    all_goals
      simp only [m0, Bool.false_and, Bool.true_and, Bool.and_true, Bool.and_false, Bool.false_eq_true, if_false, if_true] at hr
      subst hr
      go_enter Try.func32, Try.ntmps32
      go_wp2_with (first
        | (go_at_call 33; with_reducible refine (in_any s k _ _ _ (by omega) hs2).mono ?_; rintro e w' ⟨rfl, rfl⟩)
        | (go_at_call 33; with_reducible refine (in_k1 s k _ _ _ hk hs2).mono ?_; rintro e w' ⟨rfl, rfl⟩)
        | (go_at_call 46; with_reducible refine (more_k1_1 s k _ hk hs2).mono ?_; rintro e w' ⟨rfl, rfl⟩)
        | (go_at_call 46; with_reducible refine (more_k1_2 s k _ hk hs2).mono ?_; rintro e w' ⟨rfl, rfl⟩)
        | (go_at_call 46; with_reducible refine (more_k1_3 s k _ hk hs2).mono ?_; rintro e w' ⟨rfl, rfl⟩)
        | (go_at_call 46; with_reducible refine (more_k2_1 s k _ hk hs2).mono ?_; rintro e w' ⟨rfl, rfl⟩)
        | (go_at_call 46; with_reducible refine (more_k2_2 s k _ hk hs2).mono ?_; rintro e w' ⟨rfl, rfl⟩)
        | (go_at_call 46; with_reducible refine (more_k2_3 s k _ hk hs2).mono ?_; rintro e w' ⟨rfl, rfl⟩))
      go_ret
      exact ⟨rfl, rfl⟩
  · obtain ⟨v0, m0⟩ : ∃ v, inB s (k + 1) 144 191 = v := ⟨_, rfl⟩
    obtain ⟨v1, m1⟩ : ∃ v, moreB s (k + 2) 2 = v := ⟨_, rfl⟩
    cases v0 <;> cases v1
    all_goals
      simp only [m0, m1, Bool.false_and, Bool.true_and, Bool.and_true, Bool.and_false, Bool.false_eq_true, if_false, if_true] at hr
      subst hr
      go_enter Try.func32, Try.ntmps32
      go_wp2_with (first
        | (go_at_call 33; with_reducible refine (in_any s k _ _ _ (by omega) hs2).mono ?_; rintro e w' ⟨rfl, rfl⟩)
        | (go_at_call 33; with_reducible refine (in_k1 s k _ _ _ hk hs2).mono ?_; rintro e w' ⟨rfl, rfl⟩)
        | (go_at_call 46; with_reducible refine (more_k1_1 s k _ hk hs2).mono ?_; rintro e w' ⟨rfl, rfl⟩)
        | (go_at_call 46; with_reducible refine (more_k1_2 s k _ hk hs2).mono ?_; rintro e w' ⟨rfl, rfl⟩)
        | (go_at_call 46; with_reducible refine (more_k1_3 s k _ hk hs2).mono ?_; rintro e w' ⟨rfl, rfl⟩)
        | (go_at_call 46; with_reducible refine (more_k2_1 s k _ hk hs2).mono ?_; rintro e w' ⟨rfl, rfl⟩)
        | (go_at_call 46; with_reducible refine (more_k2_2 s k _ hk hs2).mono ?_; rintro e w' ⟨rfl, rfl⟩)
        | (go_at_call 46; with_reducible refine (more_k2_3 s k _ hk hs2).mono ?_; rintro e w' ⟨rfl, rfl⟩))
      go_ret
      exact ⟨rfl, rfl⟩
  · obtain ⟨v0, m0⟩ : ∃ v, moreB s (k + 1) 3 = v := ⟨_, rfl⟩
    cases v0
    all_goals
      simp only [m0, Bool.false_and, Bool.true_and, Bool.and_true, Bool.and_false, Bool.false_eq_true, if_false, if_true] at hr
      subst hr
      go_enter Try.func32, Try.ntmps32
      go_wp2_with (first
        | (go_at_call 33; with_reducible refine (in_any s k _ _ _ (by omega) hs2).mono ?_; rintro e w' ⟨rfl, rfl⟩)
        | (go_at_call 33; with_reducible refine (in_k1 s k _ _ _ hk hs2).mono ?_; rintro e w' ⟨rfl, rfl⟩)
        | (go_at_call 46; with_reducible refine (more_k1_1 s k _ hk hs2).mono ?_; rintro e w' ⟨rfl, rfl⟩)
        | (go_at_call 46; with_reducible refine (more_k1_2 s k _ hk hs2).mono ?_; rintro e w' ⟨rfl, rfl⟩)
        | (go_at_call 46; with_reducible refine (more_k1_3 s k _ hk hs2).mono ?_; rintro e w' ⟨rfl, rfl⟩)
        | (go_at_call 46; with_reducible refine (more_k2_1 s k _ hk hs2).mono ?_; rintro e w' ⟨rfl, rfl⟩)
        | (go_at_call 46; with_reducible refine (more_k2_2 s k _ hk hs2).mono ?_; rintro e w' ⟨rfl, rfl⟩)
        | (go_at_call 46; with_reducible refine (more_k2_3 s k _ hk hs2).mono ?_; rintro e w' ⟨rfl, rfl⟩))
      go_ret
      exact ⟨rfl, rfl⟩
  · obtain ⟨v0, m0⟩ : ∃ v, inB s (k + 1) 128 143 = v := ⟨_, rfl⟩
    obtain ⟨v1, m1⟩ : ∃ v, moreB s (k + 2) 2 = v := ⟨_, rfl⟩
    cases v0 <;> cases v1
    all_goals
      simp only [m0, m1, Bool.false_and, Bool.true_and, Bool.and_true, Bool.and_false, Bool.false_eq_true, if_false, if_true] at hr
      subst hr
      go_enter Try.func32, Try.ntmps32
      go_wp2_with (first
        | (go_at_call 33; with_reducible refine (in_any s k _ _ _ (by omega) hs2).mono ?_; rintro e w' ⟨rfl, rfl⟩)
        | (go_at_call 33; with_reducible refine (in_k1 s k _ _ _ hk hs2).mono ?_; rintro e w' ⟨rfl, rfl⟩)
        | (go_at_call 46; with_reducible refine (more_k1_1 s k _ hk hs2).mono ?_; rintro e w' ⟨rfl, rfl⟩)
        | (go_at_call 46; with_reducible refine (more_k1_2 s k _ hk hs2).mono ?_; rintro e w' ⟨rfl, rfl⟩)
        | (go_at_call 46; with_reducible refine (more_k1_3 s k _ hk hs2).mono ?_; rintro e w' ⟨rfl, rfl⟩)
        | (go_at_call 46; with_reducible refine (more_k2_1 s k _ hk hs2).mono ?_; rintro e w' ⟨rfl, rfl⟩)
        | (go_at_call 46; with_reducible refine (more_k2_2 s k _ hk hs2).mono ?_; rintro e w' ⟨rfl, rfl⟩)
        | (go_at_call 46; with_reducible refine (more_k2_3 s k _ hk hs2).mono ?_; rintro e w' ⟨rfl, rfl⟩))
      go_ret
      exact ⟨rfl, rfl⟩
end Go.Proofs.Ytildplbdhnodjaa
/- Tokens in memory; what a reader of scripts answers. -/
namespace Go.Proofs.Ytildplbdhnodjaa
open Go.RowKit
set_option linter.unusedVariables false
set_option linter.unusedSimpArgs false
def textV : Option Nat → Value
  | none => .tuple #[.int .i64 0, .bool true]
  | some p => .tuple #[.int .i64 (p : Int), .bool false]
def encT (t : Tok) : List Value := [.int .i64 t.kind, .int .i32 t.sign, .int .i64 t.n, .int .i64 t.at_]
theorem encT_len (t : Tok) : (encT t).length = 4 := rfl
theorem toks_at {w : World} {A : Option Addr} {n : Nat} {zs : List Tok} (h : Rows 4 encT w A n zs) {i : Nat} (hi : i < n) :
    ∃ b off x y u v, A = some ⟨b, off, none⟩ ∧ b < w.heap.size ∧ zs[i]? = some ⟨x, y, u, v⟩ ∧ w.cell? ⟨b, off + i * 4, none⟩ = some (.int .i64 x) ∧ w.cell? ⟨b, off + i * 4 + 1, none⟩ = some (.int .i32 y) ∧ w.cell? ⟨b, off + i * 4 + 2, none⟩ = some (.int .i64 u) ∧ w.cell? ⟨b, off + i * 4 + 3, none⟩ = some (.int .i64 v) := by
  obtain ⟨b, off, ⟨x, y, u, v⟩, h1, h2, h3, h4⟩ := h.at_ hi
  exact ⟨b, off, x, y, u, v, h1, h2, h3, h4 0 _ rfl, h4 1 _ rfl, h4 2 _ rfl, h4 3 _ rfl⟩
theorem tok_info : (Try.prog.info? 59).map (fun i => (i.zero, i.size, i.bytes)) = some (some (.agg #[.int .i64 0, .int .i32 0, .int .i64 0, .int .i64 0]), 4, 32) := by kernel_rfl
def LexPost (w : World) (s : ByteArray) (e : Ending) (w' : World) : Prop :=
  (∃ toks A n c, lexB s = (some toks, 0) ∧ e = .returned (.tuple #[.slice A n c, .int .i64 0, .int .i64 0]) ∧ Rows 4 encT w' A n toks ∧ (n ≤ s.size ∧ n ≤ c ∧ ∀ p, A = some p → p.block < w'.heap.size) ∧ Below w.heap.size w w') ∨
  (∃ k : Nat, lexB s = (none, k) ∧ e = .returned (.tuple #[.slice none 0 0, .int .i64 (k : Int), .int .i64 1]) ∧ k < s.size ∧ Below w.heap.size w w')
theorem owns_cap {w : World} {base : Nat} {e : TypeId} {size : Nat} {A : Option Addr} {n c : Nat} {xs : List Value} (h : w.ownsRow base e size (.slice A n c) n xs) : n ≤ c := by
  rcases h.2 with ⟨h1, h2⟩ | ⟨g, cap, cur, h1, _, _, h2, _⟩
  · omega
  · injection h1 with _ _ h1; omega
theorem owns_at {w : World} {base : Nat} {e : TypeId} {size : Nat} {A : Option Addr} {n c : Nat} {xs : List Value} (h : w.ownsRow base e size (.slice A n c) n xs) : ∀ p, A = some p → p.block < w.heap.size := by
  intro p hp
  subst hp
  rcases h.2 with ⟨h1, h2⟩ | ⟨g, cap, cur, h1, _, h2, _⟩
  · injection h1 with h1; cases h1
  · injection h1 with h1; injection h1 with h1; subst h1
    exact (Array.getElem?_eq_some_iff.1 h2).1
theorem tok_cells (w : World) (a b c d : Int) (t : TypeId) (n : Nat) (hn : n = w.heap.size) : Cells (w.alloc (.cells #[.int .i64 a, .int .i32 b, .int .i64 c, .int .i64 d] t)) (some ⟨n, 0, none⟩) 1 4 [.int .i64 a, .int .i32 b, .int .i64 c, .int .i64 d] := by
  subst hn
  refine ⟨rfl, by decide, fun _ => ⟨_, _, rfl, by simp, fun j u hu => ?_⟩⟩
  rw [Nat.zero_add]; exact (Box.new w [.int .i64 a, .int .i32 b, .int .i64 c, .int .i64 d] t).2.2 j u hu
theorem tok_cell4 (a b c d : Int) : ∀ u ∈ ([.int .i64 a, .int .i32 b, .int .i64 c, .int .i64 d] : List Value), u.oneCell' = true := by
  intro u hu; simp at hu; rcases hu with rfl | rfl | rfl | rfl <;> rfl
theorem toks_snoc (out : List Tok) (t : Tok) : (out ++ [t]).flatMap encT = out.flatMap encT ++ encT t := by rw [List.flatMap_append]; simp
end Go.Proofs.Ytildplbdhnodjaa
/- The program's package valid: an odd number is looked for. -/
namespace Go.Proofs.Ytildplbdhnodjaa
open Go.RowKit
set_option linter.unusedVariables false
set_option linter.unusedSimpArgs false
def oddB (a b n : Int) : Bool := !fromB n a b
theorem odd1_any (n a b : Int) (g3 g4 : Nat) (w : World) (h3 : w.cell? ⟨g3, 0, none⟩ = some (.int .i64 a)) (h4 : w.cell? ⟨g4, 0, none⟩ = some (.int .i64 b)) : Calls Try.prog 51 #[.int .i64 n, .pointer (some ⟨g3, 0, none⟩), .pointer (some ⟨g4, 0, none⟩)] w fun e w' => e = .returned (.bool (oddB a b n)) ∧ w = w' := by
  by_cases h : n < a
  all_goals
    go_enter Try.func51, Try.ntmps51
    go_wp2_with fail
    go_ret
    refine ⟨ret_bool ?_, rfl⟩
    rw [Bool.eq_iff_iff]
    simp [oddB, fromB] <;> omega
theorem odd1_to {n a b : Int} {v : Bool} (hv : oddB a b n = v) {g3 g4 : Nat} (w : World) (h3 : w.cell? ⟨g3, 0, none⟩ = some (.int .i64 a)) (h4 : w.cell? ⟨g4, 0, none⟩ = some (.int .i64 b)) : Calls Try.prog 51 #[.int .i64 n, .pointer (some ⟨g3, 0, none⟩), .pointer (some ⟨g4, 0, none⟩)] w fun e w' => e = .returned (.bool v) ∧ w = w' := by
  subst hv; exact odd1_any n a b g3 g4 w h3 h4
theorem any_at {zs : List Int} {a b : Int} {k : Nat} (hk : k < zs.length) (h : oddB a b (zs[k]?.getD 0) = true) : zs.any (oddB a b) = true := by
  rw [List.any_eq_true]
  refine ⟨zs[k], List.getElem_mem hk, ?_⟩
  simpa [hk] using h
theorem any_no {zs : List Int} {a b : Int} (h : ∀ j, j < zs.length → oddB a b (zs[j]?.getD 0) = false) : zs.any (oddB a b) = false := by
  rw [List.any_eq_false]
  intro z hz
  obtain ⟨j, hj, rfl⟩ := List.getElem_of_mem hz
  have := h j hj
  simp [hj] at this
  simp [this]
set_option maxHeartbeats 2000000 in
theorem indexf_any (zs : List Int) (a b : Int) (g3 g4 : Nat) (A : Option Addr) (n c : Nat) (w : World) (hz : Ints w A n zs) (h3 : w.cell? ⟨g3, 0, none⟩ = some (.int .i64 a)) (h4 : w.cell? ⟨g4, 0, none⟩ = some (.int .i64 b)) :
    Calls Try.prog 58 #[.slice A n c, .func (.func 51) #[] #[.pointer (some ⟨g3, 0, none⟩), .pointer (some ⟨g4, 0, none⟩)]] w fun e w' => ∃ i : Int, e = .returned (.int .i64 i) ∧ decide (0 ≤ i) = zs.any (oddB a b) ∧ w = w' := by
  have hl := hz.1
  have hn := hz.2.1
  have HZ := Lib.hid hz
  have H3 := Lib.hid h3
  have H4 := Lib.hid h4
  clear hz h3 h4
  go_enter Try.func58, Try.ntmps58
  go_wp2_with fail
  go_loopw [8] (fun i wr => ∃ k : Nat, k ≤ n ∧ i = .int .i64 k ∧ (∀ j, j < k → oddB a b (zs[j]?.getD 0) = false) ∧ wr = w) (fun i _ => n - (intOf i).toNat)
  case atStart => exact ⟨0, by omega, rfl, fun j hj => by omega, rfl⟩
  case round =>
    obtain ⟨k, hk, rfl, hno, rfl⟩ := hrel
    have HN := Lib.hid hno
    clear hno
    by_cases hlt : k < n
    · have hk2 : (k : Int) < (n : Int) := by omega
      obtain ⟨b1, o1, rfl, hc⟩ := HZ.out.at_ hlt
      obtain ⟨u, hu⟩ : ∃ u, zs[k]?.getD 0 = u := ⟨_, rfl⟩
      obtain ⟨v, hv⟩ : ∃ v, oddB a b u = v := ⟨_, rfl⟩
      rw [hu] at hc
      have HU := Lib.hid hu
      have HV := Lib.hid hv
      clear hv hu
      go_wp2_with fail
      refine (odd1_to HV.out _ H3.out H4.out).mono ?_
      rintro e w' ⟨rfl, rfl⟩
      cases v with
      | true =>
        have HY := Lib.hid (any_at (zs := zs) (a := a) (b := b) (k := k) (by omega) (by rw [HU.out]; exact HV.out))
        go_wp2_with fail
        go_ret
        exact ⟨_, rfl, by rw [HY.out]; simp, rfl⟩
      | false =>
        go_wp2_with fail
        go_roundw
        case rel => exact ⟨k + 1, by omega, by go_num, fun j hj => by
          by_cases e : j = k
          · subst e; rw [HU.out]; exact HV.out
          · exact HN.out j (by omega), by first | rfl | trivial⟩
        case measure => simp [intOf]; omega
    · have hk2 : (n : Int) ≤ (k : Int) := by omega
      have HY := Lib.hid (any_no (zs := zs) (a := a) (b := b) (fun j hj => HN.out j (by omega)))
      go_wp2_with fail
      go_ret
      exact ⟨_, rfl, by rw [HY.out]; simp, rfl⟩
theorem contains_any (zs : List Int) (a b : Int) (g3 g4 : Nat) (A : Option Addr) (n c : Nat) (w : World) (hz : Ints w A n zs) (h3 : w.cell? ⟨g3, 0, none⟩ = some (.int .i64 a)) (h4 : w.cell? ⟨g4, 0, none⟩ = some (.int .i64 b)) :
    Calls Try.prog 50 #[.slice A n c, .func (.func 51) #[] #[.pointer (some ⟨g3, 0, none⟩), .pointer (some ⟨g4, 0, none⟩)]] w fun e w' => e = .returned (.bool (zs.any (oddB a b))) ∧ w = w' := by
  have HZ := Lib.hid hz
  have H3 := Lib.hid h3
  have H4 := Lib.hid h4
  clear hz h3 h4
  go_enter Try.func50, Try.ntmps50
  go_wp2_with fail
  refine (indexf_any zs a b g3 g4 _ _ _ _ HZ.out H3.out H4.out).mono ?_
  rintro e w' ⟨i, rfl, hi, rfl⟩
  have HI := Lib.hid hi
  clear hi
  go_wp2_with fail
  go_ret
  exact ⟨ret_bool HI.out, rfl⟩
theorem cell_new1 (w : World) (v : Value) (t : TypeId) (n : Nat) (h : n = w.heap.size) : (w.alloc (.cells #[v] t)).cell? ⟨n, 0, none⟩ = some v := by subst h; exact (Box.new w [v] t).2.2 0 _ rfl
theorem podd_any (zs : List Int) (a b : Int) (A : Option Addr) (n c : Nat) (w : World) (hz : Ints w A n zs) :
    Calls Try.prog 37 #[.int .i64 a, .int .i64 b, .slice A n c] w fun e w' => e = .returned (.bool (zs.any (oddB a b))) ∧ Below w.heap.size w w' := by
  have HZ := Lib.hid hz
  clear hz
  go_enter Try.func37, Try.ntmps37
  go_wp2_with fail
  refine (contains_any zs a b _ _ _ _ _ _ (HZ.out.below (B := w.heap.size) (by go_grown) rfl) (On.cell (cell_new1 w _ _ _ rfl) _ (Below.alloc (Below.refl _ _) (Nat.le_refl _) _)) (cell_new1 _ _ _ _ (by simp))).mono ?_
  rintro e w' ⟨rfl, rfl⟩
  go_wp2_with fail
  go_ret
  exact ⟨rfl, by go_grown⟩
theorem podd_to {zs : List Int} {a b : Int} {v : Bool} (hv : zs.any (oddB a b) = v) {A : Option Addr} {n c : Nat} (w : World) (hz : Ints w A n zs) :
    Calls Try.prog 37 #[.int .i64 a, .int .i64 b, .slice A n c] w fun e w' => e = .returned (.bool v) ∧ Below w.heap.size w w' := by
  subst hv; exact podd_any zs a b A n c w hz
end Go.Proofs.Ytildplbdhnodjaa
/- The document's answers for package lex: the character that stands there; whether a text is well-formed. -/
namespace Go.Proofs.Ytildplbdhnodjaa
open Go.RowKit
set_option linter.unusedVariables false
set_option linter.unusedSimpArgs false
theorem ret_i32 {a b : Int} (h : a = b) : Ending.returned (.int .i32 a) = Ending.returned (.int .i32 b) := by rw [h]
theorem size_to {s : ByteArray} {k n : Nat} (hn : sizeB s k = n) (w : World) (hk : k ≤ 800000) (hs : s.size ≤ 800000) : Calls Try.prog 32 #[.string s, .int .i64 k] w fun e w' => e = .returned (.int .i64 (n : Int)) ∧ w = w' := by
  subst hn; exact size_any s k w hk hs
set_option maxRecDepth 100000 in
theorem rune_any (s : ByteArray) (k n : Nat) (w : World) (h1 : 1 ≤ n) (h4 : n ≤ 4) (hin : k + n ≤ s.size) (hs : s.size ≤ 800000) : Calls Try.prog 34 #[.string s, .int .i64 k, .int .i64 n] w fun e w' => e = .returned (.int .i32 (runeB s k n)) ∧ Below w.heap.size w w' := by
  have hk : k < s.size := by omega
  have hb := bAt_get s k hk
  have hbd := bAt_bd s k
  have hk2 : (k : Int) < (s.size : Int) := by omega
  by_cases hn1 : n = 1
  · subst hn1
    have HR := Lib.hid (show runeB s k 1 = bAt s k from if_pos rfl)
    have o1 : IntKind.i32.wrap (bAt s k) = bAt s k := by rw [IntKind.wrap_i32]; omega
    go_enter Try.func34, Try.ntmps34
    go_wp2
    go_ret
    exact ⟨ret_i32 HR.out.symm, Below.refl _ _⟩
  · have hnn : ((n : Int) == 1) = false := by simp; omega
    have HR := Lib.hid (show runeB s k n = runeP s k (firstB n) n from if_neg hn1)
    have hcell : (#[Value.int .i64 0, .int .i64 0, .int .i64 192, .int .i64 224, .int .i64 240] : Array Value)[n]? = some (.int .i64 (firstB n)) := by
      rcases (show n = 2 ∨ n = 3 ∨ n = 4 by omega) with rfl | rfl | rfl <;> rfl
    have hfb : 0 ≤ firstB n ∧ firstB n ≤ 240 := by unfold firstB; split <;> (try split) <;> (try split) <;> omega
    have hBd := fun j hj => runeP_bd s k (base := firstB n) (by omega) j hj
    have HBd := Lib.hid hBd
    have hfirst : runeP s k (firstB n) 1 = bAt s k - firstB n := rfl
    have HP1 := Lib.hid hfirst
    clear hfirst
    have hBx : Box (w.alloc (.cells #[.int .i64 0, .int .i64 0, .int .i64 192, .int .i64 224, .int .i64 240] 3)) w.heap.size [.int .i64 0, .int .i64 0, .int .i64 192, .int .i64 224, .int .i64 240] := Box.new _ _ _
    have hc := hBx.2.2 n (.int .i64 (firstB n)) (by simpa using hcell)
    clear hBd hcell
    go_enter Try.func34, Try.ntmps34
    go_wp2_with fail
    have hB0 : Below w.heap.size w (w.alloc (.cells #[.int .i64 0, .int .i64 0, .int .i64 192, .int .i64 224, .int .i64 240] 3)) := by go_grown
    clear hBx
    generalize w.alloc (.cells #[.int .i64 0, .int .i64 0, .int .i64 192, .int .i64 224, .int .i64 240] 3) = W at hc hB0 ⊢
    have HB0 := Lib.hid hB0
    have hn5 : (n : Int) < 5 := by omega
    have hn0 : (0 : Int) ≤ (n : Int) := by omega
    clear hB0
    go_quiet (fail)
    clear hb
    go_wp2_with fail
    go_loopw [8, 9] (fun v i wr => ∃ j m : Nat, 1 ≤ j ∧ j ≤ n ∧ i = .int .i64 j ∧ v = .int .i64 (runeP s k (firstB n) j) ∧ wr = W.drewN m) (fun _ i _ => n - (intOf i).toNat)
    case atStart => exact ⟨1, _, by omega, by omega, rfl, by rw [HP1.out], rfl⟩
    case round =>
      obtain ⟨j, m, hj1, hj, rfl, rfl, rfl⟩ := hrel
      obtain ⟨hp1, hp2⟩ := HBd.out j (by omega)
      by_cases hlt : j < n
      · have hbj := bAt_get s (k + j) (by omega)
        have hbd2 := bAt_bd s (k + j)
        have HSu := Lib.hid (runeP_succ s k (firstB n) hj1)
        have hkj : (k : Int) + (j : Int) < (s.size : Int) := by omega
        have htn : ((k : Int) + (j : Int)).toNat = k + j := by omega
        go_wp2_with fail
        go_roundw
        case rel => exact ⟨j + 1, _, by omega, by omega, by go_num, by rw [HSu.out], rfl⟩
        case measure => simp [intOf]; omega
      · obtain rfl : j = n := by omega
        have o1 : IntKind.i32.wrap (runeP s k (firstB j) j) = runeP s k (firstB j) j := by rw [IntKind.wrap_i32]; omega
        go_wp2_with fail
        go_ret
        exact ⟨ret_i32 HR.out.symm, below_drewN HB0.out m⟩
end Go.Proofs.Ytildplbdhnodjaa
/- The document's answer for package lex: the tokens of a script. -/
namespace Go.Proofs.Ytildplbdhnodjaa
open Go.RowKit
set_option linter.unusedVariables false
set_option linter.unusedSimpArgs false
set_option maxRecDepth 100000 in
set_option maxHeartbeats 4000000 in
theorem reflex_any (s : ByteArray) (w : World) (hs : s.size ≤ 100000) : Calls Try.prog 22 #[.string s] w (LexPost w s) := by
  obtain ⟨i0, hi0, hz0, hz1, hz2⟩ := info_parts tok_info
  have HT := Lib.hid (show lexF s (s.size + 1) false 0 [] = lexB s from rfl)
  go_enter Try.func22, Try.ntmps22
  go_wp2_with fail
  go_loopw [5, 6, 7] (fun v u i wr => ∃ (k f m c' : Nat) (c : Bool) (ci : Int) (A' : Option Addr) (out : List Tok), k ≤ s.size ∧ s.size ≤ k + f ∧ m ≤ k ∧ v = .slice A' m c' ∧ u = .int .i64 ci ∧ (ci == 1) = c ∧ i = .int .i64 k ∧ lexF s f c k out = lexB s ∧ wr.ownsRow w.heap.size 59 4 (.slice A' m c') m (out.flatMap encT) ∧ Below w.heap.size w wr) (fun _ _ i _ => s.size - (intOf i).toNat)
  case atStart => exact ⟨0, s.size + 1, 0, 0, false, 0, none, [], by omega, by omega, by omega, rfl, rfl, rfl, rfl, HT.out, owns_nil _ _ _ _, Below.refl _ _⟩
  case round =>
    obtain ⟨k, f, m, c', c, ci, A', out, hk, hf, hm, rfl, rfl, hci, rfl, ht, hO, hB⟩ := hrel
    have HO := Lib.hid hO
    have HB := Lib.hid hB
    have hsz := hB.size
    by_cases hlt : k < s.size
    · obtain ⟨f', rfl, hf', hop⟩ := lexF_open (c := c) (out := out) hlt hf
      rw [ht] at hop
      have hb0 := bAt_get s k hlt
      obtain ⟨hbd1, hbd2⟩ := bAt_bd s k
      obtain ⟨b, hb⟩ : ∃ b, bAt s k = b := ⟨_, rfl⟩
      rw [hb] at hb0 hop hbd1 hbd2
      obtain ⟨z, hz⟩ : ∃ z, sizeB s k = z := ⟨_, rfl⟩
      have hz4 := sizeB_le s k
      rw [hz] at hz4 hop
      have HZ := Lib.hid hz
      have hk2 : (k : Int) < (s.size : Int) := by omega
      clear ht hO hB
      by_cases hzn : z = 0
      · rw [if_pos hzn] at hop
        subst hzn
        have HR := Lib.hid hop
        clear hop hz hb
        go_wp2_with (go_at_call 32; refine (size_to HZ.out _ (by omega) (by omega)).mono ?_; rintro e w' ⟨rfl, rfl⟩)
        go_ret3
        exact .inr ⟨k, HR.out, rfl, hlt, HB.out⟩
      · rw [if_neg hzn] at hop
        have hin := sizeB_in (s := s) (k := k) (by omega)
        rw [hz] at hin
        have hzz : ((z : Int) == 0) = false := by simp; omega
        have HBk := Lib.hid hb
        clear hz hb
        cases c
        case true =>
          by_cases h10 : b = 10
          all_goals
            simp only [h10, ne_eq, not_true_eq_false, not_false_eq_true, decide_true, decide_false, if_true] at hop
            have HR := Lib.hid hop
            clear hop
            first
              | (have hbb : (b == 10) = true := by simp [h10])
              | (have hbb : (b == 10) = false := by simp [h10])
            go_wp2_with (go_at_call 32; refine (size_to HZ.out _ (by omega) (by omega)).mono ?_; rintro e w' ⟨rfl, rfl⟩)
            go_roundw
            case rel => exact ⟨k + z, f', m, c', _, _, A', out, by omega, by omega, by omega, rfl, rfl, by first | rfl | exact hci, by go_num, HR.out.symm, HO.out, HB.out⟩
            case measure => simp [intOf]; omega
        case false =>
          simp only [Bool.false_eq_true, if_false] at hop
          by_cases h35 : b = 35
          · rw [if_pos h35] at hop
            subst h35
            have HR := Lib.hid hop
            clear hop
            go_wp2_with (go_at_call 32; refine (size_to HZ.out _ (by omega) (by omega)).mono ?_; rintro e w' ⟨rfl, rfl⟩)
            go_roundw
            case rel => exact ⟨k + 1, f', m, c', _, _, A', out, by omega, by omega, by omega, rfl, rfl, rfl, by go_num, HR.out.symm, HO.out, HB.out⟩
            case measure => simp [intOf]; omega
          rw [if_neg h35] at hop
          have hb35 : (b == 35) = false := by simp [h35]
          by_cases hwh : b = 32 ∨ b = 9 ∨ b = 10
          · rw [if_pos hwh] at hop
            have HR := Lib.hid hop
            clear hop h35 hb35
            rcases hwh with rfl | rfl | rfl
            all_goals
              go_wp2_with (go_at_call 32; refine (size_to HZ.out _ (by omega) (by omega)).mono ?_; rintro e w' ⟨rfl, rfl⟩)
              go_roundw
              case rel => exact ⟨k + 1, f', m, c', _, _, A', out, by omega, by omega, by omega, rfl, rfl, hci, by go_num, HR.out.symm, HO.out, HB.out⟩
              case measure => simp [intOf]; omega
          rw [if_neg hwh] at hop
          have hb32 : (b == 32) = false := by simp; omega
          have hb9 : (b == 9) = false := by simp; omega
          have hb10 : (b == 10) = false := by simp; omega
          clear hwh h35
          rcases hdg : digB s k with _ | _
          · rw [hdg] at hop
            simp only [Bool.false_eq_true, if_false] at hop
            have hin48 : inB s k 48 57 = false := hdg
            have HR := Lib.hid hop
            clear hop hdg
            go_wp2_with (first
              | (go_at_call 32; refine (size_to HZ.out _ (by omega) (by omega)).mono ?_; rintro e w' ⟨rfl, rfl⟩)
              | (go_at_call 33; refine (in_any s k _ _ _ (by omega) (by omega)).mono ?_; rintro e w' ⟨rfl, rfl⟩))
            refine (rune_any s k z _ (by omega) hz4 hin (by omega)).mono ?_
            rintro e w2 ⟨rfl, hb2⟩
            obtain ⟨rv, hrv⟩ : ∃ rv, runeB s k z = rv := ⟨_, rfl⟩
            have hR2 := HR.out
            rw [hrv] at hR2 ⊢
            have HR2 := Lib.hid hR2
            have HO2 := Lib.hid (owns_below HO.out hb2)
            have HB2 := Lib.hid (HB.out.trans (hb2.mono hsz))
            have hsz2 := HB2.out.size
            have HC1 := Lib.hid (tok_cells w2 1 rv 0 k 59 w2.heap.size rfl)
            have HO6 := Lib.hid (owns_below HO2.out (w' := w2.alloc (.cells #[.int .i64 1, .int .i32 rv, .int .i64 0, .int .i64 k] 59)) (by go_grown))
            have HB6 := Lib.hid (HB2.out.alloc hsz2 (.cells #[.int .i64 1, .int .i32 rv, .int .i64 0, .int .i64 k] 59))
            clear hb2 hR2 hrv
            go_wp2_with (at_builtin; refine wpList_append_cells _ rfl (.tmp 54) (.tmp 61) _ rfl w.heap.size 59 i0 (.agg #[.int .i64 0, .int .i32 0, .int .i64 0, .int .i64 0]) 4 32 Try.underlying52 hi0 hz0 hz1 hz2 rfl (by decide) _ m _ rfl HO6.out _ 1 1 _ rfl HC1.out (tok_cell4 _ _ _ _) (by unfold maxLen; omega) (by omega) (by simp; omega) ?_; intro A6 c6 w6 hown6 hg6; have hb6 : Below w.heap.size _ w6 := (Below.refl _ _).grown hg6 (by simp; omega) (owns_block HO6.out); have HB7 := Lib.hid (HB6.out.trans hb6); have HO7 := Lib.hid hown6; clear hg6 hown6 hb6)
            go_roundw
            case rel => exact ⟨k + z, f', m + 1, c6, false, ci, A6, out ++ [⟨1, rv, 0, k⟩], by omega, by omega, by omega, rfl, rfl, hci, by go_num, HR2.out.symm, by rw [toks_snoc]; exact HO7.out, HB7.out⟩
            case measure => simp [intOf]; omega
          · rw [hdg] at hop
            simp only [if_true] at hop
            have hin48 : inB s k 48 57 = true := hdg
            have hgt := numB_gt hdg
            have h48 : 48 ≤ b ∧ b ≤ 57 := by
              have e := inB_at hlt 48 57
              rw [hin48, HBk.out] at e
              have e2 := e.symm
              simp only [Bool.and_eq_true, decide_eq_true_eq] at e2
              exact e2
            rcases hnb : numB s k with ⟨nv, ne⟩
            rw [hnb] at hop hgt
            simp only at hop hgt
            have HR := Lib.hid hop
            have HNb := Lib.hid (show numF s (s.size + 1) 0 k = (nv, ne) from hnb)
            clear hop hdg hnb
            go_wp2_with (first
              | (go_at_call 32; refine (size_to HZ.out _ (by omega) (by omega)).mono ?_; rintro e w' ⟨rfl, rfl⟩)
              | (go_at_call 33; refine (in_any s k _ _ _ (by omega) (by omega)).mono ?_; rintro e w' ⟨rfl, rfl⟩))
            obtain ⟨wo, rfl⟩ : ∃ wo : World, wo = wr := ⟨_, rfl⟩
            go_loopw [10, 11] (fun v i wr => ∃ (e f2 : Nat) (n : Int), e ≤ s.size ∧ k ≤ e ∧ s.size ≤ e + f2 ∧ v = .int .i64 n ∧ i = .int .i64 e ∧ (0 ≤ n ∧ n ≤ 2199023255552) ∧ numF s f2 n e = (nv, ne) ∧ wr = wo) (fun _ i _ => s.size - (intOf i).toNat)
            case atStart => exact ⟨k, s.size + 1, 0, by omega, by omega, by omega, rfl, rfl, by omega, HNb.out, rfl⟩
            case round =>
              obtain ⟨e, f2, n, he1, he2, he3, rfl, rfl, ⟨hn1, hn2⟩, hnf, rfl⟩ := hrel
              have HNf := Lib.hid hnf
              clear hnf
              rcases hde : digB s e with _ | _
              · have hend := numF_end (f := f2) (n := n) hde
                rw [HNf.out] at hend
                injection hend with q1 q2
                subst q1 q2
                have hin2 : inB s ne 48 57 = false := hde
                by_cases hbad : 1099511627776 < nv ∨ (b = 48 ∧ k + 1 < ne)
                · have hR2 := HR.out
                  rw [if_pos hbad] at hR2
                  have HR2 := Lib.hid hR2
                  have hbi : 1099511627776 < nv ∨ (nv ≤ 1099511627776 ∧ b = 48 ∧ (k : Int) + 1 < (ne : Int)) := by omega
                  clear hR2 hbad hde
                  rcases hbi with hb1 | ⟨hb1, rfl, hb2⟩
                  all_goals
                    go_wp2_with (go_at_call 33; refine (in_any s ne _ _ _ (by omega) (by omega)).mono ?_; rintro e w' ⟨rfl, rfl⟩)
                    go_ret3
                    exact .inr ⟨k, HR2.out, rfl, hlt, HB.out⟩
                · have hR2 := HR.out
                  rw [if_neg hbad] at hR2
                  have HR2 := Lib.hid hR2
                  have hbi : nv ≤ 1099511627776 ∧ (((b == 48) = true ∧ (ne : Int) ≤ (k : Int) + 1) ∨ (b == 48) = false) := by
                    refine ⟨by omega, ?_⟩
                    by_cases q : b = 48
                    · exact .inl ⟨by simp [q], by omega⟩
                    · exact .inr (by simp [q])
                  obtain ⟨hb1, hbi⟩ := hbi
                  have HC1 := Lib.hid (tok_cells wr 2 0 nv k 59 wr.heap.size rfl)
                  have HO6 := Lib.hid (owns_below HO.out (w' := wr.alloc (.cells #[.int .i64 2, .int .i32 0, .int .i64 nv, .int .i64 k] 59)) (by go_grown))
                  have HB6 := Lib.hid (HB.out.alloc hsz (.cells #[.int .i64 2, .int .i32 0, .int .i64 nv, .int .i64 k] 59))
                  clear hR2 hbad hde
                  rcases hbi with ⟨hb2, hb3⟩ | hb2
                  all_goals
                    go_wp2_with (first
                      | (go_at_call 33; refine (in_any s ne _ _ _ (by omega) (by omega)).mono ?_; rintro e w' ⟨rfl, rfl⟩)
                      | (at_builtin; refine wpList_append_cells _ rfl (.tmp 94) (.tmp 98) _ rfl w.heap.size 59 i0 (.agg #[.int .i64 0, .int .i32 0, .int .i64 0, .int .i64 0]) 4 32 Try.underlying52 hi0 hz0 hz1 hz2 rfl (by decide) _ m _ rfl HO6.out _ 1 1 _ rfl HC1.out (tok_cell4 _ _ _ _) (by unfold maxLen; omega) (by omega) (by simp; omega) ?_; intro A6 c6 w6 hown6 hg6; have hb6 : Below w.heap.size _ w6 := (Below.refl _ _).grown hg6 (by simp; omega) (owns_block HO6.out); have HB7 := Lib.hid (HB6.out.trans hb6); have HO7 := Lib.hid hown6; clear hg6 hown6 hb6))
                    go_roundw
                    case rel => exact ⟨ne, f', m + 1, c6, false, ci, A6, out ++ [⟨2, 0, nv, k⟩], by omega, by omega, by omega, rfl, rfl, hci, by go_num, HR2.out.symm, by rw [toks_snoc]; exact HO7.out, HB7.out⟩
                    case measure => simp [intOf]; omega
              · have hle := inB_lt hde
                have hin2 : inB s e 48 57 = true := hde
                have hbe0 := bAt_get s e hle
                have h48e : 48 ≤ bAt s e ∧ bAt s e ≤ 57 := by
                  have q := inB_at hle 48 57
                  rw [hin2] at q
                  have q2 := q.symm
                  simp only [Bool.and_eq_true, decide_eq_true_eq] at q2
                  exact q2
                obtain ⟨f3, hf3, hst⟩ := numF_step (n := n) hde he3
                rw [HNf.out] at hst
                have HSt := Lib.hid hst
                have o1 : IntKind.u8.wrap (bAt s e - 48) = bAt s e - 48 := by rw [IntKind.wrap_u8]; omega
                have hle2 : (e : Int) < (s.size : Int) := by omega
                clear hde hst
                go_wp2_with (go_at_call 33; refine (in_any s e _ _ _ (by omega) (by omega)).mono ?_; rintro e w' ⟨rfl, rfl⟩)
                go_roundw
                case rel => exact ⟨e + 1, f3, min (10 * n + (bAt s e - 48)) 2199023255552, by omega, by omega, by omega, rfl, by go_num, by omega, HSt.out.symm, by first | rfl | trivial⟩
                case measure => simp [intOf]; omega
    · have HR := Lib.hid (ht.symm.trans (lexF_end hlt))
      have hR := ownsRow_rows (enc := encT) (zs := out) encT_len (by decide) hO
      have HRo := Lib.hid hR
      have hcap := owns_cap hO
      have hat := owns_at hO
      have hk2 : (s.size : Int) ≤ (k : Int) := by omega
      clear ht hO hB hR
      go_wp2_with fail
      go_ret3
      exact .inl ⟨out, A', m, c', HR.out, rfl, HRo.out, ⟨by omega, hcap, hat⟩, HB.out⟩
end Go.Proofs.Ytildplbdhnodjaa
