import Derived.Test.YtllloonfnbhoeaaJA00
import Derived.Test.YtllloonfnbhoeaaRows
import Derived.Test.YtllloonfnbhoeaaJA01
import Derived.OwnWalk
import Derived.Deep.WholeRow
import Derived.DeepKeys
import Derived.WalkKit
import Derived.ProofKit
import Derived.OpenShut
import Derived.Handy
import Derived.Lib.Hide
import Derived.Deep.QuietTactic
import Derived.BigQuiet
import Derived.Lib.MinMax
import Derived.Lib.SmallJoins
import Derived.Deep.MidRow
import Derived.RangeFuncBox
import Derived.RangeFuncNested
import Derived.RangeFuncBound
import Derived.RangeFuncCalls
import Derived.RangeFuncLeaves
import Derived.Shelf.Abstract
import Derived.Shelf.RegionOpen
import Derived.OwnWalkIn
import Derived.TacticsInMore
import Derived.LoopNIn
import Derived.LoopIn
import Derived.Maps.AppendAt
/- The document's answers for package lex: one byte, and the size of a character. -/
namespace Go.Proofs.Ytllloonfnbhoeaa
open Go.RowKit
set_option linter.unusedVariables false
set_option linter.unusedSimpArgs false
theorem in_any (s : ByteArray) (k : Nat) (a b : Int) (w : World) (hk : k ≤ 1000000) (hs : s.size ≤ 1000000) : Calls Try.prog 58 #[.string s, .int .i64 k, .int .u8 a, .int .u8 b] w fun e w' => e = .returned (.bool (inB s k a b)) ∧ w = w' := by
  by_cases h1 : k < s.size
  · have hb := bAt_get s k h1
    have h2 : (k : Int) < (s.size : Int) := by omega
    by_cases h3 : a ≤ bAt s k
    all_goals
      go_enter Try.func58, Try.ntmps58
      go_wp2
      go_ret
      exact ⟨ret_bool (by rw [inB_at h1]; first | (simp [h3]; done) | (rw [decide_eq_false (show ¬ a ≤ bAt s k by omega)]; rfl)), rfl⟩
  · have h2 : (s.size : Int) ≤ (k : Int) := by omega
    go_enter Try.func58, Try.ntmps58
    go_wp2
    go_ret
    exact ⟨ret_bool (inB_ge h1 a b).symm, rfl⟩
theorem in_at {s : ByteArray} {x : Int} {k : Nat} (hx : x = (k : Int)) (a b : Int) (w : World) (hk : k ≤ 1000000) (hs : s.size ≤ 1000000) : Calls Try.prog 58 #[.string s, .int .i64 x, .int .u8 a, .int .u8 b] w fun e w' => e = .returned (.bool (inB s k a b)) ∧ w = w' := by
  subst hx; exact in_any s k a b w hk hs
theorem more_any (s : ByteArray) (k n : Nat) (w : World) (hk : k ≤ 900000) (hn : n ≤ 3) (hs : s.size ≤ 1000000) : Calls Try.prog 72 #[.string s, .int .i64 k, .int .i64 n] w fun e w' => e = .returned (.bool (moreB s k n)) ∧ w = w' := by
  go_enter Try.func72, Try.ntmps72
  go_wp2_with fail
  go_loopw [7] (fun i wr => ∃ j : Nat, j ≤ n ∧ i = .int .i64 j ∧ moreB s k j = true ∧ wr = w) (fun i _ => n - (intOf i).toNat)
  case atStart => exact ⟨0, by omega, rfl, rfl, rfl⟩
  case round =>
    obtain ⟨j, hj, rfl, hm, rfl⟩ := hrel
    have HM := Lib.hid hm
    clear hm
    by_cases hlt : j < n
    · obtain ⟨v, hv⟩ : ∃ v, inB s (k + j) 128 191 = v := ⟨_, rfl⟩
      cases v
      · have HN := Lib.hid (moreB_no (i := k) hlt hv)
        go_wp2_with (go_at_call 58; refine (in_at (k := k + j) (by omega) _ _ _ (by omega) hs).mono ?_; rintro e w' ⟨rfl, rfl⟩)
        go_ret
        exact ⟨ret_bool HN.out.symm, rfl⟩
      · have HN := Lib.hid (show moreB s k (j + 1) = true by show (moreB s k j && inB s (k + j) 128 191) = true; rw [HM.out, hv]; rfl)
        go_wp2_with (go_at_call 58; refine (in_at (k := k + j) (by omega) _ _ _ (by omega) hs).mono ?_; rintro e w' ⟨rfl, rfl⟩)
        go_roundw
        case rel => exact ⟨j + 1, by omega, by go_num, HN.out, by first | rfl | trivial⟩
        case measure => simp [intOf]; omega
    · obtain rfl : j = n := by omega
      go_wp2_with fail
      go_ret
      exact ⟨ret_bool HM.out.symm, rfl⟩
theorem more_at {s : ByteArray} {x y : Int} {k n : Nat} (hx : x = (k : Int)) (hy : y = (n : Int)) (w : World) (hk : k ≤ 900000) (hn : n ≤ 3) (hs : s.size ≤ 1000000) : Calls Try.prog 72 #[.string s, .int .i64 x, .int .i64 y] w fun e w' => e = .returned (.bool (moreB s k n)) ∧ w = w' := by
  subst hx hy; exact more_any s k n w hk hn hs
theorem in_k1 (s : ByteArray) (k : Nat) (a b : Int) (w : World) (hk : k ≤ 800000) (hs : s.size ≤ 1000000) : Calls Try.prog 58 #[.string s, .int .i64 ((k : Int) + 1), .int .u8 a, .int .u8 b] w fun e w' => e = .returned (.bool (inB s (k + 1) a b)) ∧ w = w' := in_at (by omega) a b w (by omega) hs
theorem more_k1_1 (s : ByteArray) (k : Nat) (w : World) (hk : k ≤ 800000) (hs : s.size ≤ 1000000) : Calls Try.prog 72 #[.string s, .int .i64 ((k : Int) + 1), .int .i64 1] w fun e w' => e = .returned (.bool (moreB s (k + 1) 1)) ∧ w = w' := more_at (by omega) (by omega) w (by omega) (by omega) hs
theorem more_k1_2 (s : ByteArray) (k : Nat) (w : World) (hk : k ≤ 800000) (hs : s.size ≤ 1000000) : Calls Try.prog 72 #[.string s, .int .i64 ((k : Int) + 1), .int .i64 2] w fun e w' => e = .returned (.bool (moreB s (k + 1) 2)) ∧ w = w' := more_at (by omega) (by omega) w (by omega) (by omega) hs
theorem more_k1_3 (s : ByteArray) (k : Nat) (w : World) (hk : k ≤ 800000) (hs : s.size ≤ 1000000) : Calls Try.prog 72 #[.string s, .int .i64 ((k : Int) + 1), .int .i64 3] w fun e w' => e = .returned (.bool (moreB s (k + 1) 3)) ∧ w = w' := more_at (by omega) (by omega) w (by omega) (by omega) hs
theorem more_k2_1 (s : ByteArray) (k : Nat) (w : World) (hk : k ≤ 800000) (hs : s.size ≤ 1000000) : Calls Try.prog 72 #[.string s, .int .i64 ((k : Int) + 2), .int .i64 1] w fun e w' => e = .returned (.bool (moreB s (k + 2) 1)) ∧ w = w' := more_at (by omega) (by omega) w (by omega) (by omega) hs
theorem more_k2_2 (s : ByteArray) (k : Nat) (w : World) (hk : k ≤ 800000) (hs : s.size ≤ 1000000) : Calls Try.prog 72 #[.string s, .int .i64 ((k : Int) + 2), .int .i64 2] w fun e w' => e = .returned (.bool (moreB s (k + 2) 2)) ∧ w = w' := more_at (by omega) (by omega) w (by omega) (by omega) hs
theorem more_k2_3 (s : ByteArray) (k : Nat) (w : World) (hk : k ≤ 800000) (hs : s.size ≤ 1000000) : Calls Try.prog 72 #[.string s, .int .i64 ((k : Int) + 2), .int .i64 3] w fun e w' => e = .returned (.bool (moreB s (k + 2) 3)) ∧ w = w' := more_at (by omega) (by omega) w (by omega) (by omega) hs
end Go.Proofs.Ytllloonfnbhoeaa
/- The document's answer for package lex: the size of a character. -/
namespace Go.Proofs.Ytllloonfnbhoeaa
open Go.RowKit
set_option linter.unusedVariables false
set_option linter.unusedSimpArgs false
set_option maxRecDepth 100000 in
set_option maxHeartbeats 2000000 in
theorem size_any (s : ByteArray) (k : Nat) (w : World) (hk : k ≤ 800000) (hs : s.size ≤ 800000) : Calls Try.prog 57 #[.string s, .int .i64 k] w fun e w' => e = .returned (.int .i64 (sizeB s k)) ∧ w = w' := by
  have hs2 : s.size ≤ 1000000 := by omega
  rcases byte_classes s k with ⟨c0, c1, c2, c3, c4, c5, c6, c7, c8⟩ | ⟨c0, c1, c2, c3, c4, c5, c6, c7, c8⟩ | ⟨c0, c1, c2, c3, c4, c5, c6, c7, c8⟩ | ⟨c0, c1, c2, c3, c4, c5, c6, c7, c8⟩ | ⟨c0, c1, c2, c3, c4, c5, c6, c7, c8⟩ | ⟨c0, c1, c2, c3, c4, c5, c6, c7, c8⟩ | ⟨c0, c1, c2, c3, c4, c5, c6, c7, c8⟩ | ⟨c0, c1, c2, c3, c4, c5, c6, c7, c8⟩ | ⟨c0, c1, c2, c3, c4, c5, c6, c7, c8⟩ | ⟨c0, c1, c2, c3, c4, c5, c6, c7, c8⟩
  all_goals
    generalize hr : sizeB s k = r
    unfold sizeB at hr
    simp only [c0, c1, c2, c3, c4, c5, c6, c7, c8, Bool.false_and, Bool.true_and, Bool.false_or, Bool.or_false, Bool.false_eq_true, if_false, if_true] at hr
  · all_goals
      subst hr
      go_enter Try.func57, Try.ntmps57
      go_wp2_with (first
        | (go_at_call 58; with_reducible refine (in_any s k _ _ _ (by omega) hs2).mono ?_; rintro e w' ⟨rfl, rfl⟩)
        | (go_at_call 58; with_reducible refine (in_k1 s k _ _ _ hk hs2).mono ?_; rintro e w' ⟨rfl, rfl⟩)
        | (go_at_call 72; with_reducible refine (more_k1_1 s k _ hk hs2).mono ?_; rintro e w' ⟨rfl, rfl⟩)
        | (go_at_call 72; with_reducible refine (more_k1_2 s k _ hk hs2).mono ?_; rintro e w' ⟨rfl, rfl⟩)
        | (go_at_call 72; with_reducible refine (more_k1_3 s k _ hk hs2).mono ?_; rintro e w' ⟨rfl, rfl⟩)
        | (go_at_call 72; with_reducible refine (more_k2_1 s k _ hk hs2).mono ?_; rintro e w' ⟨rfl, rfl⟩)
        | (go_at_call 72; with_reducible refine (more_k2_2 s k _ hk hs2).mono ?_; rintro e w' ⟨rfl, rfl⟩)
        | (go_at_call 72; with_reducible refine (more_k2_3 s k _ hk hs2).mono ?_; rintro e w' ⟨rfl, rfl⟩))
      go_ret
      exact ⟨rfl, rfl⟩
  · all_goals
      subst hr
      go_enter Try.func57, Try.ntmps57
      go_wp2_with (first
        | (go_at_call 58; with_reducible refine (in_any s k _ _ _ (by omega) hs2).mono ?_; rintro e w' ⟨rfl, rfl⟩)
        | (go_at_call 58; with_reducible refine (in_k1 s k _ _ _ hk hs2).mono ?_; rintro e w' ⟨rfl, rfl⟩)
        | (go_at_call 72; with_reducible refine (more_k1_1 s k _ hk hs2).mono ?_; rintro e w' ⟨rfl, rfl⟩)
        | (go_at_call 72; with_reducible refine (more_k1_2 s k _ hk hs2).mono ?_; rintro e w' ⟨rfl, rfl⟩)
        | (go_at_call 72; with_reducible refine (more_k1_3 s k _ hk hs2).mono ?_; rintro e w' ⟨rfl, rfl⟩)
        | (go_at_call 72; with_reducible refine (more_k2_1 s k _ hk hs2).mono ?_; rintro e w' ⟨rfl, rfl⟩)
        | (go_at_call 72; with_reducible refine (more_k2_2 s k _ hk hs2).mono ?_; rintro e w' ⟨rfl, rfl⟩)
        | (go_at_call 72; with_reducible refine (more_k2_3 s k _ hk hs2).mono ?_; rintro e w' ⟨rfl, rfl⟩))
      go_ret
      exact ⟨rfl, rfl⟩
  · obtain ⟨v0, m0⟩ : ∃ v, moreB s (k + 1) 1 = v := ⟨_, rfl⟩
    cases v0
    all_goals
      simp only [m0, Bool.false_and, Bool.true_and, Bool.and_true, Bool.and_false, Bool.false_eq_true, if_false, if_true] at hr
      subst hr
      go_enter Try.func57, Try.ntmps57
      go_wp2_with (first
        | (go_at_call 58; with_reducible refine (in_any s k _ _ _ (by omega) hs2).mono ?_; rintro e w' ⟨rfl, rfl⟩)
        | (go_at_call 58; with_reducible refine (in_k1 s k _ _ _ hk hs2).mono ?_; rintro e w' ⟨rfl, rfl⟩)
        | (go_at_call 72; with_reducible refine (more_k1_1 s k _ hk hs2).mono ?_; rintro e w' ⟨rfl, rfl⟩)
        | (go_at_call 72; with_reducible refine (more_k1_2 s k _ hk hs2).mono ?_; rintro e w' ⟨rfl, rfl⟩)
        | (go_at_call 72; with_reducible refine (more_k1_3 s k _ hk hs2).mono ?_; rintro e w' ⟨rfl, rfl⟩)
        | (go_at_call 72; with_reducible refine (more_k2_1 s k _ hk hs2).mono ?_; rintro e w' ⟨rfl, rfl⟩)
        | (go_at_call 72; with_reducible refine (more_k2_2 s k _ hk hs2).mono ?_; rintro e w' ⟨rfl, rfl⟩)
        | (go_at_call 72; with_reducible refine (more_k2_3 s k _ hk hs2).mono ?_; rintro e w' ⟨rfl, rfl⟩))
      go_ret
      exact ⟨rfl, rfl⟩
  · obtain ⟨v0, m0⟩ : ∃ v, inB s (k + 1) 160 191 = v := ⟨_, rfl⟩
    obtain ⟨v1, m1⟩ : ∃ v, moreB s (k + 2) 1 = v := ⟨_, rfl⟩
    cases v0 <;> cases v1
    all_goals
      simp only [m0, m1, Bool.false_and, Bool.true_and, Bool.and_true, Bool.and_false, Bool.false_eq_true, if_false, if_true] at hr
      subst hr
      go_enter Try.func57, Try.ntmps57
      go_wp2_with (first
        | (go_at_call 58; with_reducible refine (in_any s k _ _ _ (by omega) hs2).mono ?_; rintro e w' ⟨rfl, rfl⟩)
        | (go_at_call 58; with_reducible refine (in_k1 s k _ _ _ hk hs2).mono ?_; rintro e w' ⟨rfl, rfl⟩)
        | (go_at_call 72; with_reducible refine (more_k1_1 s k _ hk hs2).mono ?_; rintro e w' ⟨rfl, rfl⟩)
        | (go_at_call 72; with_reducible refine (more_k1_2 s k _ hk hs2).mono ?_; rintro e w' ⟨rfl, rfl⟩)
        | (go_at_call 72; with_reducible refine (more_k1_3 s k _ hk hs2).mono ?_; rintro e w' ⟨rfl, rfl⟩)
        | (go_at_call 72; with_reducible refine (more_k2_1 s k _ hk hs2).mono ?_; rintro e w' ⟨rfl, rfl⟩)
        | (go_at_call 72; with_reducible refine (more_k2_2 s k _ hk hs2).mono ?_; rintro e w' ⟨rfl, rfl⟩)
        | (go_at_call 72; with_reducible refine (more_k2_3 s k _ hk hs2).mono ?_; rintro e w' ⟨rfl, rfl⟩))
      go_ret
      exact ⟨rfl, rfl⟩
  · obtain ⟨v0, m0⟩ : ∃ v, moreB s (k + 1) 2 = v := ⟨_, rfl⟩
    cases v0
    all_goals
      simp only [m0, Bool.false_and, Bool.true_and, Bool.and_true, Bool.and_false, Bool.false_eq_true, if_false, if_true] at hr
      subst hr
      go_enter Try.func57, Try.ntmps57
      go_wp2_with (first
        | (go_at_call 58; with_reducible refine (in_any s k _ _ _ (by omega) hs2).mono ?_; rintro e w' ⟨rfl, rfl⟩)
        | (go_at_call 58; with_reducible refine (in_k1 s k _ _ _ hk hs2).mono ?_; rintro e w' ⟨rfl, rfl⟩)
        | (go_at_call 72; with_reducible refine (more_k1_1 s k _ hk hs2).mono ?_; rintro e w' ⟨rfl, rfl⟩)
        | (go_at_call 72; with_reducible refine (more_k1_2 s k _ hk hs2).mono ?_; rintro e w' ⟨rfl, rfl⟩)
        | (go_at_call 72; with_reducible refine (more_k1_3 s k _ hk hs2).mono ?_; rintro e w' ⟨rfl, rfl⟩)
        | (go_at_call 72; with_reducible refine (more_k2_1 s k _ hk hs2).mono ?_; rintro e w' ⟨rfl, rfl⟩)
        | (go_at_call 72; with_reducible refine (more_k2_2 s k _ hk hs2).mono ?_; rintro e w' ⟨rfl, rfl⟩)
        | (go_at_call 72; with_reducible refine (more_k2_3 s k _ hk hs2).mono ?_; rintro e w' ⟨rfl, rfl⟩))
      go_ret
      exact ⟨rfl, rfl⟩
  · obtain ⟨v0, m0⟩ : ∃ v, inB s (k + 1) 128 159 = v := ⟨_, rfl⟩
    obtain ⟨v1, m1⟩ : ∃ v, moreB s (k + 2) 1 = v := ⟨_, rfl⟩
    cases v0 <;> cases v1
    all_goals
      simp only [m0, m1, Bool.false_and, Bool.true_and, Bool.and_true, Bool.and_false, Bool.false_eq_true, if_false, if_true] at hr
      subst hr
      go_enter Try.func57, Try.ntmps57
      go_wp2_with (first
        | (go_at_call 58; with_reducible refine (in_any s k _ _ _ (by omega) hs2).mono ?_; rintro e w' ⟨rfl, rfl⟩)
        | (go_at_call 58; with_reducible refine (in_k1 s k _ _ _ hk hs2).mono ?_; rintro e w' ⟨rfl, rfl⟩)
        | (go_at_call 72; with_reducible refine (more_k1_1 s k _ hk hs2).mono ?_; rintro e w' ⟨rfl, rfl⟩)
        | (go_at_call 72; with_reducible refine (more_k1_2 s k _ hk hs2).mono ?_; rintro e w' ⟨rfl, rfl⟩)
        | (go_at_call 72; with_reducible refine (more_k1_3 s k _ hk hs2).mono ?_; rintro e w' ⟨rfl, rfl⟩)
        | (go_at_call 72; with_reducible refine (more_k2_1 s k _ hk hs2).mono ?_; rintro e w' ⟨rfl, rfl⟩)
        | (go_at_call 72; with_reducible refine (more_k2_2 s k _ hk hs2).mono ?_; rintro e w' ⟨rfl, rfl⟩)
        | (go_at_call 72; with_reducible refine (more_k2_3 s k _ hk hs2).mono ?_; rintro e w' ⟨rfl, rfl⟩))
      go_ret
      exact ⟨rfl, rfl⟩
  · obtain ⟨v0, m0⟩ : ∃ v, moreB s (k + 1) 2 = v := ⟨_, rfl⟩
    cases v0
    all_goals
      simp only [m0, Bool.false_and, Bool.true_and, Bool.and_true, Bool.and_false, Bool.false_eq_true, if_false, if_true] at hr
      subst hr
      go_enter Try.func57, Try.ntmps57
      go_wp2_with (first
        | (go_at_call 58; with_reducible refine (in_any s k _ _ _ (by omega) hs2).mono ?_; rintro e w' ⟨rfl, rfl⟩)
        | (go_at_call 58; with_reducible refine (in_k1 s k _ _ _ hk hs2).mono ?_; rintro e w' ⟨rfl, rfl⟩)
        | (go_at_call 72; with_reducible refine (more_k1_1 s k _ hk hs2).mono ?_; rintro e w' ⟨rfl, rfl⟩)
        | (go_at_call 72; with_reducible refine (more_k1_2 s k _ hk hs2).mono ?_; rintro e w' ⟨rfl, rfl⟩)
        | (go_at_call 72; with_reducible refine (more_k1_3 s k _ hk hs2).mono ?_; rintro e w' ⟨rfl, rfl⟩)
        | (go_at_call 72; with_reducible refine (more_k2_1 s k _ hk hs2).mono ?_; rintro e w' ⟨rfl, rfl⟩)
        | (go_at_call 72; with_reducible refine (more_k2_2 s k _ hk hs2).mono ?_; rintro e w' ⟨rfl, rfl⟩)
        | (go_at_call 72; with_reducible refine (more_k2_3 s k _ hk hs2).mono ?_; rintro e w' ⟨rfl, rfl⟩))
      go_ret
      exact ⟨rfl, rfl⟩
  · obtain ⟨v0, m0⟩ : ∃ v, inB s (k + 1) 144 191 = v := ⟨_, rfl⟩
    obtain ⟨v1, m1⟩ : ∃ v, moreB s (k + 2) 2 = v := ⟨_, rfl⟩
    cases v0 <;> cases v1
    all_goals
      simp only [m0, m1, Bool.false_and, Bool.true_and, Bool.and_true, Bool.and_false, Bool.false_eq_true, if_false, if_true] at hr
      subst hr
      go_enter Try.func57, Try.ntmps57
      go_wp2_with (first
        | (go_at_call 58; with_reducible refine (in_any s k _ _ _ (by omega) hs2).mono ?_; rintro e w' ⟨rfl, rfl⟩)
        | (go_at_call 58; with_reducible refine (in_k1 s k _ _ _ hk hs2).mono ?_; rintro e w' ⟨rfl, rfl⟩)
        | (go_at_call 72; with_reducible refine (more_k1_1 s k _ hk hs2).mono ?_; rintro e w' ⟨rfl, rfl⟩)
        | (go_at_call 72; with_reducible refine (more_k1_2 s k _ hk hs2).mono ?_; rintro e w' ⟨rfl, rfl⟩)
        | (go_at_call 72; with_reducible refine (more_k1_3 s k _ hk hs2).mono ?_; rintro e w' ⟨rfl, rfl⟩)
        | (go_at_call 72; with_reducible refine (more_k2_1 s k _ hk hs2).mono ?_; rintro e w' ⟨rfl, rfl⟩)
        | (go_at_call 72; with_reducible refine (more_k2_2 s k _ hk hs2).mono ?_; rintro e w' ⟨rfl, rfl⟩)
        | (go_at_call 72; with_reducible refine (more_k2_3 s k _ hk hs2).mono ?_; rintro e w' ⟨rfl, rfl⟩))
      go_ret
      exact ⟨rfl, rfl⟩
  · obtain ⟨v0, m0⟩ : ∃ v, moreB s (k + 1) 3 = v := ⟨_, rfl⟩
    cases v0
    all_goals
      simp only [m0, Bool.false_and, Bool.true_and, Bool.and_true, Bool.and_false, Bool.false_eq_true, if_false, if_true] at hr
      subst hr
      go_enter Try.func57, Try.ntmps57
      go_wp2_with (first
        | (go_at_call 58; with_reducible refine (in_any s k _ _ _ (by omega) hs2).mono ?_; rintro e w' ⟨rfl, rfl⟩)
        | (go_at_call 58; with_reducible refine (in_k1 s k _ _ _ hk hs2).mono ?_; rintro e w' ⟨rfl, rfl⟩)
        | (go_at_call 72; with_reducible refine (more_k1_1 s k _ hk hs2).mono ?_; rintro e w' ⟨rfl, rfl⟩)
        | (go_at_call 72; with_reducible refine (more_k1_2 s k _ hk hs2).mono ?_; rintro e w' ⟨rfl, rfl⟩)
        | (go_at_call 72; with_reducible refine (more_k1_3 s k _ hk hs2).mono ?_; rintro e w' ⟨rfl, rfl⟩)
        | (go_at_call 72; with_reducible refine (more_k2_1 s k _ hk hs2).mono ?_; rintro e w' ⟨rfl, rfl⟩)
        | (go_at_call 72; with_reducible refine (more_k2_2 s k _ hk hs2).mono ?_; rintro e w' ⟨rfl, rfl⟩)
        | (go_at_call 72; with_reducible refine (more_k2_3 s k _ hk hs2).mono ?_; rintro e w' ⟨rfl, rfl⟩))
      go_ret
      exact ⟨rfl, rfl⟩
  · obtain ⟨v0, m0⟩ : ∃ v, inB s (k + 1) 128 143 = v := ⟨_, rfl⟩
    obtain ⟨v1, m1⟩ : ∃ v, moreB s (k + 2) 2 = v := ⟨_, rfl⟩
    cases v0 <;> cases v1
    all_goals
      simp only [m0, m1, Bool.false_and, Bool.true_and, Bool.and_true, Bool.and_false, Bool.false_eq_true, if_false, if_true] at hr
      subst hr
      go_enter Try.func57, Try.ntmps57
      go_wp2_with (first
        | (go_at_call 58; with_reducible refine (in_any s k _ _ _ (by omega) hs2).mono ?_; rintro e w' ⟨rfl, rfl⟩)
        | (go_at_call 58; with_reducible refine (in_k1 s k _ _ _ hk hs2).mono ?_; rintro e w' ⟨rfl, rfl⟩)
        | (go_at_call 72; with_reducible refine (more_k1_1 s k _ hk hs2).mono ?_; rintro e w' ⟨rfl, rfl⟩)
        | (go_at_call 72; with_reducible refine (more_k1_2 s k _ hk hs2).mono ?_; rintro e w' ⟨rfl, rfl⟩)
        | (go_at_call 72; with_reducible refine (more_k1_3 s k _ hk hs2).mono ?_; rintro e w' ⟨rfl, rfl⟩)
        | (go_at_call 72; with_reducible refine (more_k2_1 s k _ hk hs2).mono ?_; rintro e w' ⟨rfl, rfl⟩)
        | (go_at_call 72; with_reducible refine (more_k2_2 s k _ hk hs2).mono ?_; rintro e w' ⟨rfl, rfl⟩)
        | (go_at_call 72; with_reducible refine (more_k2_3 s k _ hk hs2).mono ?_; rintro e w' ⟨rfl, rfl⟩))
      go_ret
      exact ⟨rfl, rfl⟩
end Go.Proofs.Ytllloonfnbhoeaa
/- Tokens in memory; what a reader of scripts answers. -/
namespace Go.Proofs.Ytllloonfnbhoeaa
open Go.RowKit
set_option linter.unusedVariables false
set_option linter.unusedSimpArgs false
def textV : Option Nat → Value
  | none => .tuple #[.int .i64 0, .bool true]
  | some p => .tuple #[.int .i64 (p : Int), .bool false]
def encT (t : Tok) : List Value := [.int .i64 t.kind, .int .i32 t.sign, .int .i64 t.n, .int .i64 t.at_]
theorem encT_len (t : Tok) : (encT t).length = 4 := rfl
theorem toks_at {w : World} {A : Option Addr} {n : Nat} {zs : List Tok} (h : Rows 4 encT w A n zs) {i : Nat} (hi : i < n) :
    ∃ b off x y u v, A = some ⟨b, off, none⟩ ∧ b < w.heap.size ∧ zs[i]? = some ⟨x, y, u, v⟩ ∧ w.cell? ⟨b, off + i * 4, none⟩ = some (.int .i64 x) ∧ w.cell? ⟨b, off + i * 4 + 1, none⟩ = some (.int .i32 y) ∧ w.cell? ⟨b, off + i * 4 + 2, none⟩ = some (.int .i64 u) ∧ w.cell? ⟨b, off + i * 4 + 3, none⟩ = some (.int .i64 v) := by
  obtain ⟨b, off, ⟨x, y, u, v⟩, h1, h2, h3, h4⟩ := h.at_ hi
  exact ⟨b, off, x, y, u, v, h1, h2, h3, h4 0 _ rfl, h4 1 _ rfl, h4 2 _ rfl, h4 3 _ rfl⟩
theorem tok_info : (Try.prog.info? 76).map (fun i => (i.zero, i.size, i.bytes)) = some (some (.agg #[.int .i64 0, .int .i32 0, .int .i64 0, .int .i64 0]), 4, 32) := by kernel_rfl
def LexPost (w : World) (s : ByteArray) (e : Ending) (w' : World) : Prop :=
  (∃ toks A n c, lexB s = (some toks, 0) ∧ e = .returned (.tuple #[.slice A n c, .int .i64 0, .int .i64 0]) ∧ Rows 4 encT w' A n toks ∧ (n ≤ s.size ∧ n ≤ c ∧ ∀ p, A = some p → p.block < w'.heap.size) ∧ Below w.heap.size w w') ∨
  (∃ k : Nat, lexB s = (none, k) ∧ e = .returned (.tuple #[.slice none 0 0, .int .i64 (k : Int), .int .i64 1]) ∧ k < s.size ∧ Below w.heap.size w w')
theorem owns_cap {w : World} {base : Nat} {e : TypeId} {size : Nat} {A : Option Addr} {n c : Nat} {xs : List Value} (h : w.ownsRow base e size (.slice A n c) n xs) : n ≤ c := by
  rcases h.2 with ⟨h1, h2⟩ | ⟨g, cap, cur, h1, _, _, h2, _⟩
  · omega
  · injection h1 with _ _ h1; omega
theorem owns_at {w : World} {base : Nat} {e : TypeId} {size : Nat} {A : Option Addr} {n c : Nat} {xs : List Value} (h : w.ownsRow base e size (.slice A n c) n xs) : ∀ p, A = some p → p.block < w.heap.size := by
  intro p hp
  subst hp
  rcases h.2 with ⟨h1, h2⟩ | ⟨g, cap, cur, h1, _, h2, _⟩
  · injection h1 with h1; cases h1
  · injection h1 with h1; injection h1 with h1; subst h1
    exact (Array.getElem?_eq_some_iff.1 h2).1
theorem tok_cells (w : World) (a b c d : Int) (t : TypeId) (n : Nat) (hn : n = w.heap.size) : Cells (w.alloc (.cells #[.int .i64 a, .int .i32 b, .int .i64 c, .int .i64 d] t)) (some ⟨n, 0, none⟩) 1 4 [.int .i64 a, .int .i32 b, .int .i64 c, .int .i64 d] := by
  subst hn
  refine ⟨rfl, by decide, fun _ => ⟨_, _, rfl, by simp, fun j u hu => ?_⟩⟩
  rw [Nat.zero_add]; exact (Box.new w [.int .i64 a, .int .i32 b, .int .i64 c, .int .i64 d] t).2.2 j u hu
theorem tok_cell4 (a b c d : Int) : ∀ u ∈ ([.int .i64 a, .int .i32 b, .int .i64 c, .int .i64 d] : List Value), u.oneCell' = true := by
  intro u hu; simp at hu; rcases hu with rfl | rfl | rfl | rfl <;> rfl
theorem toks_snoc (out : List Tok) (t : Tok) : (out ++ [t]).flatMap encT = out.flatMap encT ++ encT t := by rw [List.flatMap_append]; simp
end Go.Proofs.Ytllloonfnbhoeaa
/- A style as cells. -/
namespace Go.Proofs.Ytllloonfnbhoeaa
open Go.RowKit
set_option linter.unusedVariables false
set_option linter.unusedSimpArgs false
def encS12 (s : Sty) : List Value := [.int .i64 s.top, .int .i64 s.bottom, .int .i64 s.padTop, .int .i64 s.padBottom, .int .i64 s.inset, .int .i64 s.orphans, .int .i64 s.widows, .int .i64 s.head, .int .i64 s.before, .int .i64 s.after, .int .i64 s.inside, .int .i64 s.clear]
end Go.Proofs.Ytllloonfnbhoeaa
/- Nodes in memory; what a reader of nodes answers. -/
namespace Go.Proofs.Ytllloonfnbhoeaa
open Go.RowKit
set_option linter.unusedVariables false
set_option linter.unusedSimpArgs false
structure NdM where
  kind : Int
  size : Int
  sty : Sty
  line : Int
  space : Int
  A : Option Addr
  n : Nat
  c : Nat
  side : Int
  w : Int
  h : Int
def encM (m : NdM) : List Value := [.int .i64 m.kind, .int .i64 m.size, .int .i64 m.sty.top, .int .i64 m.sty.bottom, .int .i64 m.sty.padTop, .int .i64 m.sty.padBottom, .int .i64 m.sty.inset, .int .i64 m.sty.orphans, .int .i64 m.sty.widows, .int .i64 m.sty.head, .int .i64 m.sty.before, .int .i64 m.sty.after, .int .i64 m.sty.inside, .int .i64 m.sty.clear,
  .int .i64 m.line, .int .i64 m.space, .slice m.A m.n m.c, .int .i64 m.side, .int .i64 m.w, .int .i64 m.h]
theorem encM_len (m : NdM) : (encM m).length = 20 := rfl
theorem encM_one (m : NdM) : ∀ u ∈ encM m, u.oneCell' = true := by
  intro u hu
  simp only [encM, List.mem_cons, List.not_mem_nil, or_false] at hu
  rcases hu with h | h | h | h | h | h | h | h | h | h | h | h | h | h | h | h | h | h | h | h <;> subst h <;> rfl
theorem encMs_one (zs : List NdM) : ∀ u ∈ zs.flatMap encM, u.oneCell' = true := by
  intro u hu
  obtain ⟨m, _, hm⟩ := List.mem_flatMap.1 hu
  exact encM_one m u hm
/-- the node x lies there as m; its words in a row of their own, from block base on. -/
def Holds (base : Nat) (w : World) (m : NdM) (x : Nd) : Prop := (x.kind = m.kind ∧ x.size = m.size ∧ x.sty = m.sty ∧ x.line = m.line ∧ x.space = m.space ∧ x.side = m.side ∧ x.w = m.w ∧ x.h = m.h) ∧ w.ownsRow base 3 1 (.slice m.A m.n m.c) m.n (x.words.map (Value.int .i64))
def Holds2 (base : Nat) (w : World) (zs : List NdM) (l : List Nd) : Prop := zs.length = l.length ∧ ∀ (i : Nat) (m : NdM) (x : Nd), zs[i]? = some m → l[i]? = some x → Holds base w m x
theorem Holds2.below {base : Nat} {w w' : World} {zs : List NdM} {l : List Nd} (h : Holds2 base w zs l) (hb : Below w.heap.size w w') : Holds2 base w' zs l :=
  ⟨h.1, fun i m x h1 h2 => ⟨(h.2 i m x h1 h2).1, owns_below (h.2 i m x h1 h2).2 hb⟩⟩
theorem Holds2.nil (base : Nat) (w : World) : Holds2 base w [] [] := ⟨rfl, fun i m x h => by simp at h⟩
theorem Holds2.append {base : Nat} {w : World} {zs zs' : List NdM} {l l' : List Nd} (h : Holds2 base w zs l) (h' : Holds2 base w zs' l') : Holds2 base w (zs ++ zs') (l ++ l') := by
  refine ⟨by rw [List.length_append, List.length_append, h.1, h'.1], fun i m x h1 h2 => ?_⟩
  by_cases hi : i < zs.length
  · rw [List.getElem?_append_left hi] at h1
    rw [List.getElem?_append_left (by rw [← h.1]; exact hi)] at h2
    exact h.2 i m x h1 h2
  · rw [List.getElem?_append_right (by omega)] at h1
    rw [List.getElem?_append_right (by rw [← h.1]; omega), ← h.1] at h2
    exact h'.2 _ m x h1 h2
theorem Holds2.one {base : Nat} {w : World} {m : NdM} {x : Nd} (h : Holds base w m x) : Holds2 base w [m] [x] := by
  refine ⟨rfl, fun i m' x' h1 h2 => ?_⟩
  cases i with
  | zero => simp at h1 h2; subst h1 h2; exact h
  | succ i => simp at h1
/-- the slice's block is one from base on. -/
def Far (base : Nat) (A : Option Addr) : Prop := ∀ p, A = some p → base ≤ p.block
theorem Far.nil (base : Nat) : Far base .none := fun p h => by cases h
theorem Far.at_ {base g : Nat} (h : base ≤ g) : Far base (some ⟨g, 0, .none⟩) := fun p e => by cases e; exact h
theorem Far.up {base base' : Nat} {A : Option Addr} (h : Far base A) (hb : base' ≤ base) : Far base' A := fun p e => Nat.le_trans hb (h p e)
theorem Far.owns {w : World} {base : Nat} {e : TypeId} {size : Nat} {A : Option Addr} {n c : Nat} {xs : List Value} (h : w.ownsRow base e size (.slice A n c) n xs) : Far base A := fun p hp => owns_block h p.block (by subst hp; rfl)
/-- all blocks from base on are as they were. -/
def Same (base : Nat) (w w' : World) : Prop := w.heap.size ≤ w'.heap.size ∧ ∀ k, base ≤ k → k < w.heap.size → w'.heap[k]? = w.heap[k]?
theorem Same.refl (base : Nat) (w : World) : Same base w w := ⟨Nat.le_refl _, fun _ _ _ => rfl⟩
theorem Same.below {base : Nat} {w w' : World} (h : Below w.heap.size w w') : Same base w w' := ⟨h.size, fun k _ hk => h.block k hk⟩
theorem Same.set {base : Nat} (w : World) {m : Nat} (hm : m < base) (j : Nat) (v : Value) : Same base w (w.setCell ⟨m, j, .none⟩ v) :=
  ⟨by simp, fun k hk _ => Below.heap_setCell _ _ _ _ (fun e => by simp at e; omega)⟩
theorem Same.trans {base : Nat} {a b c : World} (h : Same base a b) (k : Same base b c) : Same base a c := ⟨Nat.le_trans h.1 k.1, fun i hi hl => (k.2 i hi (Nat.lt_of_lt_of_le hl h.1)).trans (h.2 i hi hl)⟩
theorem Rows.same {α : Type} {k : Nat} {enc : α → List Value} {w w' : World} {A : Option Addr} {n : Nat} {zs : List α} {base : Nat} (h : Rows k enc w A n zs) (hA : Far base A) (hs : Same base w w') : Rows k enc w' A n zs :=
  ⟨h.1, h.2.1, fun hn => by
    obtain ⟨b, off, e, hl, hc⟩ := h.2.2 hn
    have hb := hA _ e
    exact ⟨b, off, e, Nat.lt_of_lt_of_le hl hs.1, fun i x hx j v hv => (World.cell?_of_block (w := w) (a := ⟨b, _, .none⟩) (hs.2 b hb hl)).trans (hc i x hx j v hv)⟩⟩
theorem owns_same {w w' : World} {base : Nat} {e : TypeId} {size : Nat} {v : Value} {n : Nat} {xs : List Value} (h : w.ownsRow base e size v n xs) (hs : Same base w w') : w'.ownsRow base e size v n xs := by
  refine ⟨h.1, ?_⟩
  rcases h.2 with h2 | ⟨g, cap, cur, h1, h2, h3, h4⟩
  · exact .inl h2
  · exact .inr ⟨g, cap, cur, h1, h2, (hs.2 g h2 (Array.getElem?_eq_some_iff.1 h3).1).trans h3, h4⟩
theorem owns_up {w : World} {base base' : Nat} {e : TypeId} {size : Nat} {v : Value} {n : Nat} {xs : List Value} (h : w.ownsRow base e size v n xs) (hb : base' ≤ base) : w.ownsRow base' e size v n xs := by
  refine ⟨h.1, ?_⟩
  rcases h.2 with h2 | ⟨g, cap, cur, h1, h2, h3⟩
  · exact .inl h2
  · exact .inr ⟨g, cap, cur, h1, by omega, h3⟩
/-- a step that turns a row of another type. -/
theorem owns_grown {w w' : World} {base base' : Nat} {e e' : TypeId} {size size' : Nat} {v v' : Value} {n n' : Nat} {xs xs' : List Value} (h : w.ownsRow base e size v n xs) (h' : w.ownsRow base' e' size' v' n' xs') (hne : e ≠ e') (hg : w.grownBy w' v'.ownBlock) : w'.ownsRow base e size v n xs := by
  refine ⟨h.1, ?_⟩
  rcases h.2 with h2 | ⟨g, cap, cur, h1, h2, h3, h4⟩
  · exact .inl h2
  · refine .inr ⟨g, cap, cur, h1, h2, (hg.block g (Array.getElem?_eq_some_iff.1 h3).1 (fun q => ?_)).trans h3, h4⟩
    rcases h'.2 with ⟨k, _⟩ | ⟨g', cap', cur', k, _, k3, _⟩
    · rw [k] at q; cases q
    · rw [k] at q
      injection q with q
      rw [show g = g' from q, k3] at h3
      injection h3 with h3
      injection h3 with _ h3 _
      exact hne h3.symm
theorem Holds2.grown {base base' : Nat} {w w' : World} {zs : List NdM} {l : List Nd} {e' : TypeId} {size' n' : Nat} {v' : Value} {xs' : List Value} (h : Holds2 base w zs l) (h' : w.ownsRow base' e' size' v' n' xs') (hne : 3 ≠ e') (hg : w.grownBy w' v'.ownBlock) : Holds2 base w' zs l :=
  ⟨h.1, fun i m x h1 h2 => ⟨(h.2 i m x h1 h2).1, owns_grown (h.2 i m x h1 h2).2 h' hne hg⟩⟩
theorem Holds2.same {base : Nat} {w w' : World} {zs : List NdM} {l : List Nd} (h : Holds2 base w zs l) (hs : Same base w w') : Holds2 base w' zs l :=
  ⟨h.1, fun i m x h1 h2 => ⟨(h.2 i m x h1 h2).1, owns_same (h.2 i m x h1 h2).2 hs⟩⟩
theorem Holds2.up {base base' : Nat} {w : World} {zs : List NdM} {l : List Nd} (h : Holds2 base w zs l) (hb : base' ≤ base) : Holds2 base' w zs l :=
  ⟨h.1, fun i m x h1 h2 => ⟨(h.2 i m x h1 h2).1, owns_up (h.2 i m x h1 h2).2 hb⟩⟩
theorem Holds.ints {base : Nat} {w : World} {m : NdM} {x : Nd} (h : Holds base w m x) : Ints w m.A m.n x.words := (ownsRow_cells h.2).ints
/-- nodes in memory, all of it from block base on. -/
def Nds (base : Nat) (w : World) (A : Option Addr) (n : Nat) (l : List Nd) : Prop := ∃ zs : List NdM, Rows 20 encM w A n zs ∧ Holds2 base w zs l ∧ Far base A
theorem Nds.same {base : Nat} {w w' : World} {A : Option Addr} {n : Nat} {l : List Nd} (h : Nds base w A n l) (hs : Same base w w') : Nds base w' A n l := by
  obtain ⟨zs, h1, h2, h3⟩ := h
  exact ⟨zs, h1.same h3 hs, h2.same hs, h3⟩
theorem Nds.below {base : Nat} {w w' : World} {A : Option Addr} {n : Nat} {l : List Nd} (h : Nds base w A n l) (hb : Below w.heap.size w w') : Nds base w' A n l := h.same (Same.below hb)
theorem Nds.up {base base' : Nat} {w : World} {A : Option Addr} {n : Nat} {l : List Nd} (h : Nds base w A n l) (hb : base' ≤ base) : Nds base' w A n l := by
  obtain ⟨zs, h1, h2, h3⟩ := h
  exact ⟨zs, h1, h2.up hb, h3.up hb⟩
theorem Nds.nil (base : Nat) (w : World) : Nds base w .none 0 [] := ⟨[], Rows.nil _ _, Holds2.nil _ _, Far.nil _⟩
theorem Nds.len {base : Nat} {w : World} {A : Option Addr} {n : Nat} {l : List Nd} (h : Nds base w A n l) : l.length = n := by
  obtain ⟨zs, h1, h2, _⟩ := h
  rw [← h2.1]; exact h1.1
/-- a number of nodes is no more than that of the tokens. -/
theorem Parse.len {l : List Tok} {t : Bool} {i : Nat} {out : List Nd} {r : Res (List Nd)} (h : Parse l t i out r) : ∀ x b, r = .ok x b → x.length + i ≤ out.length + b := by
  have hbox : ∀ i kind side e x b, boxR l i kind side e = .ok x b → x.length + i ≤ b := by
    intro i kind side e x b hr
    unfold boxR at hr
    split at hr
    · cases hr
    split at hr
    · cases hr
    split at hr
    · cases hr
    · cases hr; simp; omega
  induction h with
  | stop _ => intro x b h; cases h; omega
  | more _ _ _ ih1 ih2 => intro x b h; have := ih1 _ _ rfl; have := ih2 _ _ h; simp at *; omega
  | fail _ _ _ => intro x b h; cases h
  | blockA _ _ => intro x b h; cases h
  | blockN _ _ _ _ => intro x b h; cases h
  | blockE _ _ _ _ _ => intro x b h; cases h
  | block _ g2 _ _ ih => intro x b h; cases h; have := ih _ _ rfl; have := g2.le; simp [Res.at_] at *; omega
  | textL _ _ => intro x b h; cases h
  | textS _ _ _ => intro x b h; cases h
  | textW _ _ _ _ _ => intro x b h; cases h
  | text _ _ _ g4 _ _ => intro x b h; cases h; have := g4.le; simp; omega
  | mono _ => intro x b h; have := hbox _ _ _ _ _ _ h; simp; omega
  | left _ _ => intro x b h; have := hbox _ _ _ _ _ _ h; simp; omega
  | right _ _ => intro x b h; have := hbox _ _ _ _ _ _ h; simp; omega
  | side _ _ _ => intro x b h; cases h
def gotV (A : Option Addr) (n c : Nat) (p wrong : Int) : Value := .agg #[.slice A n c, .int .i64 p, .int .i64 wrong]
/-- what one of the readers answers. -/
def GotR (w : World) (r : Res (List Nd)) (e : Ending) (w' : World) : Prop := match r with
  | .ok x b => ∃ A n c, e = .returned (gotV A n c b 0) ∧ Nds w.heap.size w' A n x ∧ Below w.heap.size w w'
  | .bad p => e = .returned (gotV none 0 0 p 1) ∧ Below w.heap.size w w'
def GotP (toks : List Tok) (t : Bool) (i : Nat) (w : World) (e : Ending) (w' : World) : Prop := ∃ r, Parse toks t i [] r ∧ GotR w r e w'
/-- a block that holds a struct, read whole. -/
theorem box_load {P : Program} {w : World} {n k : Nat} {vs : List Value} (h : Box w n vs) (hk : vs.length = k) (cs : Array Value) (hc : cs = vs.toArray) : (loadCellsFrom ⟨n, 0, none⟩ 0 k #[]).run P w = .ok cs w := by
  subst hk hc
  have := run_loadCells_list (P := P) w ⟨n, 0, none⟩ vs (fun j v hv => by
    rw [Go.WideShapes.add_plain, Nat.zero_add]; exact h.2.2 j v hv)
  simpa [loadCells] using this
theorem box3_of {w : World} {n : Nat} {a b c : Value} (h : Box w n [a, b, c]) : (w.cell? ⟨n, 0, none⟩ = some a ∧ w.cell? ⟨n, 1, none⟩ = some b ∧ w.cell? ⟨n, 2, none⟩ = some c) ∧ (w.frozen? ⟨n, 0, none⟩ = false ∧ w.frozen? ⟨n, 1, none⟩ = false ∧ w.frozen? ⟨n, 2, none⟩ = false) ∧ n < w.heap.size :=
  ⟨⟨h.2.2 0 _ rfl, h.2.2 1 _ rfl, h.2.2 2 _ rfl⟩, ⟨h.2.1 _, h.2.1 _, h.2.1 _⟩, h.1⟩
theorem rows_box {α : Type} {k : Nat} {enc : α → List Value} (hk : ∀ x, (enc x).length = k) {w : World} {n : Nat} {zs : List α} (h : Box w n (zs.flatMap enc)) (hl : zs.length ≤ 1000000) : Rows k enc w (some ⟨n, 0, none⟩) zs.length zs := by
  refine ⟨rfl, by omega, fun _ => ⟨n, 0, rfl, h.1, fun i x hx j v hv => ?_⟩⟩
  rw [Nat.zero_add]
  exact h.2.2 _ _ (flat_get hk zs i x j v hx hv)
theorem box_new (w : World) (vs : List Value) (t : TypeId) (n : Nat) (h : n = w.heap.size) (cs : Array Value) (hc : cs = vs.toArray) : Box (w.alloc (.cells cs t)) n vs := by subst h hc; exact Box.new w vs t
end Go.Proofs.Ytllloonfnbhoeaa
/- Styles compared; nodes compared. -/
namespace Go.Proofs.Ytllloonfnbhoeaa
open Go.RowKit
set_option linter.unusedVariables false
set_option linter.unusedSimpArgs false
def litS (s : Sty) : List Lit := [.int .i64 s.top, .int .i64 s.bottom, .int .i64 s.padTop, .int .i64 s.padBottom, .int .i64 s.inset, .int .i64 s.orphans, .int .i64 s.widows, .int .i64 s.head, .int .i64 s.before, .int .i64 s.after, .int .i64 s.inside, .int .i64 s.clear]
def styB (s t : Sty) : Bool := s.top == t.top && s.bottom == t.bottom && s.padTop == t.padTop && s.padBottom == t.padBottom && s.inset == t.inset && s.orphans == t.orphans && s.widows == t.widows && s.head == t.head && s.before == t.before && s.after == t.after && s.inside == t.inside && s.clear == t.clear
theorem styB_iff (s t : Sty) : styB s t = true ↔ s = t := by
  obtain ⟨a0, a1, a2, a3, a4, a5, a6, a7, a8, a9, a10, a11⟩ := s
  obtain ⟨b0, b1, b2, b3, b4, b5, b6, b7, b8, b9, b10, b11⟩ := t
  simp [styB, and_assoc]
theorem litS_iff (s t : Sty) : litS s = litS t ↔ s = t := by
  obtain ⟨a0, a1, a2, a3, a4, a5, a6, a7, a8, a9, a10, a11⟩ := s
  obtain ⟨b0, b1, b2, b3, b4, b5, b6, b7, b8, b9, b10, b11⟩ := t
  simp [litS]
theorem part_int (xs : Array Value) (k : Nat) (v : Value) (h : xs[k]? = some v) (w : World) : (part 3 xs k).run Try.prog w = .ok v w := run_part_plain w (by kernel_rfl) h
theorem ite_ok {p : Prop} [Decidable p] {c : Bool} {w : World} : (if p then Result.ok c w else Result.ok false w) = Result.ok (decide p && c) w := by split <;> simp_all
theorem ite_and {b : Bool} {c : Bool} {w : World} : (if (!b) = true then Result.ok false w else Result.ok c w) = Result.ok (b && c) w := by cases b <;> rfl
set_option maxRecDepth 10000 in
theorem sty_equal (s t : Sty) (w : World) : (Op.equalIn 10000 39 (.agg (encS12 s).toArray) (.agg (encS12 t).toArray)).run Try.prog w = .ok (styB s t) w := by
  obtain ⟨a0, a1, a2, a3, a4, a5, a6, a7, a8, a9, a10, a11⟩ := s
  obtain ⟨b0, b1, b2, b3, b4, b5, b6, b7, b8, b9, b10, b11⟩ := t
  rw [show (10000 : Nat) = 9999 + 1 from rfl, run_equalIn_struct w 9999 _ _ _ (by kernel_rfl) (by kernel_rfl)]
  have hi : ∀ (a b : Int) (w : World), (Op.equalIn 9999 3 (.int .i64 a) (.int .i64 b)).run Try.prog w = .ok (a == b) w := fun a b w => run_equalIn_int w 9998 3 .i64 .i64 a b Try.underlying3
  simp [Program.fieldsOf, Try.underlying39, Op.eqFields, encS12, part_int, hi, styB, ite_and]
  simp only [ite_ok]
  congr 1
  rw [Bool.eq_iff_iff]
  simp [and_assoc]
/-- two nodes are the same. -/
def ndB (x y : Nd) : Bool := x.kind == y.kind && x.size == y.size && styB x.sty y.sty && x.line == y.line && x.space == y.space && x.side == y.side && x.w == y.w && x.h == y.h && x.words == y.words
theorem ndB_iff (x y : Nd) : ndB x y = true ↔ x = y := by
  obtain ⟨a0, a1, a2, a3, a4, a5, a6, a7, a8⟩ := x
  obtain ⟨b0, b1, b2, b3, b4, b5, b6, b7, b8⟩ := y
  simp [ndB, styB_iff]
  constructor
  · rintro ⟨⟨⟨⟨⟨⟨⟨⟨h1, h2⟩, h3⟩, h4⟩, h5⟩, h6⟩, h7⟩, h8⟩, h9⟩
    exact ⟨h1, h2, h3, h4, h5, h9, h6, h7, h8⟩
  · rintro ⟨h1, h2, h3, h4, h5, h9, h6, h7, h8⟩
    exact ⟨⟨⟨⟨⟨⟨⟨⟨h1, h2⟩, h3⟩, h4⟩, h5⟩, h6⟩, h7⟩, h8⟩, h9⟩
/-- a node that can be read there: its words, too. -/
def Shows (w : World) (m : NdM) (x : Nd) : Prop := (x.kind = m.kind ∧ x.size = m.size ∧ x.sty = m.sty ∧ x.line = m.line ∧ x.space = m.space ∧ x.side = m.side ∧ x.w = m.w ∧ x.h = m.h) ∧ Ints w m.A m.n x.words
theorem Shows.below {w w' : World} {m : NdM} {x : Nd} (h : Shows w m x) (hb : Below w.heap.size w w') : Shows w' m x := ⟨h.1, (h.2.cells.below hb rfl).ints⟩
theorem Holds.shows {base : Nat} {w : World} {m : NdM} {x : Nd} (h : Holds base w m x) : Shows w m x := ⟨h.1, h.ints⟩
/-- nodes that can be read there. -/
def Sees (w : World) (A : Option Addr) (n : Nat) (l : List Nd) : Prop := ∃ zs : List NdM, Rows 20 encM w A n zs ∧ zs.length = l.length ∧ ∀ (i : Nat) (m : NdM) (x : Nd), zs[i]? = some m → l[i]? = some x → Shows w m x
theorem Sees.below {w w' : World} {A : Option Addr} {n : Nat} {l : List Nd} (h : Sees w A n l) (hb : Below w.heap.size w w') : Sees w' A n l := by
  obtain ⟨zs, h1, h2, h3⟩ := h
  exact ⟨zs, h1.below hb, h2, fun i m x h4 h5 => (h3 i m x h4 h5).below hb⟩
theorem Nds.sees {base : Nat} {w : World} {A : Option Addr} {n : Nat} {l : List Nd} (h : Nds base w A n l) : Sees w A n l := by
  obtain ⟨zs, h1, h2, h3⟩ := h
  exact ⟨zs, h1, h2.1, fun i m x h4 h5 => (h2.2 i m x h4 h5).shows⟩
theorem Sees.len {w : World} {A : Option Addr} {n : Nat} {l : List Nd} (h : Sees w A n l) : l.length = n := by
  obtain ⟨zs, h1, h2, _⟩ := h
  rw [← h2]; exact h1.1
end Go.Proofs.Ytllloonfnbhoeaa
/- Of package unit: Clamp, May, Add (for seats that reach no other function of it). -/
namespace Go.Proofs.Ytllloonfnbhoeaa
open Go.RowKit
set_option linter.unusedVariables false
set_option linter.unusedSimpArgs false
theorem clamp_any (n : Int) (w : World) : Calls Try.prog 62 #[.int .i64 n] w fun e w' => e = .returned (.int .i64 (lim n)) ∧ w = w' := by
  go_enter Try.func62, Try.ntmps62
  go_wp2
  all_goals go_ret
  all_goals exact ⟨ret_int (by unfold lim; omega), rfl⟩
theorem may_any (n : Int) (w : World) : Calls Try.prog 30 #[.int .i64 n] w fun e w' => e = .returned (.bool (decide (1 ≤ n) && decide (n ≤ 1099511627776))) ∧ w = w' := by
  by_cases h1 : 1 ≤ n <;> by_cases h2 : n ≤ 1099511627776
  all_goals
    go_enter Try.func30, Try.ntmps30
    go_wp2
    go_ret
    exact ⟨ret_bool (by simp [h1, h2]), rfl⟩
set_option maxHeartbeats 400000 in
theorem add_any (A : Option Addr) (n c : Nat) (zs : List Int) (w : World) (hz : Ints w A n zs) :
    Calls Try.prog 49 #[.slice A n c] w fun e w' => e = .returned (.int .i64 (sumL zs)) ∧ w = w' := by
  have hn := hz.2.1
  have HL := Lib.hid hz.1
  have HZ := Lib.hid hz
  clear hz
  go_enter Try.func49, Try.ntmps49
  go_wp2
  go_loop [3, 8] (fun s i => ∃ k : Nat, k ≤ n ∧ i = .int .i64 k ∧ s = .int .i64 (sumL (zs.take k))) (fun _ i => n - (intOf i).toNat)
  case atStart => exact ⟨0, by omega, rfl, rfl⟩
  case round =>
    obtain ⟨k, hk, rfl, rfl⟩ := hrel
    have hs := sumL_bd (zs.take k)
    by_cases hlt : k < n
    · have hl := lim_bd (zs[k]?.getD 0)
      have HT := Lib.hid (take_snoc_getD zs k (by rw [HL.out]; exact hlt))
      obtain ⟨b, off, rfl, hc⟩ := HZ.out.at_ hlt
      go_wp2_with (go_at_call 62; refine (clamp_any _ _).mono ?_; rintro e w' ⟨rfl, rfl⟩)
      go_round
      case rel => exact ⟨k + 1, by omega, by go_num, by rw [HT.out, sumL_snoc]⟩
      case measure => simp [intOf]; omega
    · go_wp2_with fail
      go_ret
      exact ⟨ret_int (by rw [List.take_of_length_le (by rw [HL.out]; omega)]), rfl⟩
end Go.Proofs.Ytllloonfnbhoeaa
/- The program's package valid: an odd number is looked for. -/
namespace Go.Proofs.Ytllloonfnbhoeaa
open Go.RowKit
set_option linter.unusedVariables false
set_option linter.unusedSimpArgs false
def oddB (a b n : Int) : Bool := !fromB n a b
theorem odd1_any (n a b : Int) (g3 g4 : Nat) (w : World) (h3 : w.cell? ⟨g3, 0, none⟩ = some (.int .i64 a)) (h4 : w.cell? ⟨g4, 0, none⟩ = some (.int .i64 b)) : Calls Try.prog 77 #[.int .i64 n, .pointer (some ⟨g3, 0, none⟩), .pointer (some ⟨g4, 0, none⟩)] w fun e w' => e = .returned (.bool (oddB a b n)) ∧ w = w' := by
  by_cases h : n < a
  all_goals
    go_enter Try.func77, Try.ntmps77
    go_wp2_with fail
    go_ret
    refine ⟨ret_bool ?_, rfl⟩
    rw [Bool.eq_iff_iff]
    simp [oddB, fromB] <;> omega
theorem odd1_to {n a b : Int} {v : Bool} (hv : oddB a b n = v) {g3 g4 : Nat} (w : World) (h3 : w.cell? ⟨g3, 0, none⟩ = some (.int .i64 a)) (h4 : w.cell? ⟨g4, 0, none⟩ = some (.int .i64 b)) : Calls Try.prog 77 #[.int .i64 n, .pointer (some ⟨g3, 0, none⟩), .pointer (some ⟨g4, 0, none⟩)] w fun e w' => e = .returned (.bool v) ∧ w = w' := by
  subst hv; exact odd1_any n a b g3 g4 w h3 h4
theorem any_at {zs : List Int} {a b : Int} {k : Nat} (hk : k < zs.length) (h : oddB a b (zs[k]?.getD 0) = true) : zs.any (oddB a b) = true := by
  rw [List.any_eq_true]
  refine ⟨zs[k], List.getElem_mem hk, ?_⟩
  simpa [hk] using h
theorem any_no {zs : List Int} {a b : Int} (h : ∀ j, j < zs.length → oddB a b (zs[j]?.getD 0) = false) : zs.any (oddB a b) = false := by
  rw [List.any_eq_false]
  intro z hz
  obtain ⟨j, hj, rfl⟩ := List.getElem_of_mem hz
  have := h j hj
  simp [hj] at this
  simp [this]
set_option maxHeartbeats 2000000 in
theorem indexf_any (zs : List Int) (a b : Int) (g3 g4 : Nat) (A : Option Addr) (n c : Nat) (w : World) (hz : Ints w A n zs) (h3 : w.cell? ⟨g3, 0, none⟩ = some (.int .i64 a)) (h4 : w.cell? ⟨g4, 0, none⟩ = some (.int .i64 b)) :
    Calls Try.prog 84 #[.slice A n c, .func (.func 77) #[] #[.pointer (some ⟨g3, 0, none⟩), .pointer (some ⟨g4, 0, none⟩)]] w fun e w' => ∃ i : Int, e = .returned (.int .i64 i) ∧ decide (0 ≤ i) = zs.any (oddB a b) ∧ w = w' := by
  have hl := hz.1
  have hn := hz.2.1
  have HZ := Lib.hid hz
  have H3 := Lib.hid h3
  have H4 := Lib.hid h4
  clear hz h3 h4
  go_enter Try.func84, Try.ntmps84
  go_wp2_with fail
  go_loopw [8] (fun i wr => ∃ k : Nat, k ≤ n ∧ i = .int .i64 k ∧ (∀ j, j < k → oddB a b (zs[j]?.getD 0) = false) ∧ wr = w) (fun i _ => n - (intOf i).toNat)
  case atStart => exact ⟨0, by omega, rfl, fun j hj => by omega, rfl⟩
  case round =>
    obtain ⟨k, hk, rfl, hno, rfl⟩ := hrel
    have HN := Lib.hid hno
    clear hno
    by_cases hlt : k < n
    · have hk2 : (k : Int) < (n : Int) := by omega
      obtain ⟨b1, o1, rfl, hc⟩ := HZ.out.at_ hlt
      obtain ⟨u, hu⟩ : ∃ u, zs[k]?.getD 0 = u := ⟨_, rfl⟩
      obtain ⟨v, hv⟩ : ∃ v, oddB a b u = v := ⟨_, rfl⟩
      rw [hu] at hc
      have HU := Lib.hid hu
      have HV := Lib.hid hv
      clear hv hu
      go_wp2_with fail
      refine (odd1_to HV.out _ H3.out H4.out).mono ?_
      rintro e w' ⟨rfl, rfl⟩
      cases v with
      | true =>
        have HY := Lib.hid (any_at (zs := zs) (a := a) (b := b) (k := k) (by omega) (by rw [HU.out]; exact HV.out))
        go_wp2_with fail
        go_ret
        exact ⟨_, rfl, by rw [HY.out]; simp, rfl⟩
      | false =>
        go_wp2_with fail
        go_roundw
        case rel => exact ⟨k + 1, by omega, by go_num, fun j hj => by
          by_cases e : j = k
          · subst e; rw [HU.out]; exact HV.out
          · exact HN.out j (by omega), by first | rfl | trivial⟩
        case measure => simp [intOf]; omega
    · have hk2 : (n : Int) ≤ (k : Int) := by omega
      have HY := Lib.hid (any_no (zs := zs) (a := a) (b := b) (fun j hj => HN.out j (by omega)))
      go_wp2_with fail
      go_ret
      exact ⟨_, rfl, by rw [HY.out]; simp, rfl⟩
theorem contains_any (zs : List Int) (a b : Int) (g3 g4 : Nat) (A : Option Addr) (n c : Nat) (w : World) (hz : Ints w A n zs) (h3 : w.cell? ⟨g3, 0, none⟩ = some (.int .i64 a)) (h4 : w.cell? ⟨g4, 0, none⟩ = some (.int .i64 b)) :
    Calls Try.prog 76 #[.slice A n c, .func (.func 77) #[] #[.pointer (some ⟨g3, 0, none⟩), .pointer (some ⟨g4, 0, none⟩)]] w fun e w' => e = .returned (.bool (zs.any (oddB a b))) ∧ w = w' := by
  have HZ := Lib.hid hz
  have H3 := Lib.hid h3
  have H4 := Lib.hid h4
  clear hz h3 h4
  go_enter Try.func76, Try.ntmps76
  go_wp2_with fail
  refine (indexf_any zs a b g3 g4 _ _ _ _ HZ.out H3.out H4.out).mono ?_
  rintro e w' ⟨i, rfl, hi, rfl⟩
  have HI := Lib.hid hi
  clear hi
  go_wp2_with fail
  go_ret
  exact ⟨ret_bool HI.out, rfl⟩
theorem cell_new1 (w : World) (v : Value) (t : TypeId) (n : Nat) (h : n = w.heap.size) : (w.alloc (.cells #[v] t)).cell? ⟨n, 0, none⟩ = some v := by subst h; exact (Box.new w [v] t).2.2 0 _ rfl
theorem podd_any (zs : List Int) (a b : Int) (A : Option Addr) (n c : Nat) (w : World) (hz : Ints w A n zs) :
    Calls Try.prog 63 #[.int .i64 a, .int .i64 b, .slice A n c] w fun e w' => e = .returned (.bool (zs.any (oddB a b))) ∧ Below w.heap.size w w' := by
  have HZ := Lib.hid hz
  clear hz
  go_enter Try.func63, Try.ntmps63
  go_wp2_with fail
  refine (contains_any zs a b _ _ _ _ _ _ (HZ.out.below (B := w.heap.size) (by go_grown) rfl) (On.cell (cell_new1 w _ _ _ rfl) _ (Below.alloc (Below.refl _ _) (Nat.le_refl _) _)) (cell_new1 _ _ _ _ (by simp))).mono ?_
  rintro e w' ⟨rfl, rfl⟩
  go_wp2_with fail
  go_ret
  exact ⟨rfl, by go_grown⟩
theorem podd_to {zs : List Int} {a b : Int} {v : Bool} (hv : zs.any (oddB a b) = v) {A : Option Addr} {n c : Nat} (w : World) (hz : Ints w A n zs) :
    Calls Try.prog 63 #[.int .i64 a, .int .i64 b, .slice A n c] w fun e w' => e = .returned (.bool v) ∧ Below w.heap.size w w' := by
  subst hv; exact podd_any zs a b A n c w hz
end Go.Proofs.Ytllloonfnbhoeaa
/- The document's answers for package lex: the character that stands there; whether a text is well-formed. -/
namespace Go.Proofs.Ytllloonfnbhoeaa
open Go.RowKit
set_option linter.unusedVariables false
set_option linter.unusedSimpArgs false
theorem ret_i32 {a b : Int} (h : a = b) : Ending.returned (.int .i32 a) = Ending.returned (.int .i32 b) := by rw [h]
theorem size_to {s : ByteArray} {k n : Nat} (hn : sizeB s k = n) (w : World) (hk : k ≤ 800000) (hs : s.size ≤ 800000) : Calls Try.prog 57 #[.string s, .int .i64 k] w fun e w' => e = .returned (.int .i64 (n : Int)) ∧ w = w' := by
  subst hn; exact size_any s k w hk hs
set_option maxRecDepth 100000 in
theorem rune_any (s : ByteArray) (k n : Nat) (w : World) (h1 : 1 ≤ n) (h4 : n ≤ 4) (hin : k + n ≤ s.size) (hs : s.size ≤ 800000) : Calls Try.prog 59 #[.string s, .int .i64 k, .int .i64 n] w fun e w' => e = .returned (.int .i32 (runeB s k n)) ∧ Below w.heap.size w w' := by
  have hk : k < s.size := by omega
  have hb := bAt_get s k hk
  have hbd := bAt_bd s k
  have hk2 : (k : Int) < (s.size : Int) := by omega
  by_cases hn1 : n = 1
  · subst hn1
    have HR := Lib.hid (show runeB s k 1 = bAt s k from if_pos rfl)
    have o1 : IntKind.i32.wrap (bAt s k) = bAt s k := by rw [IntKind.wrap_i32]; omega
    go_enter Try.func59, Try.ntmps59
    go_wp2
    go_ret
    exact ⟨ret_i32 HR.out.symm, Below.refl _ _⟩
  · have hnn : ((n : Int) == 1) = false := by simp; omega
    have HR := Lib.hid (show runeB s k n = runeP s k (firstB n) n from if_neg hn1)
    have hcell : (#[Value.int .i64 0, .int .i64 0, .int .i64 192, .int .i64 224, .int .i64 240] : Array Value)[n]? = some (.int .i64 (firstB n)) := by
      rcases (show n = 2 ∨ n = 3 ∨ n = 4 by omega) with rfl | rfl | rfl <;> rfl
    have hfb : 0 ≤ firstB n ∧ firstB n ≤ 240 := by unfold firstB; split <;> (try split) <;> (try split) <;> omega
    have hBd := fun j hj => runeP_bd s k (base := firstB n) (by omega) j hj
    have HBd := Lib.hid hBd
    have hfirst : runeP s k (firstB n) 1 = bAt s k - firstB n := rfl
    have HP1 := Lib.hid hfirst
    clear hfirst
    have hBx : Box (w.alloc (.cells #[.int .i64 0, .int .i64 0, .int .i64 192, .int .i64 224, .int .i64 240] 3)) w.heap.size [.int .i64 0, .int .i64 0, .int .i64 192, .int .i64 224, .int .i64 240] := Box.new _ _ _
    have hc := hBx.2.2 n (.int .i64 (firstB n)) (by simpa using hcell)
    clear hBd hcell
    go_enter Try.func59, Try.ntmps59
    go_wp2_with fail
    have hB0 : Below w.heap.size w (w.alloc (.cells #[.int .i64 0, .int .i64 0, .int .i64 192, .int .i64 224, .int .i64 240] 3)) := by go_grown
    clear hBx
    generalize w.alloc (.cells #[.int .i64 0, .int .i64 0, .int .i64 192, .int .i64 224, .int .i64 240] 3) = W at hc hB0 ⊢
    have HB0 := Lib.hid hB0
    have hn5 : (n : Int) < 5 := by omega
    have hn0 : (0 : Int) ≤ (n : Int) := by omega
    clear hB0
    go_quiet (fail)
    clear hb
    go_wp2_with fail
    go_loopw [8, 9] (fun v i wr => ∃ j m : Nat, 1 ≤ j ∧ j ≤ n ∧ i = .int .i64 j ∧ v = .int .i64 (runeP s k (firstB n) j) ∧ wr = W.drewN m) (fun _ i _ => n - (intOf i).toNat)
    case atStart => exact ⟨1, _, by omega, by omega, rfl, by rw [HP1.out], rfl⟩
    case round =>
      obtain ⟨j, m, hj1, hj, rfl, rfl, rfl⟩ := hrel
      obtain ⟨hp1, hp2⟩ := HBd.out j (by omega)
      by_cases hlt : j < n
      · have hbj := bAt_get s (k + j) (by omega)
        have hbd2 := bAt_bd s (k + j)
        have HSu := Lib.hid (runeP_succ s k (firstB n) hj1)
        have hkj : (k : Int) + (j : Int) < (s.size : Int) := by omega
        have htn : ((k : Int) + (j : Int)).toNat = k + j := by omega
        go_wp2_with fail
        go_roundw
        case rel => exact ⟨j + 1, _, by omega, by omega, by go_num, by rw [HSu.out], rfl⟩
        case measure => simp [intOf]; omega
      · obtain rfl : j = n := by omega
        have o1 : IntKind.i32.wrap (runeP s k (firstB j) j) = runeP s k (firstB j) j := by rw [IntKind.wrap_i32]; omega
        go_wp2_with fail
        go_ret
        exact ⟨ret_i32 HR.out.symm, below_drewN HB0.out m⟩
end Go.Proofs.Ytllloonfnbhoeaa
/- The document's answer for package lex: the tokens of a script. -/
namespace Go.Proofs.Ytllloonfnbhoeaa
open Go.RowKit
set_option linter.unusedVariables false
set_option linter.unusedSimpArgs false
set_option maxRecDepth 100000 in
set_option maxHeartbeats 4000000 in
theorem reflex_any (s : ByteArray) (w : World) (hs : s.size ≤ 600000) : Calls Try.prog 42 #[.string s] w (LexPost w s) := by
  obtain ⟨i0, hi0, hz0, hz1, hz2⟩ := info_parts tok_info
  have HT := Lib.hid (show lexF s (s.size + 1) false 0 [] = lexB s from rfl)
  go_enter Try.func42, Try.ntmps42
  go_wp2_with fail
  go_loopw [5, 6, 7] (fun v u i wr => ∃ (k f m c' : Nat) (c : Bool) (ci : Int) (A' : Option Addr) (out : List Tok), k ≤ s.size ∧ s.size ≤ k + f ∧ m ≤ k ∧ v = .slice A' m c' ∧ u = .int .i64 ci ∧ (ci == 1) = c ∧ i = .int .i64 k ∧ lexF s f c k out = lexB s ∧ wr.ownsRow w.heap.size 76 4 (.slice A' m c') m (out.flatMap encT) ∧ Below w.heap.size w wr) (fun _ _ i _ => s.size - (intOf i).toNat)
  case atStart => exact ⟨0, s.size + 1, 0, 0, false, 0, none, [], by omega, by omega, by omega, rfl, rfl, rfl, rfl, HT.out, owns_nil _ _ _ _, Below.refl _ _⟩
  case round =>
    obtain ⟨k, f, m, c', c, ci, A', out, hk, hf, hm, rfl, rfl, hci, rfl, ht, hO, hB⟩ := hrel
    have HO := Lib.hid hO
    have HB := Lib.hid hB
    have hsz := hB.size
    by_cases hlt : k < s.size
    · obtain ⟨f', rfl, hf', hop⟩ := lexF_open (c := c) (out := out) hlt hf
      rw [ht] at hop
      have hb0 := bAt_get s k hlt
      obtain ⟨hbd1, hbd2⟩ := bAt_bd s k
      obtain ⟨b, hb⟩ : ∃ b, bAt s k = b := ⟨_, rfl⟩
      rw [hb] at hb0 hop hbd1 hbd2
      obtain ⟨z, hz⟩ : ∃ z, sizeB s k = z := ⟨_, rfl⟩
      have hz4 := sizeB_le s k
      rw [hz] at hz4 hop
      have HZ := Lib.hid hz
      have hk2 : (k : Int) < (s.size : Int) := by omega
      clear ht hO hB
      by_cases hzn : z = 0
      · rw [if_pos hzn] at hop
        subst hzn
        have HR := Lib.hid hop
        clear hop hz hb
        go_wp2_with (go_at_call 57; refine (size_to HZ.out _ (by omega) (by omega)).mono ?_; rintro e w' ⟨rfl, rfl⟩)
        go_ret3
        exact .inr ⟨k, HR.out, rfl, hlt, HB.out⟩
      · rw [if_neg hzn] at hop
        have hin := sizeB_in (s := s) (k := k) (by omega)
        rw [hz] at hin
        have hzz : ((z : Int) == 0) = false := by simp; omega
        have HBk := Lib.hid hb
        clear hz hb
        cases c
        case true =>
          by_cases h10 : b = 10
          all_goals
            simp only [h10, ne_eq, not_true_eq_false, not_false_eq_true, decide_true, decide_false, if_true] at hop
            have HR := Lib.hid hop
            clear hop
            first
              | (have hbb : (b == 10) = true := by simp [h10])
              | (have hbb : (b == 10) = false := by simp [h10])
            go_wp2_with (go_at_call 57; refine (size_to HZ.out _ (by omega) (by omega)).mono ?_; rintro e w' ⟨rfl, rfl⟩)
            go_roundw
            case rel => exact ⟨k + z, f', m, c', _, _, A', out, by omega, by omega, by omega, rfl, rfl, by first | rfl | exact hci, by go_num, HR.out.symm, HO.out, HB.out⟩
            case measure => simp [intOf]; omega
        case false =>
          simp only [Bool.false_eq_true, if_false] at hop
          by_cases h35 : b = 35
          · rw [if_pos h35] at hop
            subst h35
            have HR := Lib.hid hop
            clear hop
            go_wp2_with (go_at_call 57; refine (size_to HZ.out _ (by omega) (by omega)).mono ?_; rintro e w' ⟨rfl, rfl⟩)
            go_roundw
            case rel => exact ⟨k + 1, f', m, c', _, _, A', out, by omega, by omega, by omega, rfl, rfl, rfl, by go_num, HR.out.symm, HO.out, HB.out⟩
            case measure => simp [intOf]; omega
          rw [if_neg h35] at hop
          have hb35 : (b == 35) = false := by simp [h35]
          by_cases hwh : b = 32 ∨ b = 9 ∨ b = 10
          · rw [if_pos hwh] at hop
            have HR := Lib.hid hop
            clear hop h35 hb35
            rcases hwh with rfl | rfl | rfl
            all_goals
              go_wp2_with (go_at_call 57; refine (size_to HZ.out _ (by omega) (by omega)).mono ?_; rintro e w' ⟨rfl, rfl⟩)
              go_roundw
              case rel => exact ⟨k + 1, f', m, c', _, _, A', out, by omega, by omega, by omega, rfl, rfl, hci, by go_num, HR.out.symm, HO.out, HB.out⟩
              case measure => simp [intOf]; omega
          rw [if_neg hwh] at hop
          have hb32 : (b == 32) = false := by simp; omega
          have hb9 : (b == 9) = false := by simp; omega
          have hb10 : (b == 10) = false := by simp; omega
          clear hwh h35
          rcases hdg : digB s k with _ | _
          · rw [hdg] at hop
            simp only [Bool.false_eq_true, if_false] at hop
            have hin48 : inB s k 48 57 = false := hdg
            have HR := Lib.hid hop
            clear hop hdg
            go_wp2_with (first
              | (go_at_call 57; refine (size_to HZ.out _ (by omega) (by omega)).mono ?_; rintro e w' ⟨rfl, rfl⟩)
              | (go_at_call 58; refine (in_any s k _ _ _ (by omega) (by omega)).mono ?_; rintro e w' ⟨rfl, rfl⟩))
            refine (rune_any s k z _ (by omega) hz4 hin (by omega)).mono ?_
            rintro e w2 ⟨rfl, hb2⟩
            obtain ⟨rv, hrv⟩ : ∃ rv, runeB s k z = rv := ⟨_, rfl⟩
            have hR2 := HR.out
            rw [hrv] at hR2 ⊢
            have HR2 := Lib.hid hR2
            have HO2 := Lib.hid (owns_below HO.out hb2)
            have HB2 := Lib.hid (HB.out.trans (hb2.mono hsz))
            have hsz2 := HB2.out.size
            have HC1 := Lib.hid (tok_cells w2 1 rv 0 k 76 w2.heap.size rfl)
            have HO6 := Lib.hid (owns_below HO2.out (w' := w2.alloc (.cells #[.int .i64 1, .int .i32 rv, .int .i64 0, .int .i64 k] 76)) (by go_grown))
            have HB6 := Lib.hid (HB2.out.alloc hsz2 (.cells #[.int .i64 1, .int .i32 rv, .int .i64 0, .int .i64 k] 76))
            clear hb2 hR2 hrv
            go_wp2_with (at_builtin; refine wpList_append_cells _ rfl (.tmp 54) (.tmp 61) _ rfl w.heap.size 76 i0 (.agg #[.int .i64 0, .int .i32 0, .int .i64 0, .int .i64 0]) 4 32 Try.underlying69 hi0 hz0 hz1 hz2 rfl (by decide) _ m _ rfl HO6.out _ 1 1 _ rfl HC1.out (tok_cell4 _ _ _ _) (by unfold maxLen; omega) (by omega) (by simp; omega) ?_; intro A6 c6 w6 hown6 hg6; have hb6 : Below w.heap.size _ w6 := (Below.refl _ _).grown hg6 (by simp; omega) (owns_block HO6.out); have HB7 := Lib.hid (HB6.out.trans hb6); have HO7 := Lib.hid hown6; clear hg6 hown6 hb6)
            go_roundw
            case rel => exact ⟨k + z, f', m + 1, c6, false, ci, A6, out ++ [⟨1, rv, 0, k⟩], by omega, by omega, by omega, rfl, rfl, hci, by go_num, HR2.out.symm, by rw [toks_snoc]; exact HO7.out, HB7.out⟩
            case measure => simp [intOf]; omega
          · rw [hdg] at hop
            simp only [if_true] at hop
            have hin48 : inB s k 48 57 = true := hdg
            have hgt := numB_gt hdg
            have h48 : 48 ≤ b ∧ b ≤ 57 := by
              have e := inB_at hlt 48 57
              rw [hin48, HBk.out] at e
              have e2 := e.symm
              simp only [Bool.and_eq_true, decide_eq_true_eq] at e2
              exact e2
            rcases hnb : numB s k with ⟨nv, ne⟩
            rw [hnb] at hop hgt
            simp only at hop hgt
            have HR := Lib.hid hop
            have HNb := Lib.hid (show numF s (s.size + 1) 0 k = (nv, ne) from hnb)
            clear hop hdg hnb
            go_wp2_with (first
              | (go_at_call 57; refine (size_to HZ.out _ (by omega) (by omega)).mono ?_; rintro e w' ⟨rfl, rfl⟩)
              | (go_at_call 58; refine (in_any s k _ _ _ (by omega) (by omega)).mono ?_; rintro e w' ⟨rfl, rfl⟩))
            obtain ⟨wo, rfl⟩ : ∃ wo : World, wo = wr := ⟨_, rfl⟩
            go_loopw [10, 11] (fun v i wr => ∃ (e f2 : Nat) (n : Int), e ≤ s.size ∧ k ≤ e ∧ s.size ≤ e + f2 ∧ v = .int .i64 n ∧ i = .int .i64 e ∧ (0 ≤ n ∧ n ≤ 2199023255552) ∧ numF s f2 n e = (nv, ne) ∧ wr = wo) (fun _ i _ => s.size - (intOf i).toNat)
            case atStart => exact ⟨k, s.size + 1, 0, by omega, by omega, by omega, rfl, rfl, by omega, HNb.out, rfl⟩
            case round =>
              obtain ⟨e, f2, n, he1, he2, he3, rfl, rfl, ⟨hn1, hn2⟩, hnf, rfl⟩ := hrel
              have HNf := Lib.hid hnf
              clear hnf
              rcases hde : digB s e with _ | _
              · have hend := numF_end (f := f2) (n := n) hde
                rw [HNf.out] at hend
                injection hend with q1 q2
                subst q1 q2
                have hin2 : inB s ne 48 57 = false := hde
                by_cases hbad : 1099511627776 < nv ∨ (b = 48 ∧ k + 1 < ne)
                · have hR2 := HR.out
                  rw [if_pos hbad] at hR2
                  have HR2 := Lib.hid hR2
                  have hbi : 1099511627776 < nv ∨ (nv ≤ 1099511627776 ∧ b = 48 ∧ (k : Int) + 1 < (ne : Int)) := by omega
                  clear hR2 hbad hde
                  rcases hbi with hb1 | ⟨hb1, rfl, hb2⟩
                  all_goals
                    go_wp2_with (go_at_call 58; refine (in_any s ne _ _ _ (by omega) (by omega)).mono ?_; rintro e w' ⟨rfl, rfl⟩)
                    go_ret3
                    exact .inr ⟨k, HR2.out, rfl, hlt, HB.out⟩
                · have hR2 := HR.out
                  rw [if_neg hbad] at hR2
                  have HR2 := Lib.hid hR2
                  have hbi : nv ≤ 1099511627776 ∧ (((b == 48) = true ∧ (ne : Int) ≤ (k : Int) + 1) ∨ (b == 48) = false) := by
                    refine ⟨by omega, ?_⟩
                    by_cases q : b = 48
                    · exact .inl ⟨by simp [q], by omega⟩
                    · exact .inr (by simp [q])
                  obtain ⟨hb1, hbi⟩ := hbi
                  have HC1 := Lib.hid (tok_cells wr 2 0 nv k 76 wr.heap.size rfl)
                  have HO6 := Lib.hid (owns_below HO.out (w' := wr.alloc (.cells #[.int .i64 2, .int .i32 0, .int .i64 nv, .int .i64 k] 76)) (by go_grown))
                  have HB6 := Lib.hid (HB.out.alloc hsz (.cells #[.int .i64 2, .int .i32 0, .int .i64 nv, .int .i64 k] 76))
                  clear hR2 hbad hde
                  rcases hbi with ⟨hb2, hb3⟩ | hb2
                  all_goals
                    go_wp2_with (first
                      | (go_at_call 58; refine (in_any s ne _ _ _ (by omega) (by omega)).mono ?_; rintro e w' ⟨rfl, rfl⟩)
                      | (at_builtin; refine wpList_append_cells _ rfl (.tmp 94) (.tmp 98) _ rfl w.heap.size 76 i0 (.agg #[.int .i64 0, .int .i32 0, .int .i64 0, .int .i64 0]) 4 32 Try.underlying69 hi0 hz0 hz1 hz2 rfl (by decide) _ m _ rfl HO6.out _ 1 1 _ rfl HC1.out (tok_cell4 _ _ _ _) (by unfold maxLen; omega) (by omega) (by simp; omega) ?_; intro A6 c6 w6 hown6 hg6; have hb6 : Below w.heap.size _ w6 := (Below.refl _ _).grown hg6 (by simp; omega) (owns_block HO6.out); have HB7 := Lib.hid (HB6.out.trans hb6); have HO7 := Lib.hid hown6; clear hg6 hown6 hb6))
                    go_roundw
                    case rel => exact ⟨ne, f', m + 1, c6, false, ci, A6, out ++ [⟨2, 0, nv, k⟩], by omega, by omega, by omega, rfl, rfl, hci, by go_num, HR2.out.symm, by rw [toks_snoc]; exact HO7.out, HB7.out⟩
                    case measure => simp [intOf]; omega
              · have hle := inB_lt hde
                have hin2 : inB s e 48 57 = true := hde
                have hbe0 := bAt_get s e hle
                have h48e : 48 ≤ bAt s e ∧ bAt s e ≤ 57 := by
                  have q := inB_at hle 48 57
                  rw [hin2] at q
                  have q2 := q.symm
                  simp only [Bool.and_eq_true, decide_eq_true_eq] at q2
                  exact q2
                obtain ⟨f3, hf3, hst⟩ := numF_step (n := n) hde he3
                rw [HNf.out] at hst
                have HSt := Lib.hid hst
                have o1 : IntKind.u8.wrap (bAt s e - 48) = bAt s e - 48 := by rw [IntKind.wrap_u8]; omega
                have hle2 : (e : Int) < (s.size : Int) := by omega
                clear hde hst
                go_wp2_with (go_at_call 58; refine (in_any s e _ _ _ (by omega) (by omega)).mono ?_; rintro e w' ⟨rfl, rfl⟩)
                go_roundw
                case rel => exact ⟨e + 1, f3, min (10 * n + (bAt s e - 48)) 2199023255552, by omega, by omega, by omega, rfl, by go_num, by omega, HSt.out.symm, by first | rfl | trivial⟩
                case measure => simp [intOf]; omega
    · have HR := Lib.hid (ht.symm.trans (lexF_end hlt))
      have hR := ownsRow_rows (enc := encT) (zs := out) encT_len (by decide) hO
      have HRo := Lib.hid hR
      have hcap := owns_cap hO
      have hat := owns_at hO
      have hk2 : (s.size : Int) ≤ (k : Int) := by omega
      clear ht hO hB hR
      go_wp2_with fail
      go_ret3
      exact .inl ⟨out, A', m, c', HR.out, rfl, HRo.out, ⟨by omega, hcap, hat⟩, HB.out⟩
end Go.Proofs.Ytllloonfnbhoeaa
/- Rows of nodes that come in: each node's cells, its words. (Written by program: tools/drafts/gennodeopen.py.) -/
namespace Go.Proofs.Ytllloonfnbhoeaa
open Go.ChangeShapes Go.WideShapes Go.ChangeAt Go.RowKit Go.Joins
set_option linter.unusedVariables false
set_option linter.unusedSimpArgs false
theorem cellsNode : Try.prog.cellsOf 41 = 20 := by kernel_rfl
theorem cellsStyle : Try.prog.cellsOf 39 = 12 := by kernel_rfl
theorem cellsInt5 : Try.prog.cellsOf 3 = 1 := by kernel_rfl
theorem cellsInts5 : Try.prog.cellsOf 27 = 1 := by kernel_rfl
section
variable {H : Type} {enc : TypeId × Value → H} {W : World}
theorem trod_field {fs : Array Field} {t : TypeId} {fuel : Nat} {cs : List Value} {x : DataW H × List MemPlace} (ht : Try.prog.underlying t = some (.struct fs)) (h : DataW.trod enc Try.prog W 0 (fun _ => true) true fuel t cs = some x) :
    cs.length = Try.prog.cellsOf t ∧ ∃ n, ∀ (i : Nat) (f : Field), fs[i]? = some f → ∃ y, DataW.trod enc Try.prog W 0 (fun _ => true) true n f.type ((cs.drop f.offset).take (Try.prog.cellsOf f.type)) = some y := by
  obtain ⟨xs, n, _, _, hl, hlen, hf⟩ := DataW.trod_struct ht h
  refine ⟨hl, n, fun i f hi => ?_⟩
  have hlt : i < xs.length := by rw [hlen]; exact (Array.getElem?_eq_some_iff.1 hi).1
  exact ⟨xs[i], by rw [hf i f hi, List.getElem?_eq_getElem hlt]⟩
theorem trod_words {fuel : Nat} {cs : List Value} {x : DataW H × List MemPlace} (h : DataW.trod enc Try.prog W 0 (fun _ => true) true fuel 27 cs = some x) : ∃ A n c zs, cs = [.slice A n c] ∧ Ints W A n zs := by
  rcases open_ints Try.underlying27 Try.underlying3 cellsInt5 h with ⟨hcs, _⟩ | ⟨a, len, cap, zs, hcs, _, hl, hm, hz, _, hcell, hw⟩
  · exact ⟨none, 0, 0, [], hcs, Ints.nil _ _⟩
  · simp only [if_true] at hz
    refine ⟨_, len, cap, zs.take len, hcs, ⟨by rw [List.length_take]; omega, by unfold maxLen at hm; omega, fun hn => ?_⟩⟩
    obtain ⟨b, off, spot⟩ := a
    have hspot : spot = none := by simpa [Addr.add] using World.cell?_spot (hcell 0 (by omega))
    subst hspot
    have hc0 : ∀ k, k < len → W.cell? ⟨b, off + k, none⟩ = some (.int .i64 ((zs.take len)[k]?.getD 0)) := by
      intro k hk
      rw [← add_plain, hcell k (by omega)]
      simp [hk]
    exact ⟨b, off, rfl, cell_lt (hc0 0 hn), hc0⟩
set_option maxRecDepth 100000 in
theorem trod_sty {fuel : Nat} {cs : List Value} {x : DataW H × List MemPlace} (h : DataW.trod enc Try.prog W 0 (fun _ => true) true fuel 39 cs = some x) : ∃ s : Sty, cs = encS12 s := by
  obtain ⟨hl, n, hf⟩ := trod_field Try.underlying39 h
  rw [cellsStyle] at hl
  match cs, hl with
  | [x0, x1, x2, x3, x4, x5, x6, x7, x8, x9, x10, x11], _ =>
    obtain ⟨y0, h0⟩ := hf 0 _ rfl
    simp only [List.getElem_toArray, List.getElem_cons_zero, List.getElem_cons_succ, cellsInt5] at h0
    obtain ⟨a0, e0, _, _⟩ := DataW.trod_int Try.underlying3 h0
    simp at e0
    subst e0
    obtain ⟨y1, h1⟩ := hf 1 _ rfl
    simp only [List.getElem_toArray, List.getElem_cons_zero, List.getElem_cons_succ, cellsInt5] at h1
    obtain ⟨a1, e1, _, _⟩ := DataW.trod_int Try.underlying3 h1
    simp at e1
    subst e1
    obtain ⟨y2, h2⟩ := hf 2 _ rfl
    simp only [List.getElem_toArray, List.getElem_cons_zero, List.getElem_cons_succ, cellsInt5] at h2
    obtain ⟨a2, e2, _, _⟩ := DataW.trod_int Try.underlying3 h2
    simp at e2
    subst e2
    obtain ⟨y3, h3⟩ := hf 3 _ rfl
    simp only [List.getElem_toArray, List.getElem_cons_zero, List.getElem_cons_succ, cellsInt5] at h3
    obtain ⟨a3, e3, _, _⟩ := DataW.trod_int Try.underlying3 h3
    simp at e3
    subst e3
    obtain ⟨y4, h4⟩ := hf 4 _ rfl
    simp only [List.getElem_toArray, List.getElem_cons_zero, List.getElem_cons_succ, cellsInt5] at h4
    obtain ⟨a4, e4, _, _⟩ := DataW.trod_int Try.underlying3 h4
    simp at e4
    subst e4
    obtain ⟨y5, h5⟩ := hf 5 _ rfl
    simp only [List.getElem_toArray, List.getElem_cons_zero, List.getElem_cons_succ, cellsInt5] at h5
    obtain ⟨a5, e5, _, _⟩ := DataW.trod_int Try.underlying3 h5
    simp at e5
    subst e5
    obtain ⟨y6, h6⟩ := hf 6 _ rfl
    simp only [List.getElem_toArray, List.getElem_cons_zero, List.getElem_cons_succ, cellsInt5] at h6
    obtain ⟨a6, e6, _, _⟩ := DataW.trod_int Try.underlying3 h6
    simp at e6
    subst e6
    obtain ⟨y7, h7⟩ := hf 7 _ rfl
    simp only [List.getElem_toArray, List.getElem_cons_zero, List.getElem_cons_succ, cellsInt5] at h7
    obtain ⟨a7, e7, _, _⟩ := DataW.trod_int Try.underlying3 h7
    simp at e7
    subst e7
    obtain ⟨y8, h8⟩ := hf 8 _ rfl
    simp only [List.getElem_toArray, List.getElem_cons_zero, List.getElem_cons_succ, cellsInt5] at h8
    obtain ⟨a8, e8, _, _⟩ := DataW.trod_int Try.underlying3 h8
    simp at e8
    subst e8
    obtain ⟨y9, h9⟩ := hf 9 _ rfl
    simp only [List.getElem_toArray, List.getElem_cons_zero, List.getElem_cons_succ, cellsInt5] at h9
    obtain ⟨a9, e9, _, _⟩ := DataW.trod_int Try.underlying3 h9
    simp at e9
    subst e9
    obtain ⟨y10, h10⟩ := hf 10 _ rfl
    simp only [List.getElem_toArray, List.getElem_cons_zero, List.getElem_cons_succ, cellsInt5] at h10
    obtain ⟨a10, e10, _, _⟩ := DataW.trod_int Try.underlying3 h10
    simp at e10
    subst e10
    obtain ⟨y11, h11⟩ := hf 11 _ rfl
    simp only [List.getElem_toArray, List.getElem_cons_zero, List.getElem_cons_succ, cellsInt5] at h11
    obtain ⟨a11, e11, _, _⟩ := DataW.trod_int Try.underlying3 h11
    simp at e11
    subst e11
    exact ⟨⟨a0, a1, a2, a3, a4, a5, a6, a7, a8, a9, a10, a11⟩, rfl⟩
set_option maxRecDepth 100000 in
theorem trod_node {fuel : Nat} {cs : List Value} {x : DataW H × List MemPlace} (h : DataW.trod enc Try.prog W 0 (fun _ => true) true fuel 41 cs = some x) : ∃ m : NdM, cs = encM m ∧ ∃ ws, Ints W m.A m.n ws := by
  obtain ⟨hl, n, hf⟩ := trod_field Try.underlying41 h
  rw [cellsNode] at hl
  match cs, hl with
  | [x0, x1, x2, x3, x4, x5, x6, x7, x8, x9, x10, x11, x12, x13, x14, x15, x16, x17, x18, x19], _ =>
    obtain ⟨y0, h0⟩ := hf 0 _ rfl
    simp only [List.getElem_toArray, List.getElem_cons_zero, List.getElem_cons_succ, cellsInt5] at h0
    obtain ⟨a0, e0, _, _⟩ := DataW.trod_int Try.underlying3 h0
    simp at e0
    subst e0
    obtain ⟨y1, h1⟩ := hf 1 _ rfl
    simp only [List.getElem_toArray, List.getElem_cons_zero, List.getElem_cons_succ, cellsInt5] at h1
    obtain ⟨a1, e1, _, _⟩ := DataW.trod_int Try.underlying3 h1
    simp at e1
    subst e1
    obtain ⟨y3, h3⟩ := hf 3 _ rfl
    simp only [List.getElem_toArray, List.getElem_cons_zero, List.getElem_cons_succ, cellsInt5] at h3
    obtain ⟨a3, e3, _, _⟩ := DataW.trod_int Try.underlying3 h3
    simp at e3
    subst e3
    obtain ⟨y4, h4⟩ := hf 4 _ rfl
    simp only [List.getElem_toArray, List.getElem_cons_zero, List.getElem_cons_succ, cellsInt5] at h4
    obtain ⟨a4, e4, _, _⟩ := DataW.trod_int Try.underlying3 h4
    simp at e4
    subst e4
    obtain ⟨y6, h6⟩ := hf 6 _ rfl
    simp only [List.getElem_toArray, List.getElem_cons_zero, List.getElem_cons_succ, cellsInt5] at h6
    obtain ⟨a6, e6, _, _⟩ := DataW.trod_int Try.underlying3 h6
    simp at e6
    subst e6
    obtain ⟨y7, h7⟩ := hf 7 _ rfl
    simp only [List.getElem_toArray, List.getElem_cons_zero, List.getElem_cons_succ, cellsInt5] at h7
    obtain ⟨a7, e7, _, _⟩ := DataW.trod_int Try.underlying3 h7
    simp at e7
    subst e7
    obtain ⟨y8, h8⟩ := hf 8 _ rfl
    simp only [List.getElem_toArray, List.getElem_cons_zero, List.getElem_cons_succ, cellsInt5] at h8
    obtain ⟨a8, e8, _, _⟩ := DataW.trod_int Try.underlying3 h8
    simp at e8
    subst e8
    obtain ⟨y2, h2⟩ := hf 2 _ rfl
    simp only [List.getElem_toArray, List.getElem_cons_zero, List.getElem_cons_succ, cellsStyle] at h2
    obtain ⟨s, e2⟩ := trod_sty h2
    simp [encS12] at e2
    obtain ⟨rfl, rfl, rfl, rfl, rfl, rfl, rfl, rfl, rfl, rfl, rfl, rfl⟩ := e2
    obtain ⟨y5, h5⟩ := hf 5 _ rfl
    simp only [List.getElem_toArray, List.getElem_cons_zero, List.getElem_cons_succ, cellsInts5] at h5
    obtain ⟨A, k, c, ws, e5, hws⟩ := trod_words h5
    simp at e5
    subst e5
    exact ⟨⟨a0, a1, s, a3, a4, A, k, c, a6, a7, a8⟩, rfl, ws, hws⟩
theorem shows_list : ∀ (zs : List NdM), (∀ z ∈ zs, ∃ ws, Ints W z.A z.n ws) → ∃ l : List Nd, zs.length = l.length ∧ ∀ (i : Nat) (m : NdM) (x : Nd), zs[i]? = some m → l[i]? = some x → Shows W m x
  | [], _ => ⟨[], rfl, fun i m x h => by simp at h⟩
  | z :: zs, hz => by
    obtain ⟨ws, hw⟩ := hz z (by simp)
    obtain ⟨l, h1, h2⟩ := shows_list zs (fun y hy => hz y (by simp [hy]))
    refine ⟨⟨z.kind, z.size, z.sty, z.line, z.space, ws, z.side, z.w, z.h⟩ :: l, by simp [h1], fun i m x e1 e2 => ?_⟩
    cases i with
    | zero =>
      simp at e1 e2
      subst e1 e2
      exact ⟨⟨rfl, rfl, rfl, rfl, rfl, rfl, rfl, rfl⟩, hw⟩
    | succ i => exact h2 i m x (by simpa using e1) (by simpa using e2)
set_option maxRecDepth 100000 in
theorem open_nodes {base : Nat} {v : Value} {d : DataW H} {p : List MemPlace} (hv : Value.okWide Try.prog W .any base 22 v) (h : DataW.Trod enc Try.prog W 0 (fun _ => true) true 22 v d p) :
    ∃ A n c l, v = .slice A n c ∧ Sees W A n l := by
  obtain ⟨A, n, c, zs, h1, _, _, h4, h5⟩ := open_rows encM (fun m => ∃ ws, Ints W m.A m.n ws) Try.underlying22 cellsNode (by decide) encM_len (fun fuel cs y hy => trod_node hy) hv h
  obtain ⟨l, h6, h7⟩ := shows_list zs h5
  exact ⟨A, n, c, l, h1, zs, h4, h6, h7⟩
set_option maxRecDepth 100000 in
theorem open_nodesC {base : Nat} {v : Value} {d : DataW H} {p : List MemPlace} (hv : Value.okWide Try.prog W .any base 22 v) (h : DataW.Trod enc Try.prog W 0 (fun _ => true) true 22 v d p) :
    ∃ A n c l, v = .slice A n c ∧ (n ≤ c ∧ c ≤ 9223372036854775807) ∧ Sees W A n l := by
  obtain ⟨A, n, c, zs, h1, h2, h3, h4, h5⟩ := open_rows encM (fun m => ∃ ws, Ints W m.A m.n ws) Try.underlying22 cellsNode (by decide) encM_len (fun fuel cs y hy => trod_node hy) hv h
  obtain ⟨l, h6, h7⟩ := shows_list zs h5
  exact ⟨A, n, c, l, h1, ⟨h2, by unfold maxLen at h3; omega⟩, zs, h4, h6, h7⟩
end
end Go.Proofs.Ytllloonfnbhoeaa
/- What a script is read as; what a reader of scripts answers. -/
namespace Go.Proofs.Ytllloonfnbhoeaa
open Go.RowKit
set_option linter.unusedVariables false
set_option linter.unusedSimpArgs false
/-- what a script is read as, by the document's words. -/
def ReadB (s : ByteArray) (r : Option (List Nd) × Nat) : Prop := (∃ k, lexB s = (none, k) ∧ r = (none, k)) ∨ (∃ toks q, lexB s = (some toks, q) ∧ Read toks s.size r)
theorem ReadB.det {s : ByteArray} {r r' : Option (List Nd) × Nat} (h : ReadB s r) (h' : ReadB s r') : r = r' := by
  rcases h with ⟨k, h1, rfl⟩ | ⟨t, q, h1, h2⟩ <;> rcases h' with ⟨k', h1', rfl⟩ | ⟨t', q', h1', h2'⟩ <;> rw [h1] at h1'
  · injection h1' with _ h; rw [h]
  · injection h1' with h _; cases h
  · injection h1' with h _; cases h
  · injection h1' with h _; injection h with h; subst h; exact h2.det h2'
/-- what Of answers. -/
def OfPost (w : World) (s : ByteArray) (e : Ending) (w' : World) : Prop :=
  (∃ x A n c, ReadB s (some x, 0) ∧ e = .returned (.tuple #[.slice A n c, .int .i64 0, .int .i64 0]) ∧ Nds w.heap.size w' A n x ∧ Below w.heap.size w w') ∨
  (∃ k : Nat, ReadB s (none, k) ∧ e = .returned (.tuple #[.slice none 0 0, .int .i64 (k : Int), .int .i64 1]) ∧ Below w.heap.size w w')
end Go.Proofs.Ytllloonfnbhoeaa
/- Nodes in memory: what rows and blocks of them are. (Of no function.) -/
namespace Go.Proofs.Ytllloonfnbhoeaa
open Go.RowKit
set_option linter.unusedVariables false
set_option linter.unusedSimpArgs false
def zeroM (kind side : Int) : NdM := ⟨kind, 1, .none, 0, 0, none, 0, 0, side, 0, 0⟩
theorem int_info5 : (Try.prog.info? 3).map (fun i => (i.zero, i.size, i.bytes)) = some (some (.int .i64 0), 1, 8) := by kernel_rfl
theorem node_info5 : (Try.prog.info? 41).map (fun i => (i.zero, i.size, i.bytes)) = some (some (.agg #[.int .i64 0, .int .i64 0, .int .i64 0, .int .i64 0, .int .i64 0, .int .i64 0, .int .i64 0, .int .i64 0, .int .i64 0, .int .i64 0, .int .i64 0, .int .i64 0, .int .i64 0, .int .i64 0, .int .i64 0, .int .i64 0, .slice none 0 0, .int .i64 0, .int .i64 0, .int .i64 0]), 20, 176) := by kernel_rfl
def cellNat (w : World) (a : Addr) : Nat := match w.cell? a with
  | some (.int _ z) => z.toNat
  | _ => 0
theorem blk_not_row {w : World} {T : Nat} {t e : TypeId} {vs : List Value} {base size n : Nat} {v : Value} {xs : List Value} (h : Blk w T t vs) (hne : t ≠ e) (ho : w.ownsRow base e size v n xs) : ∀ k, v.ownBlock = some k → k ≠ T := by
  intro k hk e'
  subst e'
  rcases ho.2 with ⟨q, _⟩ | ⟨g, cap, cur, q, _, q3, _⟩
  · rw [q] at hk; cases hk
  · rw [q] at hk
    injection hk with hk
    rw [show k = g from hk.symm] at h
    rw [show w.heap[g]? = _ from h] at q3
    injection q3 with q3
    injection q3 with _ q3 _
    exact hne q3
theorem owns_one {w : World} {e : TypeId} {size base : Nat} (vs : List Value) (hl : vs.length = size) (h0 : 0 < size) (hb : base ≤ w.heap.size) (h1 : ∀ u ∈ vs, u.oneCell' = true) (n : Nat) (hn : n = w.heap.size) (cs : Array Value) (hc : cs = vs.toArray) : (w.alloc (.cells cs e)).ownsRow base e size (.slice (some ⟨n, 0, none⟩) 1 1) 1 vs := by
  subst hn hc
  exact ⟨by omega, .inr ⟨w.heap.size, 1, vs.toArray, rfl, hb, World.alloc_heap_new w _, by decide, by decide, by simp [hl], by rw [Nat.one_mul, ← hl]; simp⟩⟩
theorem yields_row {P : Program} {a : Act} {o : Oper} {S : World → Prop} (t : TypeId) (x : Operand) (ho : o.op = .load t x) (g : Nat) (hx : a.eval x = .pointer (some ⟨g, 0, none⟩)) (te : TypeId) (cs : Array Value) (d : TypeDesc)
    (hS : ∀ w, S w → w.heap[g]? = some (.cells cs te (0, 0))) (hu : P.underlying t = some d) (hd : (match d with | .struct _ | .array _ _ => true | _ => false) = true) (hi : (P.info? t).map (·.size) = some cs.size) :
    ∀ w, S w → (execOp a.eval o).run P w = .ok (.value (.agg cs)) w := fun w hw => by
  have hr := run_loadVar_row (P := P) w g te t cs (0, 0) d (hS w hw) hu hd hi
  unfold execOp
  simp only [ho, hx, Instr.loadAt, Instr.sureAddr, Sem.run_bind, Sem.run_pure, Result.andThen_ok, hr]
end Go.Proofs.Ytllloonfnbhoeaa
/- A script that is written out; answers by value. -/
namespace Go.Proofs.Ytllloonfnbhoeaa
open Go.RowKit
set_option linter.unusedVariables false
set_option linter.unusedSimpArgs false
def ReadOk (w : World) (x : List Nd) (e : Ending) (w' : World) : Prop := ∃ A n c, e = .returned (.tuple #[.slice A n c, .int .i64 0, .int .i64 0]) ∧ Nds w.heap.size w' A n x ∧ Below w.heap.size w w'
theorem of_ok {w w' : World} {s : ByteArray} {e : Ending} {x : List Nd} (h : ReadB s (some x, 0)) (hp : OfPost w s e w') : ReadOk w x e w' := by
  rcases hp with ⟨x', A, n, c, h1, h2, h3, h4⟩ | ⟨k, h1, _⟩
  · have := h.det h1
    injection this with h5 _; injection h5 with h5; subst h5
    exact ⟨A, n, c, h2, h3, h4⟩
  · have := h.det h1
    injection this with h5 _; cases h5
theorem of_bad {w w' : World} {s : ByteArray} {e : Ending} {k : Nat} (h : ReadB s (none, k)) (hp : OfPost w s e w') : e = .returned (.tuple #[.slice none 0 0, .int .i64 (k : Int), .int .i64 1]) ∧ Below w.heap.size w w' := by
  rcases hp with ⟨x', A, n, c, h1, _⟩ | ⟨k', h1, h2, h3⟩
  · have := h.det h1
    injection this with h5 _; cases h5
  · have := h.det h1
    injection this with _ h5; subst h5
    exact ⟨h2, h3⟩
/-- a script that is written out. -/
def evalF (s : ByteArray) : Option (Option (List Nd) × Nat) := match lexB s with
  | (some toks, 0) => readF toks s.size
  | (none, k) => some (none, k)
  | _ => none
theorem evalF_ok {s : ByteArray} {r : Option (List Nd) × Nat} (h : evalF s = some r) : ReadB s r := by
  unfold evalF at h
  split at h
  · rename_i toks h1; exact .inr ⟨toks, 0, h1, readF_ok h⟩
  · rename_i k h1; cases h; exact .inl ⟨k, h1, rfl⟩
  · cases h
end Go.Proofs.Ytllloonfnbhoeaa
/- Nodes that can be read: each one's cells. -/
namespace Go.Proofs.Ytllloonfnbhoeaa
open Go.RowKit
set_option linter.unusedVariables false
set_option linter.unusedSimpArgs false
theorem rows_range {w : World} {A : Option Addr} {n k : Nat} {zs : List NdM} (h : Rows 20 encM w A n zs) (hk : k < n) : ∃ b off m, A = some ⟨b, off, none⟩ ∧ b < w.heap.size ∧ zs[k]? = some m ∧ w.rangeAt b (off + k * 20) (encM m) := by
  obtain ⟨b, off, m, h1, h2, h3, h4⟩ := h.at_ hk
  exact ⟨b, off, m, h1, h2, h3, h4⟩
theorem range_on {w : World} {b o : Nat} {cs : List Value} (h : w.rangeAt b o cs) : ∀ W', On w W' → W'.rangeAt b o cs := fun W' hW j v hv => On.cell (h j v hv) W' hW
theorem Sees.at_ {w : World} {A : Option Addr} {n k : Nat} {l : List Nd} (h : Sees w A n l) (hk : k < n) : ∃ b off m x, A = some ⟨b, off, none⟩ ∧ b < w.heap.size ∧ l[k]? = some x ∧ w.rangeAt b (off + k * 20) (encM m) ∧ Shows w m x := by
  obtain ⟨zs, h1, h2, h3⟩ := h
  obtain ⟨b, off, m, e1, e2, e3, e4⟩ := rows_range h1 hk
  have hl := h1.1
  have hx : l[k]? = some (l[k]'(by omega)) := List.getElem?_eq_getElem _
  exact ⟨b, off, m, _, e1, e2, hx, e4, h3 k m _ e3 hx⟩
theorem Sees.bound {w : World} {A : Option Addr} {n : Nat} {l : List Nd} (h : Sees w A n l) : n ≤ 9223372036854775807 := by
  obtain ⟨zs, h1, _⟩ := h
  exact h1.2.1
theorem Sees.on {w w' : World} {A : Option Addr} {n : Nat} {l : List Nd} (h : Sees w A n l) (hb : On w w') : Sees w' A n l := h.below hb
theorem Sees.nil (w : World) : Sees w none 0 [] := ⟨[], Rows.nil _ _, rfl, fun i m x h => by simp at h⟩
end Go.Proofs.Ytllloonfnbhoeaa
/- The document's answers for package tree: who holds whom, who is above whom, kids. -/
namespace Go.Proofs.Ytllloonfnbhoeaa
open Go.RowKit
set_option linter.unusedVariables false
set_option linter.unusedSimpArgs false
/-- whole numbers in a new row of the call's own. -/
def IntsOut (w : World) (zs : List Int) (e : Ending) (w' : World) : Prop := ∃ A n c, e = .returned (.slice A n c) ∧ w'.ownsRow w.heap.size 3 1 (.slice A n c) n (zs.map (Value.int .i64)) ∧ Below w.heap.size w w'
theorem vhas_to {L : List Nd} {a : Int} {v : Bool} (hv : hasI L a = v) {A : Option Addr} {n c : Nat} {w : World} (h : Sees w A n L) : Calls Try.prog 39 #[.slice A n c, .int .i64 a] w fun e w' => e = .returned (.bool v) ∧ w = w' := by
  have hl := h.len
  have hb := h.bound
  subst hv
  by_cases h0 : 0 ≤ a
  · by_cases h1 : a < (n : Int)
    · have HV := Lib.hid (show hasI L a = true from hasI_iff.2 ⟨h0, by omega⟩)
      clear h hl
      go_enter Try.func39, Try.ntmps39
      go_wp2_with fail
      go_ret
      exact ⟨ret_bool HV.out.symm, rfl⟩
    · have HV := Lib.hid (show hasI L a = false by rcases hq : hasI L a with _ | _; rfl; have := (hasI_iff.1 hq).2; omega)
      have h2 : (n : Int) ≤ a := by omega
      clear h hl
      go_enter Try.func39, Try.ntmps39
      go_wp2_with fail
      go_ret
      exact ⟨ret_bool HV.out.symm, rfl⟩
  · have HV := Lib.hid (show hasI L a = false by rcases hq : hasI L a with _ | _; rfl; have := (hasI_iff.1 hq).1; omega)
    have h2 : a < 0 := by omega
    clear h hl
    go_enter Try.func39, Try.ntmps39
    go_wp2_with fail
    go_ret
    exact ⟨ret_bool HV.out.symm, rfl⟩
set_option maxHeartbeats 1000000 in
set_option maxRecDepth 100000 in
theorem vholds_to {L : List Nd} (hn : Nested L) {a b : Int} {v : Bool} (hv : holdsI L a b = v) {A : Option Addr} {n c : Nat} {w : World} (h : Sees w A n L) (hn2 : n ≤ 100000) : Calls Try.prog 20 #[.slice A n c, .int .i64 a, .int .i64 b] w fun e w' => e = .returned (.bool v) ∧ w = w' := by
  have HA := Lib.hid h
  have hl := h.len
  rcases hqa : hasI L a with _ | _
  · have HV := Lib.hid (show false = v by rw [← hv]; unfold holdsI; rw [hqa]; rfl)
    have HQ := Lib.hid hqa
    clear h hv hqa hl
    go_enter Try.func20, Try.ntmps20
    go_wp2_with fail
    refine (vhas_to HQ.out HA.out).mono ?_
    rintro e w1 ⟨rfl, rfl⟩
    go_wp2_with fail
    go_ret
    exact ⟨ret_bool HV.out, rfl⟩
  rcases hqb : hasI L b with _ | _
  · have HV := Lib.hid (show false = v by rw [← hv]; unfold holdsI; rw [hqa, hqb]; rfl)
    have HQ := Lib.hid hqa
    have HQ2 := Lib.hid hqb
    clear h hv hqa hqb hl
    go_enter Try.func20, Try.ntmps20
    go_wp2_with fail
    refine (vhas_to HQ.out HA.out).mono ?_
    rintro e w1 ⟨rfl, rfl⟩
    go_wp2_with fail
    refine (vhas_to HQ2.out HA.out).mono ?_
    rintro e w1 ⟨rfl, rfl⟩
    go_wp2_with fail
    go_ret
    exact ⟨ret_bool HV.out, rfl⟩
  obtain ⟨a0, a1⟩ := hasI_iff.1 hqa
  obtain ⟨b0, b1⟩ := hasI_iff.1 hqb
  obtain ⟨i, rfl⟩ : ∃ i : Nat, a = (i : Int) := ⟨a.toNat, by omega⟩
  obtain ⟨j, rfl⟩ : ∃ j : Nat, b = (j : Int) := ⟨b.toNat, by omega⟩
  have hin : i < n := by omega
  obtain ⟨b1', o1, m1, x1, rfl, hb1, e1, r1, s1⟩ := h.at_ hin
  have c1 := r1 1 _ rfl
  have hms : m1.size = x1.size := s1.1.2.1.symm
  obtain ⟨z, hz⟩ : ∃ z, m1.size = z := ⟨_, rfl⟩
  have c1' : w.cell? ⟨b1', o1 + i * 20 + 1, none⟩ = some (.int .i64 z) := by rw [← hz]; exact c1
  have hnx := hn i x1 e1
  have hz0 : 1 ≤ z ∧ z ≤ 100000 := by have := hnx.1; have := hnx.2.1; omega
  obtain ⟨z0, z1⟩ := hz0
  have hv2 : holdP L i j = v := by rw [← hv]; unfold holdsI; rw [hqa, hqb]; simp
  have hin2 : (i : Int) < (n : Int) := by omega
  have hjn : (j : Int) < (n : Int) := by omega
  have HQ := Lib.hid hqa
  have HQ2 := Lib.hid hqb
  by_cases hij : i ≤ j
  · by_cases hlt : (j : Int) - (i : Int) < z
    · have HV := Lib.hid (show true = v by rw [← hv2]; exact (holdP_iff.2 ⟨x1, e1, by omega, hij, by omega⟩).symm)
      have h1 : (i : Int) ≤ (j : Int) := by omega
      clear h hv hv2 hqa hqb hl hms hz c1 hnx r1 s1 e1 a0 a1 b0 b1
      go_enter Try.func20, Try.ntmps20
      go_wp2_with fail
      refine (vhas_to HQ.out HA.out).mono ?_
      rintro e w1 ⟨rfl, rfl⟩
      go_wp2_with fail
      refine (vhas_to HQ2.out HA.out).mono ?_
      rintro e w1 ⟨rfl, rfl⟩
      go_wp2_with fail
      go_ret
      exact ⟨ret_bool HV.out, rfl⟩
    · have HV := Lib.hid (show false = v by
        rw [← hv2]
        rcases hq : holdP L i j with _ | _
        · rfl
        · obtain ⟨x, g1, _, _, g4⟩ := holdP_iff.1 hq
          rw [e1] at g1; injection g1 with g1; subst g1; omega)
      have h1 : (i : Int) ≤ (j : Int) := by omega
      have h2 : z ≤ (j : Int) - (i : Int) := by omega
      have hd : decide ((j : Int) - (i : Int) < z) = false := by simp; omega
      clear h hv hv2 hqa hqb hl hms hz c1 hnx r1 s1 e1 a0 a1 b0 b1 hlt
      go_enter Try.func20, Try.ntmps20
      go_wp2_with fail
      refine (vhas_to HQ.out HA.out).mono ?_
      rintro e w1 ⟨rfl, rfl⟩
      go_wp2_with fail
      refine (vhas_to HQ2.out HA.out).mono ?_
      rintro e w1 ⟨rfl, rfl⟩
      go_wp2_with fail
      go_ret
      exact ⟨ret_bool HV.out, rfl⟩
  · have HV := Lib.hid (show false = v by
      rw [← hv2]
      rcases hq : holdP L i j with _ | _
      · rfl
      · obtain ⟨x, _, _, g3, _⟩ := holdP_iff.1 hq; omega)
    have h1 : (j : Int) < (i : Int) := by omega
    clear h hv hv2 hqa hqb hl hms hz c1 hnx r1 s1 e1 a0 a1 b0 b1 hij
    go_enter Try.func20, Try.ntmps20
    go_wp2_with fail
    refine (vhas_to HQ.out HA.out).mono ?_
    rintro e w1 ⟨rfl, rfl⟩
    go_wp2_with fail
    refine (vhas_to HQ2.out HA.out).mono ?_
    rintro e w1 ⟨rfl, rfl⟩
    go_wp2_with fail
    go_ret
    exact ⟨ret_bool HV.out, rfl⟩
theorem ints_snoc (zs : List Int) (z : Int) : (zs ++ [z]).map (Value.int .i64) = zs.map (Value.int .i64) ++ [.int .i64 z] := by simp
theorem cells_ofone (w : World) (t : TypeId) (v : Value) : Cells (w.alloc (.cells #[v] t)) (some ⟨w.heap.size, 0, none⟩) 1 1 [v] :=
  ⟨rfl, by decide, fun _ => ⟨w.heap.size, 0, rfl, by simp, fun j u hu => by
    have := (Box.new w [v] t).2.2 j u hu
    rw [Nat.zero_add]; exact this⟩⟩
theorem int_info8 : (Try.prog.info? 3).map (fun i => (i.zero, i.size, i.bytes)) = some (some (.int .i64 0), 1, 8) := by kernel_rfl
/-- those found so far: of the places from k on, below b, the last one first. -/
def upFrom (L : List Nd) (b k : Nat) : List Nat := (backTo L b b).filter fun i => decide (k ≤ i)
theorem upFrom_all (L : List Nd) (b : Nat) : upFrom L b 0 = backTo L b b := by
  unfold upFrom
  rw [List.filter_eq_self]
  intro i _
  simp
theorem upFrom_none (L : List Nd) (b : Nat) : upFrom L b b = [] := by
  unfold upFrom
  rw [List.filter_eq_nil_iff]
  intro i hi
  have := (up_mem.1 hi).1
  simp; omega
theorem filter_up {L : List Nd} {b : Nat} : ∀ {i k : Nat}, k < i → ((backTo L b i).filter fun j => decide (k ≤ j)) = ((backTo L b i).filter fun j => decide (k + 1 ≤ j)) ++ (if holdP L k b then [k] else [])
  | 0, k, h => by omega
  | i + 1, k, h => by
    have hlow : ∀ m, m ≤ k + 1 → ((backTo L b m).filter fun j => decide (k + 1 ≤ j)) = [] := fun m hm => by
      rw [List.filter_eq_nil_iff]
      intro j hj
      have := (up_mem.1 hj).1
      simp; omega
    rcases Nat.eq_or_lt_of_le (Nat.le_of_lt_succ h) with hk | hk
    · subst hk
      rw [hlow (k + 1) (Nat.le_refl _), up_succ]
      have hno : ((backTo L b k).filter fun j => decide (k ≤ j)) = [] := by
        rw [List.filter_eq_nil_iff]
        intro j hj
        have := (up_mem.1 hj).1
        simp; omega
      split
      · rw [List.filter_cons_of_pos (by simp), hno]; rfl
      · rw [hno]; rfl
    · have ih := filter_up (L := L) (b := b) (i := i) hk
      rw [up_succ]
      split
      · rw [List.filter_cons_of_pos (by simp; omega), List.filter_cons_of_pos (by simp; omega), ih, List.cons_append]
      · exact ih
theorem upFrom_step {L : List Nd} {b k : Nat} (h : k < b) : upFrom L b k = upFrom L b (k + 1) ++ (if holdP L k b then [k] else []) := filter_up h
theorem upFrom_len (L : List Nd) (b k : Nat) : (upFrom L b k).length ≤ b := Nat.le_trans (List.length_filter_le _ _) (up_len b)
def natsI (l : List Nat) : List Int := l.map fun i : Nat => (i : Int)
theorem holdsI_nat {L : List Nd} {i b : Nat} (hi : i < L.length) (hb : b < L.length) : holdsI L (i : Int) (b : Int) = holdP L i b := by
  unfold holdsI
  rw [hasI_iff.2 ⟨by omega, by omega⟩, hasI_iff.2 ⟨by omega, by omega⟩]
  simp
set_option maxHeartbeats 4000000 in
set_option maxRecDepth 100000 in
theorem vabove_to {L : List Nd} (hn : Nested L) {a : Int} (ha : -9223372036854775808 ≤ a ∧ a ≤ 9223372036854775807) {zs : List Int} (hv : aboveI L a = zs) {A : Option Addr} {n c : Nat} {w : World} (h : Sees w A n L) (hn2 : n ≤ 100000) :
    Calls Try.prog 19 #[.slice A n c, .int .i64 a] w (IntsOut w zs) := by
  obtain ⟨i0, hi0, hz0, hz1, hz2⟩ := info_parts int_info8
  have HA := Lib.hid h
  have hl := h.len
  rcases hq : hasI L a with _ | _
  · have HQ := Lib.hid hq
    have HV := Lib.hid (show [] = zs by rw [← hv]; unfold aboveI; rw [hq]; rfl)
    obtain ⟨u, hu⟩ : ∃ u, wrap64 (a - 1) = u := ⟨_, rfl⟩
    clear h hv hq hl hi0 hz0 hz1 hz2 ha
    by_cases hu0 : 0 ≤ u
    · go_enter Try.func19, Try.ntmps19
      go_wp2_with fail
      refine wp_loop_rounds 1 ?_
      rw [rounds_succ]
      go_wp2_with fail
      refine (vhas_to HQ.out HA.out).mono ?_
      rintro e w1 ⟨rfl, rfl⟩
      go_wp2_with fail
      go_ret
      rw [← HV.out]
      exact ⟨none, 0, 0, rfl, owns_nil _ _ _ _, Below.refl _ _⟩
    · have hu1 : u < 0 := by omega
      go_enter Try.func19, Try.ntmps19
      go_wp2_with fail
      refine wp_loop_rounds 1 ?_
      rw [rounds_succ]
      go_wp2_with fail
      go_ret
      rw [← HV.out]
      exact ⟨none, 0, 0, rfl, owns_nil _ _ _ _, Below.refl _ _⟩
  have HQ := Lib.hid hq
  obtain ⟨a0, a1⟩ := hasI_iff.1 hq
  obtain ⟨b, rfl⟩ : ∃ b : Nat, a = (b : Int) := ⟨a.toNat, by omega⟩
  have hbn : b < n := by omega
  have HV := Lib.hid (show natsI (backTo L b b) = zs by rw [← hv, aboveI_nat (by omega)]; unfold aboveP; rw [if_pos (by omega)]; rfl)
  have HL := Lib.hid hl
  clear h hv hq hl ha a0 a1
  obtain ⟨D, hD⟩ : ∃ D, w.heap.size = D := ⟨_, rfl⟩
  have HD := Lib.hid hD
  clear hD
  go_enter Try.func19, Try.ntmps19
  go_wp2_with fail
  go_loopw [5, 6] (fun o i wr => ∃ (k m c1 : Nat) (A1 : Option Addr), k ≤ b ∧ i = .int .i64 ((k : Int) - 1) ∧ o = .slice A1 m c1 ∧ wr.ownsRow D 3 1 (.slice A1 m c1) m ((natsI (upFrom L b k)).map (Value.int .i64)) ∧ m ≤ b ∧ On w wr) (fun _ i _ => (intOf i + 1).toNat)
  case atStart => exact ⟨b, 0, 0, none, Nat.le_refl _, rfl, rfl, by rw [upFrom_none]; exact owns_nil _ _ _ _, Nat.zero_le _, On.refl w⟩
  case round =>
    obtain ⟨k, m, c1, A1, hkb, rfl, rfl, hown, hmb, hon⟩ := hrel
    have HO := Lib.hid hon
    have HOw := Lib.hid hown
    clear hon hown
    cases k with
    | zero =>
      have hk0 : ((0 : Nat) : Int) - 1 < 0 := by omega
      have HVV := Lib.hid (show (natsI (upFrom L b 0)) = zs by rw [upFrom_all]; exact HV.out)
      go_wp2_with fail
      go_ret
      exact ⟨A1, m, c1, rfl, by rw [HD.out, ← HVV.out]; exact HOw.out, HO.out⟩
    | succ k =>
      have hkk : ((k + 1 : Nat) : Int) - 1 = (k : Int) := by omega
      rw [hkk]
      have hk0 : (0 : Int) ≤ (k : Int) := by omega
      have HLEN := Lib.hid (upFrom_step (L := L) (b := b) (k := k) (by omega))
      obtain ⟨hh, hhh⟩ : ∃ q, holdP L k b = q := ⟨_, rfl⟩
      have HH := Lib.hid (show holdsI L (k : Int) (b : Int) = hh by rw [holdsI_nat (by have := HL.out; omega) (by have := HL.out; omega)]; exact hhh)
      have HS := Lib.hid (HA.out.on HO.out)
      have HPH := Lib.hid hhh
      clear hhh hkk
      go_wp2_with fail
      refine (vhas_to HQ.out HS.out).mono ?_
      rintro e w1 ⟨rfl, rfl⟩
      go_wp2_with fail
      refine (vholds_to hn HH.out HS.out hn2).mono ?_
      rintro e w1 ⟨rfl, rfl⟩
      cases hh with
      | false =>
        have HE := Lib.hid (show upFrom L b k = upFrom L b (k + 1) by rw [HLEN.out, HPH.out]; simp)
        go_wp2_with fail
        go_roundw
        case rel => exact ⟨k, m, c1, A1, by omega, rfl, rfl, by rw [HE.out]; exact HOw.out, hmb, HO.out⟩
        case measure => simp [intOf] <;> omega
      | true =>
        have HE := Lib.hid (show (natsI (upFrom L b k)).map (Value.int .i64) = (natsI (upFrom L b (k + 1))).map (Value.int .i64) ++ [.int .i64 (k : Int)] by rw [HLEN.out, HPH.out]; unfold natsI; simp)
        have hm1 : m + 1 ≤ b := by
          have h1 := upFrom_len L b k
          have h2 := congrArg List.length HE.out
          have h3 := HOw.out.1
          simp only [List.length_append, List.length_map, List.length_cons, List.length_nil, natsI] at h2 h3
          omega
        have hws := HO.out.size
        go_wp2_with ((with_reducible refine stop_dst 25 ?_ ?_); exact rfl)
        refine Stop.intro ?_
        have hOA := owns_below HOw.out ((Below.refl wr.heap.size wr).alloc (Nat.le_refl _) (.cells #[.int .i64 (k : Int)] 3))
        refine wpList_append_cells _ rfl (.tmp 22) (.tmp 24) _ rfl D 3 i0 (.int .i64 0) 1 8 Try.underlying27 hi0 hz0 hz1 hz2 rfl (by decide) (.slice A1 m c1) m _ rfl hOA _ 1 1 _ rfl (cells_ofone wr 3 (.int .i64 (k : Int))) (by intro u hu; simp at hu; subst hu; rfl) (by unfold maxLen; omega) (by omega) (by have := HD.out; simp; omega) ?_
        intro A2 c2 w2 hown2 hg2
        have hb2 : On w w2 := (HO.out.alloc _).grown hg2 (by simp; omega) (fun r e => by have := owns_block hOA r e; have := HD.out; omega)
        have HO2 := Lib.hid hb2
        have HOw2 := Lib.hid (show w2.ownsRow D 3 1 (.slice A2 (m + 1) c2) (m + 1) ((natsI (upFrom L b k)).map (Value.int .i64)) by rw [HE.out]; exact hown2)
        clear hOA hown2 hg2 hb2
        go_wp2_with fail
        go_roundw
        case rel => exact ⟨k, m + 1, c2, A2, by omega, rfl, rfl, HOw2.out, hm1, HO2.out⟩
        case measure => simp [intOf] <;> omega
end Go.Proofs.Ytllloonfnbhoeaa
/- The document's answers for package tree: parents, kids, rooms. -/
namespace Go.Proofs.Ytllloonfnbhoeaa
open Go.RowKit
set_option linter.unusedVariables false
set_option linter.unusedSimpArgs false
theorem IntsOut.ints {w w' : World} {zs : List Int} {e : Ending} (h : IntsOut w zs e w') : ∃ A n c, e = .returned (.slice A n c) ∧ n = zs.length ∧ Ints w' A n zs ∧ Below w.heap.size w w' := by
  obtain ⟨A, n, c, h1, h2, h3⟩ := h
  have hi := (ownsRow_cells h2).ints
  exact ⟨A, n, c, h1, hi.1.symm, hi, h3⟩
set_option maxHeartbeats 1000000 in
set_option maxRecDepth 100000 in
theorem vparent_to {L : List Nd} (hn : Nested L) {a : Int} (ha : -9223372036854775808 ≤ a ∧ a ≤ 9223372036854775807) {v : Int} (hv : parentI L a = v) {A : Option Addr} {n c : Nat} {w : World} (h : Sees w A n L) (hn2 : n ≤ 100000) :
    Calls Try.prog 17 #[.slice A n c, .int .i64 a] w fun e w' => e = .returned (.int .i64 v) ∧ Below w.heap.size w w' := by
  obtain ⟨zs, hz⟩ : ∃ zs, aboveI L a = zs := ⟨_, rfl⟩
  have HU := Lib.hid (vabove_to hn ha hz (A := A) (n := n) (c := c) (w := w) h hn2)
  unfold parentI at hv
  rw [hz] at hv
  clear ha hz h
  cases zs with
  | nil =>
    have HV := Lib.hid (show v = -1 from hv.symm)
    clear hv
    go_enter Try.func17, Try.ntmps17
    go_wp2_with fail
    refine HU.out.mono ?_
    intro e w1 hp
    obtain ⟨A1, m, c1, rfl, hm, hi, hb⟩ := hp.ints
    simp only [List.length_nil] at hm
    subst hm
    have HB := Lib.hid hb
    clear hp hi hb
    go_wp2_with fail
    go_ret
    exact ⟨ret_int HV.out.symm, HB.out⟩
  | cons z t =>
    have HV := Lib.hid (show v = z from hv.symm)
    clear hv
    go_enter Try.func17, Try.ntmps17
    go_wp2_with fail
    refine HU.out.mono ?_
    intro e w1 hp
    obtain ⟨A1, m, c1, rfl, hm, hi, hb⟩ := hp.ints
    have hm1 : 0 < m := by rw [hm]; simp
    obtain ⟨b1, o1, rfl, hc⟩ := hi.at_ hm1
    have hc0 : w1.cell? ⟨b1, o1 + 0, none⟩ = some (.int .i64 z) := hc
    have hc1 : w1.cell? ⟨b1, o1, none⟩ = some (.int .i64 z) := hc
    have hm2 : ((m : Int) == 0) = false := by simp; omega
    have hm3 : (0 : Int) < (m : Int) := by omega
    have HB := Lib.hid hb
    clear hp hi hb hm hc
    go_wp2_with fail
    go_ret
    exact ⟨ret_int HV.out.symm, HB.out⟩
/-- kids among the first k nodes. -/
def kidsTo (L : List Nd) (a : Int) (k : Nat) : List Int := ((List.range k).filter fun i : Nat => decide (parentI L (i : Int) = a)).map fun i : Nat => (i : Int)
theorem kidsTo_all (L : List Nd) (a : Int) : kidsTo L a L.length = kidsI L a := rfl
theorem kidsTo_step (L : List Nd) (a : Int) (k : Nat) : kidsTo L a (k + 1) = kidsTo L a k ++ (if parentI L (k : Int) = a then [(k : Int)] else []) := by
  unfold kidsTo
  rw [List.range_succ, List.filter_append, List.map_append]
  congr 1
  by_cases h : parentI L (k : Int) = a <;> simp [h]
theorem kidsTo_len (L : List Nd) (a : Int) (k : Nat) : (kidsTo L a k).length ≤ k := by
  unfold kidsTo
  rw [List.length_map]
  have := List.length_filter_le (fun i : Nat => decide (parentI L (i : Int) = a)) (List.range k)
  rwa [List.length_range] at this
set_option maxHeartbeats 4000000 in
set_option maxRecDepth 100000 in
theorem vkids_to {L : List Nd} (hn : Nested L) {a : Int} {zs : List Int} (hv : kidsI L a = zs) {A : Option Addr} {n c : Nat} {w : World} (h : Sees w A n L) (hn2 : n ≤ 100000) :
    Calls Try.prog 16 #[.slice A n c, .int .i64 a] w (IntsOut w zs) := by
  obtain ⟨i0, hi0, hz0, hz1, hz2⟩ := info_parts int_info8
  have HA := Lib.hid h
  have HL := Lib.hid h.len
  have HV := Lib.hid (show kidsTo L a n = zs by rw [← hv, ← kidsTo_all, h.len])
  clear h hv
  obtain ⟨D, hD⟩ : ∃ D, w.heap.size = D := ⟨_, rfl⟩
  have HD := Lib.hid hD
  clear hD
  go_enter Try.func16, Try.ntmps16
  go_wp2_with fail
  go_loopw [5, 6] (fun o i wr => ∃ (k m c1 : Nat) (A1 : Option Addr), k ≤ n ∧ i = .int .i64 (k : Int) ∧ o = .slice A1 m c1 ∧ wr.ownsRow D 3 1 (.slice A1 m c1) m ((kidsTo L a k).map (Value.int .i64)) ∧ m ≤ k ∧ On w wr) (fun _ i _ => n - (intOf i).toNat)
  case atStart => exact ⟨0, 0, 0, none, Nat.zero_le _, rfl, rfl, owns_nil _ _ _ _, Nat.zero_le _, On.refl w⟩
  case round =>
    obtain ⟨k, m, c1, A1, hkn, rfl, rfl, hown, hmk, hon⟩ := hrel
    have HO := Lib.hid hon
    have HOw := Lib.hid hown
    clear hon hown
    by_cases hlt : k < n
    · have hk2 : (k : Int) < (n : Int) := by omega
      obtain ⟨p, hp⟩ : ∃ p, parentI L (k : Int) = p := ⟨_, rfl⟩
      have HP := Lib.hid hp
      have HST := Lib.hid (kidsTo_step L a k)
      clear hp
      go_wp2_with fail
      refine (vparent_to hn (by omega) HP.out (HA.out.on HO.out) hn2).mono ?_
      rintro e w1 ⟨rfl, hb⟩
      have HO1 := Lib.hid (HO.out.step hb)
      have HOw1 := Lib.hid (owns_below HOw.out hb)
      clear hb
      by_cases hpa : p = a
      · have hq : (p == a) = true := by simp [hpa]
        have HE := Lib.hid (show (kidsTo L a (k + 1)).map (Value.int .i64) = (kidsTo L a k).map (Value.int .i64) ++ [.int .i64 (k : Int)] by rw [HST.out, HP.out, if_pos hpa]; simp)
        clear hpa
        go_wp2_with ((with_reducible refine stop_dst 21 ?_ ?_); exact rfl)
        refine Stop.intro ?_
        have hOA := owns_below HOw1.out ((Below.refl w1.heap.size w1).alloc (Nat.le_refl _) (.cells #[.int .i64 (k : Int)] 3))
        have hws := HO1.out.size
        refine wpList_append_cells _ rfl (.tmp 18) (.tmp 20) _ rfl D 3 i0 (.int .i64 0) 1 8 Try.underlying27 hi0 hz0 hz1 hz2 rfl (by decide) (.slice A1 m c1) m _ rfl hOA _ 1 1 _ rfl (cells_ofone w1 3 (.int .i64 (k : Int))) (by intro u hu; simp at hu; subst hu; rfl) (by unfold maxLen; omega) (by omega) (by have := HD.out; simp; omega) ?_
        intro A2 c2 w2 hown2 hg2
        have hb2 : On w w2 := (HO1.out.alloc _).grown hg2 (by simp; omega) (fun r e => by have := owns_block hOA r e; have := HD.out; omega)
        have HO2 := Lib.hid hb2
        have HOw2 := Lib.hid (show w2.ownsRow D 3 1 (.slice A2 (m + 1) c2) (m + 1) ((kidsTo L a (k + 1)).map (Value.int .i64)) by rw [HE.out]; exact hown2)
        clear hOA hown2 hg2 hb2
        go_wp2_with fail
        go_roundw
        case rel => exact ⟨k + 1, m + 1, c2, A2, by omega, by go_num, rfl, HOw2.out, by omega, HO2.out⟩
        case measure => simp [intOf] <;> omega
      · have hq : (p == a) = false := by simp [hpa]
        have HE := Lib.hid (show kidsTo L a (k + 1) = kidsTo L a k by rw [HST.out, HP.out, if_neg hpa, List.append_nil])
        clear hpa
        go_wp2_with fail
        go_roundw
        case rel => exact ⟨k + 1, m, c1, A1, by omega, by go_num, rfl, by rw [HE.out]; exact HOw1.out, by omega, HO1.out⟩
        case measure => simp [intOf] <;> omega
    · obtain rfl : k = n := by omega
      have hk2 : (k : Int) ≤ (k : Int) := by omega
      go_wp2_with fail
      go_ret
      exact ⟨A1, m, c1, rfl, by rw [HD.out, ← HV.out]; exact HOw.out, HO.out⟩
set_option maxHeartbeats 1000000 in
set_option maxRecDepth 100000 in
/-- two rows of the same numbers are the same. -/
theorem vints_same {zs : List Int} {A B : Option Addr} {n m c d : Nat} {w : World} (ha : Ints w A n zs) (hb : Ints w B m zs) : Calls Try.prog 18 #[.slice A n c, .slice B m d] w fun e w' => e = .returned (.bool true) ∧ Below w.heap.size w w' := by
  obtain rfl : n = m := by rw [← ha.1, ← hb.1]
  have hn := ha.2.1
  have HA := Lib.hid (show ∀ v, Below w.heap.size w v → Ints v A n zs from fun v hv => ha.below hv rfl)
  have HB := Lib.hid (show ∀ v, Below w.heap.size w v → Ints v B n zs from fun v hv => hb.below hv rfl)
  clear ha hb
  have hq : ((n : Int) != (n : Int)) = false := by simp
  go_enter Try.func18, Try.ntmps18
  go_wp2_with fail
  go_loopw [5] (fun i wr => ∃ k : Nat, k ≤ n ∧ i = .int .i64 k ∧ On w wr) (fun i _ => n - (intOf i).toNat)
  case atStart => exact ⟨0, by omega, rfl, On.refl w⟩
  case round =>
    obtain ⟨k, hk, rfl, hon⟩ := hrel
    have HO := Lib.hid hon
    clear hon
    by_cases hlt : k < n
    · have hk2 : (k : Int) < (n : Int) := by omega
      obtain ⟨z, hz⟩ : ∃ z, zs[k]?.getD 0 = z := ⟨_, rfl⟩
      obtain ⟨b1, o1, rfl, c1⟩ := (HA.out wr HO.out).at_ hlt
      obtain ⟨b2, o2, rfl, c2⟩ := (HB.out wr HO.out).at_ hlt
      rw [hz] at c1 c2
      have hzz : (z != z) = false := by simp
      clear hz
      go_wp2_with fail
      go_quiet (fail)
      go_wp2_with fail
      go_roundw
      case rel => exact ⟨k + 1, by omega, by go_num, below_drewN HO.out _⟩
      case measure => simp [intOf] <;> omega
    · have hk2 : (n : Int) ≤ (k : Int) := by omega
      go_wp2_with fail
      go_ret
      exact ⟨rfl, HO.out⟩
end Go.Proofs.Ytllloonfnbhoeaa
/- The document's answers for package tree: rooms; rows of rooms compared. -/
namespace Go.Proofs.Ytllloonfnbhoeaa
open Go.RowKit
set_option linter.unusedVariables false
set_option linter.unusedSimpArgs false
def encRm (p : Int × Int) : List Value := [.int .i64 p.1, .int .i64 p.2]
theorem encRm_len (p : Int × Int) : (encRm p).length = 2 := rfl
theorem encRm_one (p : Int × Int) : ∀ u ∈ encRm p, u.oneCell' = true := by
  intro u hu
  simp only [encRm, List.mem_cons, List.not_mem_nil, or_false] at hu
  rcases hu with rfl | rfl <;> rfl
theorem room_info : (Try.prog.info? 37).map (fun i => (i.zero, i.size, i.bytes)) = some (some (.agg #[.int .i64 0, .int .i64 0]), 2, 16) := by kernel_rfl
/-- rooms in a new row of the call's own. -/
def RoomsOut (w : World) (zs : List (Int × Int)) (e : Ending) (w' : World) : Prop := ∃ A n c, e = .returned (.slice A n c) ∧ w'.ownsRow w.heap.size 37 2 (.slice A n c) n (zs.flatMap encRm) ∧ Below w.heap.size w w'
theorem parentI_none {L : List Nd} {b : Nat} (hb : b < L.length) (h : parentP L b = none) : parentI L (b : Int) = -1 := by rw [parentI_nat hb, h]
theorem parentI_some {L : List Nd} {b p : Nat} (hb : b < L.length) (h : parentP L b = some p) : parentI L (b : Int) = (p : Int) := by rw [parentI_nat hb, h]
set_option maxHeartbeats 4000000 in
set_option maxRecDepth 100000 in
theorem vroom_all {L : List Nd} (hd : IsDoc L) {W : Int} (hw1 : 1 ≤ W) (hw2 : W ≤ maxX) {A : Option Addr} {n c : Nat} (hn2 : n ≤ 100000) : ∀ (b : Nat) (x y : Int), roomP L W b = (x, y) → b < n → ∀ (w : World), Sees w A n L →
    Calls Try.prog 40 #[.slice A n c, .int .i64 (b : Int), .int .i64 W] w fun e w' => e = .returned (.agg #[.int .i64 x, .int .i64 y]) ∧ Below w.heap.size w w' := by
  have hnest := hd.2.nested
  intro b
  induction b using Nat.strongRecOn with
  | _ b ih =>
  intro x y hr hbn w h
  have hl := h.len
  have HA := Lib.hid h
  have HW2 := Lib.hid hw2
  cases hp : parentP L b with
  | none =>
    have HP := Lib.hid (parentI_none (by omega) hp)
    rw [room_top hp] at hr
    injection hr with h1 h2
    subst h1 h2
    clear ih h hp hl hw2
    go_enter Try.func40, Try.ntmps40
    go_wp2_with fail
    refine (vparent_to hnest (by omega) HP.out (HA.out.below (show Below w.heap.size w _ by go_grown)) hn2).mono ?_
    rintro e w1 ⟨rfl, hb⟩
    have hX : Box w1 w.heap.size [.int .i64 0, .int .i64 0] := (box_new w _ _ _ rfl _ rfl).below hb
    obtain ⟨a0, a1, a2, a3, a4⟩ := hX.of2
    have HB := Lib.hid (below_then (show Below w.heap.size w _ by go_grown) hb)
    have HX := Lib.hid hX
    clear hb hX
    go_wp2_with fail
    have hY := (HX.out.set 0 (.int .i64 0) (by simp)).set 1 (.int .i64 W) (by simp)
    have r0 := hY.2.2 0 _ rfl
    have r1 := hY.2.2 1 _ rfl
    exact bodyPost_ret (v := .agg #[.int .i64 0, .int .i64 W]) (by simp [results, Try.results40, go_sem, r0, r1]) rfl ⟨rfl, (HB.out.setCell (by simp) _).setCell (by simp) _⟩
  | some p =>
    have hpl := (parent_lt hp).1
    have HP := Lib.hid (parentI_some (by omega) hp)
    have hin := inset_bd hd.1 p
    obtain ⟨⟨x', y'⟩, hrp⟩ : ∃ q, roomP L W p = q := ⟨_, rfl⟩
    have hbd := room_bd hd.1 hw1 hw2 p
    rw [hrp] at hbd
    obtain ⟨q1, q2, q3, q4⟩ := hbd
    simp only at q1 q2 q3 q4
    rw [room_step hp, hrp] at hr
    injection hr with h1 h2
    have HI := Lib.hid (fun v hv => ih p hpl x' y' hrp (by omega) v hv)
    obtain ⟨b1, o1, m1, x1, rfl, hb1, e1, r1, s1⟩ := h.at_ (show p < n by omega)
    have hins : insetAt L p = m1.sty.inset := by unfold insetAt; rw [e1]; show x1.sty.inset = _; rw [s1.1.2.2.1]
    have R1 := Lib.hid (show ∀ v, On w v → v.cell? ⟨b1, o1 + p * 20 + 2 + 4, none⟩ = some (.int .i64 m1.sty.inset) from fun v hv => range_on r1 v hv 6 _ rfl)
    rw [hins] at hin h1 h2
    obtain ⟨i, hi⟩ : ∃ i, m1.sty.inset = i := ⟨_, rfl⟩
    rw [hi] at hin h1 h2 R1
    obtain ⟨i0, i1⟩ := hin
    simp only at h1 h2
    have q5 : y' ≤ 1099511627776 := Int.le_trans q4 hw2
    unfold maxX at q2 i1 h1
    have HX1 := Lib.hid h1
    have HX2 := Lib.hid h2
    have hpn : (p : Int) < (n : Int) := by omega
    have hpb : ¬ ((p : Int) < 0) := by omega
    clear ih h hp hl hw2 hrp h1 h2 r1 s1 e1 hins hi HW2 q4 hw1
    go_enter Try.func40, Try.ntmps40
    go_wp2_with fail
    refine (vparent_to hnest (by omega) HP.out (HA.out.below (show Below w.heap.size w _ by go_grown)) hn2).mono ?_
    rintro e w1 ⟨rfl, hb⟩
    have HB := Lib.hid (below_then (show Below w.heap.size w _ by go_grown) hb)
    have HX := Lib.hid (show Box w1 w.heap.size [.int .i64 0, .int .i64 0] from (box_new w _ _ _ rfl _ rfl).below hb)
    clear hb
    go_wp2_with fail
    refine (HI.out _ (HA.out.below HB.out)).mono ?_
    rintro e w2 ⟨rfl, hb⟩
    have HB2 := Lib.hid (below_then HB.out hb)
    have HXX := Lib.hid (HX.out.below hb)
    have g1 := R1.out w2 HB2.out
    clear hb
    have hlt : w.heap.size < w2.heap.size := HXX.out.lt
    have hne : ¬ w.heap.size = w2.heap.size := by omega
    obtain ⟨a0, a1, a2, a3, a4⟩ := HXX.out.of2
    have g2 := R1.out _ (HB2.out.alloc (by omega) (.cells #[.int .i64 x', .int .i64 y'] 37))
    have hy0 : 0 ≤ y' := by omega
    clear g1
    go_wp2_with fail
    have hmx := HX1.out
    have hmy := HX2.out
    have hY := ((HXX.out.set 0 (.int .i64 (min (x' + i) 1099511627776)) (by simp)).set 1 (.int .i64 (max (y' - i - i) 1)) (by simp)).alloc (.cells #[.int .i64 x', .int .i64 y'] 37)
    have r0 := hY.2.2 0 _ rfl
    have r1 := hY.2.2 1 _ rfl
    exact bodyPost_ret (v := .agg #[.int .i64 x, .int .i64 y]) (by rw [← hmx, ← hmy]; simp [results, Try.results40, go_sem, r0, r1]) rfl ⟨rfl, ((HB2.out.setCell (by simp) _).setCell (by simp) _).alloc (by simp; omega) _⟩
theorem vroom_to {L : List Nd} (hd : IsDoc L) {W : Int} (hw1 : 1 ≤ W) (hw2 : W ≤ maxX) {A : Option Addr} {n c b : Nat} (hn2 : n ≤ 100000) (hbn : b < n) {w : World} (h : Sees w A n L) :
    Calls Try.prog 40 #[.slice A n c, .int .i64 (b : Int), .int .i64 W] w fun e w' => e = .returned (.agg #[.int .i64 (roomP L W b).1, .int .i64 (roomP L W b).2]) ∧ Below w.heap.size w w' :=
  vroom_all hd hw1 hw2 hn2 b _ _ rfl hbn w h
end Go.Proofs.Ytllloonfnbhoeaa
/- slices.Collect over an iterator that reads memory. -/
namespace Go.Proofs.Ytllloonfnbhoeaa
open Go.RowKit Go.Shelf
set_option linter.unusedVariables false
set_option linter.unusedSimpArgs false
attribute [local go_sem] Oper.semAt_some
theorem wide_deep (k : Nat) : Fence.wide.depth.isSome = true → 1 ≤ k := fun h => by cases h
theorem grown_of_below {w w' : World} (h : Below w.heap.size w w') (row : Option Nat) : w.grownBy w' row := ⟨h.os, h.tape, h.output, h.size, fun k hk _ => h.block k hk⟩
set_option maxRecDepth 100000 in
set_option maxHeartbeats 2000000 in
theorem appendSeq_in (n : Nat) (hn : 2 ≤ n) (g : Nat) (lb : Array Value) (eg : ∀ args w, (callFunc g args).run Try.prog w = .ok (.enter g args) w)
    (S Sp : List Int → Prop) (N n₀ : Nat) (hN : N ≤ 1000000) (w w0 : World) (hn₀ : n₀ ≤ w.heap.size) (hb0 : Below w0.heap.size w0 w) (hseq : SeqStopsK Fence.wide (n - 1) Try.prog g lb (fun x : Int => #[Value.int .i64 x]) (Below n₀) S Sp N w0) :
    CallsIn Fence.wide n Try.prog 46 #[.slice none 0 0, .func (.func g) #[] lb] w fun e w' => ∃ xs v, e = .returned v ∧ S xs ∧ w'.ownsRow w.heap.size 3 1 v xs.length (xs.map (Value.int .i64)) ∧ Below w.heap.size w w' := by
  have h1 : 1 ≤ n := by omega
  obtain ⟨i0, hi, hz0, hz1, hz2⟩ := info_parts int_info8
  refine callsIn_of_wp_marks Try.func46 rfl trivial ?_ rfl
  simp only [Try.ntmps46, List.size_toArray, List.length_cons, List.length_nil, Nat.reduceAdd, Nat.reduceSub, Array.replicate_succ, Array.replicate_zero, List.push_toArray, List.append_toArray, List.nil_append, List.cons_append]
  gi_wp2
  have bO := Boxed.new w 27 (.slice none 0 0)
  have hB0 : Below w.heap.size w (w.alloc (.cells #[.slice none 0 0] 27)) := (Below.refl _ w).alloc (Nat.le_refl _) _
  refine wpIn_rangeFunc_ownG (F := Fence.wide) rfl h1 (gf := g) (lb := lb) rfl trivial eg hseq belowK_t (belowK_b (by simp; omega)) (hb0.trans (hB0.mono hb0.size)) (fun _ => rfl)
    (fun pre W => (∃ v, Boxed W w.heap.size 27 v ∧ W.ownsRow w.heap.size 3 1 v pre.length (pre.map (Value.int .i64)) ∧ True) ∧ Below w.heap.size w W)
    (fun _ _ _ => False)
    (OwnFrom.and (Own.from (holdsRow_own w.heap.size w.heap.size 27 3 1 (fun pre : List Int => pre.length) (fun pre => pre.map (Value.int .i64)) (fun pre v => True)) _) (ownFrom_below (Nat.le_refl _) (by simp)))
    (fun _ _ _ _ _ hs _ _ => hs)
    ⟨⟨_, bO, World.ownsRow_nil _ _ _ _, trivial⟩, hB0⟩
    (fun x => { tmps := #[.slice none 0 0, .func (.func g) #[] lb, .pointer (some ⟨w.heap.size, 0, none⟩), undef, .slice none 0 0, .int .i64 x, .func (.func g) #[] lb, .int .i64 x, undef, undef, undef, undef, undef], defers := [] }) ?assign ?body ?done ?stop
  case assign =>
    intro l x W K hK
    gi_wp2
    exact hK
  case body =>
    rintro l pre x W ⟨⟨v, hv, hrow, _⟩, hB⟩ hlt
    have hc := hv.cell
    gi_wp2_with (gi_at_builtin; refine wpListIn_append_own _ rfl _ _ 27 rfl w.heap.size 3 i0 (.int .i64 0) 1 8 Try.underlying27 hi hz0 hz1 hz2 rfl (by decide) _ _ _ rfl (hrow.alloc _) ⟨W.heap.size, 0, none⟩ 1 1 [.int .i64 x] rfl rfl (cell_one_new _ _ _) (by simp [Value.oneCell']) (by simp [maxLen]; omega) (by omega) (by have := hB.size; simp; omega) ?_; intro v' w1 hown' hgrow _; obtain ⟨g', cap', rfl⟩ := ownsRow_succ hown'; obtain ⟨hv1, hv2, hr2, hk2, hb2⟩ := hv.appended (by decide) hrow hB.size (Nat.le_refl _) hown' hgrow; have hc1 := hv1.cell; have hf1 := hv1.frozen)
    exact ⟨hk2.from _, hb2.mono hn₀, ⟨_, hv2, by simpa using hr2, trivial⟩, hB.trans hb2⟩
  case done =>
    rintro D ys W hD hS ⟨⟨v, hv, hrow, _⟩, hB⟩ hK
    have hc := hv.cell
    gi_wp2
    refine ⟨by simp, .inl ⟨_, _, rfl, run_takeDeferred hK, ?_⟩⟩
    exact ⟨_, results_tmp rfl _ _ _, ys, v, rfl, hS, ownsRow_putObj hrow _ hK rfl, hB.trans (belowK_b (w := w) (Nat.le_refl _) W D _ _ (by simp at hD; omega) hK rfl rfl)⟩
  case stop =>
    rintro D c pre W _ _ h _
    exact h.elim
set_option maxRecDepth 100000 in
set_option maxHeartbeats 2000000 in
/-- slices.Collect of such an iterator: what it gives, in a new row. -/
theorem collect_to (g : Nat) (lb : Array Value) (eg : ∀ args w, (callFunc g args).run Try.prog w = .ok (.enter g args) w)
    (S Sp : List Int → Prop) (N n₀ : Nat) (hN : N ≤ 1000000) (w w0 : World) (hn₀ : n₀ ≤ w.heap.size) (hb0 : Below w0.heap.size w0 w) (hseq : ∀ m, SeqStopsK Fence.wide m Try.prog g lb (fun x : Int => #[Value.int .i64 x]) (Below n₀) S Sp N w0) :
    Calls Try.prog 27 #[.func (.func g) #[] lb] w fun e w' => ∃ xs v, e = .returned v ∧ S xs ∧ w'.ownsRow w.heap.size 3 1 v xs.length (xs.map (Value.int .i64)) ∧ Below w.heap.size w w' := by
  have hap := callsIn_wide.1 (appendSeq_in 2 (Nat.le_refl _) g lb eg S Sp N n₀ hN w w0 hn₀ hb0 (hseq _))
  go_enter Try.func27, Try.ntmps27
  go_wp2_with fail
  refine hap.mono ?_
  rintro e w1 ⟨xs, v, rfl, h1, h2, h3⟩
  go_wp2_with fail
  go_ret
  exact ⟨xs, v, rfl, h1, h2, h3⟩
end Go.Proofs.Ytllloonfnbhoeaa
