import Derived.Test.YtildplbdhnodjaaDoorJD00
import Derived.Test.YtildplbdhnodjaaDoorRows
import Derived.Test.YtildplbdhnodjaaDoorJD01
import Derived.OwnWalk
import Derived.ChangeMaps5
import Derived.Laws.RangeAny
import Derived.Deep.QuietTactic
import Derived.BigQuiet
import Derived.Lib.MinMax
import Derived.Test.YtildplbdhnodjaaDoorJD02
import Derived.Lib.LaidU8T
import Derived.PinnedBridge
import Derived.Lib.LaidIn
import Derived.LaidMore
import Derived.MakeChecks
/- The document's answers for package lex: one byte, and the size of a character. -/
namespace Go.Proofs.YtildplbdhnodjaaDoor
open Go.RowKit
set_option linter.unusedVariables false
set_option linter.unusedSimpArgs false
theorem in_any (s : ByteArray) (k : Nat) (a b : Int) (w : World) (hk : k ≤ 1000000) (hs : s.size ≤ 1000000) : Calls Tryd.prog 35 #[.string s, .int .i64 k, .int .u8 a, .int .u8 b] w fun e w' => e = .returned (.bool (inB s k a b)) ∧ w = w' := by
  by_cases h1 : k < s.size
  · have hb := bAt_get s k h1
    have h2 : (k : Int) < (s.size : Int) := by omega
    by_cases h3 : a ≤ bAt s k
    all_goals
      go_enter Tryd.func35, Tryd.ntmps35
      go_wp2
      go_ret
      exact ⟨ret_bool (by rw [inB_at h1]; first | (simp [h3]; done) | (rw [decide_eq_false (show ¬ a ≤ bAt s k by omega)]; rfl)), rfl⟩
  · have h2 : (s.size : Int) ≤ (k : Int) := by omega
    go_enter Tryd.func35, Tryd.ntmps35
    go_wp2
    go_ret
    exact ⟨ret_bool (inB_ge h1 a b).symm, rfl⟩
theorem in_at {s : ByteArray} {x : Int} {k : Nat} (hx : x = (k : Int)) (a b : Int) (w : World) (hk : k ≤ 1000000) (hs : s.size ≤ 1000000) : Calls Tryd.prog 35 #[.string s, .int .i64 x, .int .u8 a, .int .u8 b] w fun e w' => e = .returned (.bool (inB s k a b)) ∧ w = w' := by
  subst hx; exact in_any s k a b w hk hs
theorem more_any (s : ByteArray) (k n : Nat) (w : World) (hk : k ≤ 900000) (hn : n ≤ 3) (hs : s.size ≤ 1000000) : Calls Tryd.prog 62 #[.string s, .int .i64 k, .int .i64 n] w fun e w' => e = .returned (.bool (moreB s k n)) ∧ w = w' := by
  go_enter Tryd.func62, Tryd.ntmps62
  go_wp2_with fail
  go_loopw [7] (fun i wr => ∃ j : Nat, j ≤ n ∧ i = .int .i64 j ∧ moreB s k j = true ∧ wr = w) (fun i _ => n - (intOf i).toNat)
  case atStart => exact ⟨0, by omega, rfl, rfl, rfl⟩
  case round =>
    obtain ⟨j, hj, rfl, hm, rfl⟩ := hrel
    have HM := Lib.hid hm
    clear hm
    by_cases hlt : j < n
    · obtain ⟨v, hv⟩ : ∃ v, inB s (k + j) 128 191 = v := ⟨_, rfl⟩
      cases v
      · have HN := Lib.hid (moreB_no (i := k) hlt hv)
        go_wp2_with (go_at_call 35; refine (in_at (k := k + j) (by omega) _ _ _ (by omega) hs).mono ?_; rintro e w' ⟨rfl, rfl⟩)
        go_ret
        exact ⟨ret_bool HN.out.symm, rfl⟩
      · have HN := Lib.hid (show moreB s k (j + 1) = true by show (moreB s k j && inB s (k + j) 128 191) = true; rw [HM.out, hv]; rfl)
        go_wp2_with (go_at_call 35; refine (in_at (k := k + j) (by omega) _ _ _ (by omega) hs).mono ?_; rintro e w' ⟨rfl, rfl⟩)
        go_roundw
        case rel => exact ⟨j + 1, by omega, by go_num, HN.out, by first | rfl | trivial⟩
        case measure => simp [intOf]; omega
    · obtain rfl : j = n := by omega
      go_wp2_with fail
      go_ret
      exact ⟨ret_bool HM.out.symm, rfl⟩
theorem more_at {s : ByteArray} {x y : Int} {k n : Nat} (hx : x = (k : Int)) (hy : y = (n : Int)) (w : World) (hk : k ≤ 900000) (hn : n ≤ 3) (hs : s.size ≤ 1000000) : Calls Tryd.prog 62 #[.string s, .int .i64 x, .int .i64 y] w fun e w' => e = .returned (.bool (moreB s k n)) ∧ w = w' := by
  subst hx hy; exact more_any s k n w hk hn hs
theorem in_k1 (s : ByteArray) (k : Nat) (a b : Int) (w : World) (hk : k ≤ 800000) (hs : s.size ≤ 1000000) : Calls Tryd.prog 35 #[.string s, .int .i64 ((k : Int) + 1), .int .u8 a, .int .u8 b] w fun e w' => e = .returned (.bool (inB s (k + 1) a b)) ∧ w = w' := in_at (by omega) a b w (by omega) hs
theorem more_k1_1 (s : ByteArray) (k : Nat) (w : World) (hk : k ≤ 800000) (hs : s.size ≤ 1000000) : Calls Tryd.prog 62 #[.string s, .int .i64 ((k : Int) + 1), .int .i64 1] w fun e w' => e = .returned (.bool (moreB s (k + 1) 1)) ∧ w = w' := more_at (by omega) (by omega) w (by omega) (by omega) hs
theorem more_k1_2 (s : ByteArray) (k : Nat) (w : World) (hk : k ≤ 800000) (hs : s.size ≤ 1000000) : Calls Tryd.prog 62 #[.string s, .int .i64 ((k : Int) + 1), .int .i64 2] w fun e w' => e = .returned (.bool (moreB s (k + 1) 2)) ∧ w = w' := more_at (by omega) (by omega) w (by omega) (by omega) hs
theorem more_k1_3 (s : ByteArray) (k : Nat) (w : World) (hk : k ≤ 800000) (hs : s.size ≤ 1000000) : Calls Tryd.prog 62 #[.string s, .int .i64 ((k : Int) + 1), .int .i64 3] w fun e w' => e = .returned (.bool (moreB s (k + 1) 3)) ∧ w = w' := more_at (by omega) (by omega) w (by omega) (by omega) hs
theorem more_k2_1 (s : ByteArray) (k : Nat) (w : World) (hk : k ≤ 800000) (hs : s.size ≤ 1000000) : Calls Tryd.prog 62 #[.string s, .int .i64 ((k : Int) + 2), .int .i64 1] w fun e w' => e = .returned (.bool (moreB s (k + 2) 1)) ∧ w = w' := more_at (by omega) (by omega) w (by omega) (by omega) hs
theorem more_k2_2 (s : ByteArray) (k : Nat) (w : World) (hk : k ≤ 800000) (hs : s.size ≤ 1000000) : Calls Tryd.prog 62 #[.string s, .int .i64 ((k : Int) + 2), .int .i64 2] w fun e w' => e = .returned (.bool (moreB s (k + 2) 2)) ∧ w = w' := more_at (by omega) (by omega) w (by omega) (by omega) hs
theorem more_k2_3 (s : ByteArray) (k : Nat) (w : World) (hk : k ≤ 800000) (hs : s.size ≤ 1000000) : Calls Tryd.prog 62 #[.string s, .int .i64 ((k : Int) + 2), .int .i64 3] w fun e w' => e = .returned (.bool (moreB s (k + 2) 3)) ∧ w = w' := more_at (by omega) (by omega) w (by omega) (by omega) hs
end Go.Proofs.YtildplbdhnodjaaDoor
/- The document's answer for package lex: the size of a character. -/
namespace Go.Proofs.YtildplbdhnodjaaDoor
open Go.RowKit
set_option linter.unusedVariables false
set_option linter.unusedSimpArgs false
set_option maxRecDepth 100000 in
set_option maxHeartbeats 2000000 in
theorem size_any (s : ByteArray) (k : Nat) (w : World) (hk : k ≤ 800000) (hs : s.size ≤ 800000) : Calls Tryd.prog 34 #[.string s, .int .i64 k] w fun e w' => e = .returned (.int .i64 (sizeB s k)) ∧ w = w' := by
  have hs2 : s.size ≤ 1000000 := by omega
  rcases byte_classes s k with ⟨c0, c1, c2, c3, c4, c5, c6, c7, c8⟩ | ⟨c0, c1, c2, c3, c4, c5, c6, c7, c8⟩ | ⟨c0, c1, c2, c3, c4, c5, c6, c7, c8⟩ | ⟨c0, c1, c2, c3, c4, c5, c6, c7, c8⟩ | ⟨c0, c1, c2, c3, c4, c5, c6, c7, c8⟩ | ⟨c0, c1, c2, c3, c4, c5, c6, c7, c8⟩ | ⟨c0, c1, c2, c3, c4, c5, c6, c7, c8⟩ | ⟨c0, c1, c2, c3, c4, c5, c6, c7, c8⟩ | ⟨c0, c1, c2, c3, c4, c5, c6, c7, c8⟩ | ⟨c0, c1, c2, c3, c4, c5, c6, c7, c8⟩
  all_goals
    generalize hr : sizeB s k = r
    unfold sizeB at hr
    simp only [c0, c1, c2, c3, c4, c5, c6, c7, c8, Bool.false_and, Bool.true_and, Bool.false_or, Bool.or_false, Bool.false_eq_true, if_false, if_true] at hr
  · all_goals
      subst hr
      go_enter Tryd.func34, Tryd.ntmps34
      go_wp2_with (first
        | (go_at_call 35; with_reducible refine (in_any s k _ _ _ (by omega) hs2).mono ?_; rintro e w' ⟨rfl, rfl⟩)
        | (go_at_call 35; with_reducible refine (in_k1 s k _ _ _ hk hs2).mono ?_; rintro e w' ⟨rfl, rfl⟩)
        | (go_at_call 62; with_reducible refine (more_k1_1 s k _ hk hs2).mono ?_; rintro e w' ⟨rfl, rfl⟩)
        | (go_at_call 62; with_reducible refine (more_k1_2 s k _ hk hs2).mono ?_; rintro e w' ⟨rfl, rfl⟩)
        | (go_at_call 62; with_reducible refine (more_k1_3 s k _ hk hs2).mono ?_; rintro e w' ⟨rfl, rfl⟩)
        | (go_at_call 62; with_reducible refine (more_k2_1 s k _ hk hs2).mono ?_; rintro e w' ⟨rfl, rfl⟩)
        | (go_at_call 62; with_reducible refine (more_k2_2 s k _ hk hs2).mono ?_; rintro e w' ⟨rfl, rfl⟩)
        | (go_at_call 62; with_reducible refine (more_k2_3 s k _ hk hs2).mono ?_; rintro e w' ⟨rfl, rfl⟩))
      go_ret
      exact ⟨rfl, rfl⟩
  · all_goals
      subst hr
      go_enter Tryd.func34, Tryd.ntmps34
      go_wp2_with (first
        | (go_at_call 35; with_reducible refine (in_any s k _ _ _ (by omega) hs2).mono ?_; rintro e w' ⟨rfl, rfl⟩)
        | (go_at_call 35; with_reducible refine (in_k1 s k _ _ _ hk hs2).mono ?_; rintro e w' ⟨rfl, rfl⟩)
        | (go_at_call 62; with_reducible refine (more_k1_1 s k _ hk hs2).mono ?_; rintro e w' ⟨rfl, rfl⟩)
        | (go_at_call 62; with_reducible refine (more_k1_2 s k _ hk hs2).mono ?_; rintro e w' ⟨rfl, rfl⟩)
        | (go_at_call 62; with_reducible refine (more_k1_3 s k _ hk hs2).mono ?_; rintro e w' ⟨rfl, rfl⟩)
        | (go_at_call 62; with_reducible refine (more_k2_1 s k _ hk hs2).mono ?_; rintro e w' ⟨rfl, rfl⟩)
        | (go_at_call 62; with_reducible refine (more_k2_2 s k _ hk hs2).mono ?_; rintro e w' ⟨rfl, rfl⟩)
        | (go_at_call 62; with_reducible refine (more_k2_3 s k _ hk hs2).mono ?_; rintro e w' ⟨rfl, rfl⟩))
      go_ret
      exact ⟨rfl, rfl⟩
  · obtain ⟨v0, m0⟩ : ∃ v, moreB s (k + 1) 1 = v := ⟨_, rfl⟩
    cases v0
    all_goals
      simp only [m0, Bool.false_and, Bool.true_and, Bool.and_true, Bool.and_false, Bool.false_eq_true, if_false, if_true] at hr
      subst hr
      go_enter Tryd.func34, Tryd.ntmps34
      go_wp2_with (first
        | (go_at_call 35; with_reducible refine (in_any s k _ _ _ (by omega) hs2).mono ?_; rintro e w' ⟨rfl, rfl⟩)
        | (go_at_call 35; with_reducible refine (in_k1 s k _ _ _ hk hs2).mono ?_; rintro e w' ⟨rfl, rfl⟩)
        | (go_at_call 62; with_reducible refine (more_k1_1 s k _ hk hs2).mono ?_; rintro e w' ⟨rfl, rfl⟩)
        | (go_at_call 62; with_reducible refine (more_k1_2 s k _ hk hs2).mono ?_; rintro e w' ⟨rfl, rfl⟩)
        | (go_at_call 62; with_reducible refine (more_k1_3 s k _ hk hs2).mono ?_; rintro e w' ⟨rfl, rfl⟩)
        | (go_at_call 62; with_reducible refine (more_k2_1 s k _ hk hs2).mono ?_; rintro e w' ⟨rfl, rfl⟩)
        | (go_at_call 62; with_reducible refine (more_k2_2 s k _ hk hs2).mono ?_; rintro e w' ⟨rfl, rfl⟩)
        | (go_at_call 62; with_reducible refine (more_k2_3 s k _ hk hs2).mono ?_; rintro e w' ⟨rfl, rfl⟩))
      go_ret
      exact ⟨rfl, rfl⟩
  · obtain ⟨v0, m0⟩ : ∃ v, inB s (k + 1) 160 191 = v := ⟨_, rfl⟩
    obtain ⟨v1, m1⟩ : ∃ v, moreB s (k + 2) 1 = v := ⟨_, rfl⟩
    cases v0 <;> cases v1
    all_goals
      simp only [m0, m1, Bool.false_and, Bool.true_and, Bool.and_true, Bool.and_false, Bool.false_eq_true, if_false, if_true] at hr
      subst hr
      go_enter Tryd.func34, Tryd.ntmps34
      go_wp2_with (first
        | (go_at_call 35; with_reducible refine (in_any s k _ _ _ (by omega) hs2).mono ?_; rintro e w' ⟨rfl, rfl⟩)
        | (go_at_call 35; with_reducible refine (in_k1 s k _ _ _ hk hs2).mono ?_; rintro e w' ⟨rfl, rfl⟩)
        | (go_at_call 62; with_reducible refine (more_k1_1 s k _ hk hs2).mono ?_; rintro e w' ⟨rfl, rfl⟩)
        | (go_at_call 62; with_reducible refine (more_k1_2 s k _ hk hs2).mono ?_; rintro e w' ⟨rfl, rfl⟩)
        | (go_at_call 62; with_reducible refine (more_k1_3 s k _ hk hs2).mono ?_; rintro e w' ⟨rfl, rfl⟩)
        | (go_at_call 62; with_reducible refine (more_k2_1 s k _ hk hs2).mono ?_; rintro e w' ⟨rfl, rfl⟩)
        | (go_at_call 62; with_reducible refine (more_k2_2 s k _ hk hs2).mono ?_; rintro e w' ⟨rfl, rfl⟩)
        | (go_at_call 62; with_reducible refine (more_k2_3 s k _ hk hs2).mono ?_; rintro e w' ⟨rfl, rfl⟩))
      go_ret
      exact ⟨rfl, rfl⟩
  · obtain ⟨v0, m0⟩ : ∃ v, moreB s (k + 1) 2 = v := ⟨_, rfl⟩
    cases v0
    all_goals
      simp only [m0, Bool.false_and, Bool.true_and, Bool.and_true, Bool.and_false, Bool.false_eq_true, if_false, if_true] at hr
      subst hr
      go_enter Tryd.func34, Tryd.ntmps34
      go_wp2_with (first
        | (go_at_call 35; with_reducible refine (in_any s k _ _ _ (by omega) hs2).mono ?_; rintro e w' ⟨rfl, rfl⟩)
        | (go_at_call 35; with_reducible refine (in_k1 s k _ _ _ hk hs2).mono ?_; rintro e w' ⟨rfl, rfl⟩)
        | (go_at_call 62; with_reducible refine (more_k1_1 s k _ hk hs2).mono ?_; rintro e w' ⟨rfl, rfl⟩)
        | (go_at_call 62; with_reducible refine (more_k1_2 s k _ hk hs2).mono ?_; rintro e w' ⟨rfl, rfl⟩)
        | (go_at_call 62; with_reducible refine (more_k1_3 s k _ hk hs2).mono ?_; rintro e w' ⟨rfl, rfl⟩)
        | (go_at_call 62; with_reducible refine (more_k2_1 s k _ hk hs2).mono ?_; rintro e w' ⟨rfl, rfl⟩)
        | (go_at_call 62; with_reducible refine (more_k2_2 s k _ hk hs2).mono ?_; rintro e w' ⟨rfl, rfl⟩)
        | (go_at_call 62; with_reducible refine (more_k2_3 s k _ hk hs2).mono ?_; rintro e w' ⟨rfl, rfl⟩))
      go_ret
      exact ⟨rfl, rfl⟩
  · obtain ⟨v0, m0⟩ : ∃ v, inB s (k + 1) 128 159 = v := ⟨_, rfl⟩
    obtain ⟨v1, m1⟩ : ∃ v, moreB s (k + 2) 1 = v := ⟨_, rfl⟩
    cases v0 <;> cases v1
    all_goals
      simp only [m0, m1, Bool.false_and, Bool.true_and, Bool.and_true, Bool.and_false, Bool.false_eq_true, if_false, if_true] at hr
      subst hr
      go_enter Tryd.func34, Tryd.ntmps34
      go_wp2_with (first
        | (go_at_call 35; with_reducible refine (in_any s k _ _ _ (by omega) hs2).mono ?_; rintro e w' ⟨rfl, rfl⟩)
        | (go_at_call 35; with_reducible refine (in_k1 s k _ _ _ hk hs2).mono ?_; rintro e w' ⟨rfl, rfl⟩)
        | (go_at_call 62; with_reducible refine (more_k1_1 s k _ hk hs2).mono ?_; rintro e w' ⟨rfl, rfl⟩)
        | (go_at_call 62; with_reducible refine (more_k1_2 s k _ hk hs2).mono ?_; rintro e w' ⟨rfl, rfl⟩)
        | (go_at_call 62; with_reducible refine (more_k1_3 s k _ hk hs2).mono ?_; rintro e w' ⟨rfl, rfl⟩)
        | (go_at_call 62; with_reducible refine (more_k2_1 s k _ hk hs2).mono ?_; rintro e w' ⟨rfl, rfl⟩)
        | (go_at_call 62; with_reducible refine (more_k2_2 s k _ hk hs2).mono ?_; rintro e w' ⟨rfl, rfl⟩)
        | (go_at_call 62; with_reducible refine (more_k2_3 s k _ hk hs2).mono ?_; rintro e w' ⟨rfl, rfl⟩))
      go_ret
      exact ⟨rfl, rfl⟩
  · obtain ⟨v0, m0⟩ : ∃ v, moreB s (k + 1) 2 = v := ⟨_, rfl⟩
    cases v0
    all_goals
      simp only [m0, Bool.false_and, Bool.true_and, Bool.and_true, Bool.and_false, Bool.false_eq_true, if_false, if_true] at hr
      subst hr
      go_enter Tryd.func34, Tryd.ntmps34
      go_wp2_with (first
        | (go_at_call 35; with_reducible refine (in_any s k _ _ _ (by omega) hs2).mono ?_; rintro e w' ⟨rfl, rfl⟩)
        | (go_at_call 35; with_reducible refine (in_k1 s k _ _ _ hk hs2).mono ?_; rintro e w' ⟨rfl, rfl⟩)
        | (go_at_call 62; with_reducible refine (more_k1_1 s k _ hk hs2).mono ?_; rintro e w' ⟨rfl, rfl⟩)
        | (go_at_call 62; with_reducible refine (more_k1_2 s k _ hk hs2).mono ?_; rintro e w' ⟨rfl, rfl⟩)
        | (go_at_call 62; with_reducible refine (more_k1_3 s k _ hk hs2).mono ?_; rintro e w' ⟨rfl, rfl⟩)
        | (go_at_call 62; with_reducible refine (more_k2_1 s k _ hk hs2).mono ?_; rintro e w' ⟨rfl, rfl⟩)
        | (go_at_call 62; with_reducible refine (more_k2_2 s k _ hk hs2).mono ?_; rintro e w' ⟨rfl, rfl⟩)
        | (go_at_call 62; with_reducible refine (more_k2_3 s k _ hk hs2).mono ?_; rintro e w' ⟨rfl, rfl⟩))
      go_ret
      exact ⟨rfl, rfl⟩
  · obtain ⟨v0, m0⟩ : ∃ v, inB s (k + 1) 144 191 = v := ⟨_, rfl⟩
    obtain ⟨v1, m1⟩ : ∃ v, moreB s (k + 2) 2 = v := ⟨_, rfl⟩
    cases v0 <;> cases v1
    all_goals
      simp only [m0, m1, Bool.false_and, Bool.true_and, Bool.and_true, Bool.and_false, Bool.false_eq_true, if_false, if_true] at hr
      subst hr
      go_enter Tryd.func34, Tryd.ntmps34
      go_wp2_with (first
        | (go_at_call 35; with_reducible refine (in_any s k _ _ _ (by omega) hs2).mono ?_; rintro e w' ⟨rfl, rfl⟩)
        | (go_at_call 35; with_reducible refine (in_k1 s k _ _ _ hk hs2).mono ?_; rintro e w' ⟨rfl, rfl⟩)
        | (go_at_call 62; with_reducible refine (more_k1_1 s k _ hk hs2).mono ?_; rintro e w' ⟨rfl, rfl⟩)
        | (go_at_call 62; with_reducible refine (more_k1_2 s k _ hk hs2).mono ?_; rintro e w' ⟨rfl, rfl⟩)
        | (go_at_call 62; with_reducible refine (more_k1_3 s k _ hk hs2).mono ?_; rintro e w' ⟨rfl, rfl⟩)
        | (go_at_call 62; with_reducible refine (more_k2_1 s k _ hk hs2).mono ?_; rintro e w' ⟨rfl, rfl⟩)
        | (go_at_call 62; with_reducible refine (more_k2_2 s k _ hk hs2).mono ?_; rintro e w' ⟨rfl, rfl⟩)
        | (go_at_call 62; with_reducible refine (more_k2_3 s k _ hk hs2).mono ?_; rintro e w' ⟨rfl, rfl⟩))
      go_ret
      exact ⟨rfl, rfl⟩
  · obtain ⟨v0, m0⟩ : ∃ v, moreB s (k + 1) 3 = v := ⟨_, rfl⟩
    cases v0
    all_goals
      simp only [m0, Bool.false_and, Bool.true_and, Bool.and_true, Bool.and_false, Bool.false_eq_true, if_false, if_true] at hr
      subst hr
      go_enter Tryd.func34, Tryd.ntmps34
      go_wp2_with (first
        | (go_at_call 35; with_reducible refine (in_any s k _ _ _ (by omega) hs2).mono ?_; rintro e w' ⟨rfl, rfl⟩)
        | (go_at_call 35; with_reducible refine (in_k1 s k _ _ _ hk hs2).mono ?_; rintro e w' ⟨rfl, rfl⟩)
        | (go_at_call 62; with_reducible refine (more_k1_1 s k _ hk hs2).mono ?_; rintro e w' ⟨rfl, rfl⟩)
        | (go_at_call 62; with_reducible refine (more_k1_2 s k _ hk hs2).mono ?_; rintro e w' ⟨rfl, rfl⟩)
        | (go_at_call 62; with_reducible refine (more_k1_3 s k _ hk hs2).mono ?_; rintro e w' ⟨rfl, rfl⟩)
        | (go_at_call 62; with_reducible refine (more_k2_1 s k _ hk hs2).mono ?_; rintro e w' ⟨rfl, rfl⟩)
        | (go_at_call 62; with_reducible refine (more_k2_2 s k _ hk hs2).mono ?_; rintro e w' ⟨rfl, rfl⟩)
        | (go_at_call 62; with_reducible refine (more_k2_3 s k _ hk hs2).mono ?_; rintro e w' ⟨rfl, rfl⟩))
      go_ret
      exact ⟨rfl, rfl⟩
  · obtain ⟨v0, m0⟩ : ∃ v, inB s (k + 1) 128 143 = v := ⟨_, rfl⟩
    obtain ⟨v1, m1⟩ : ∃ v, moreB s (k + 2) 2 = v := ⟨_, rfl⟩
    cases v0 <;> cases v1
    all_goals
      simp only [m0, m1, Bool.false_and, Bool.true_and, Bool.and_true, Bool.and_false, Bool.false_eq_true, if_false, if_true] at hr
      subst hr
      go_enter Tryd.func34, Tryd.ntmps34
      go_wp2_with (first
        | (go_at_call 35; with_reducible refine (in_any s k _ _ _ (by omega) hs2).mono ?_; rintro e w' ⟨rfl, rfl⟩)
        | (go_at_call 35; with_reducible refine (in_k1 s k _ _ _ hk hs2).mono ?_; rintro e w' ⟨rfl, rfl⟩)
        | (go_at_call 62; with_reducible refine (more_k1_1 s k _ hk hs2).mono ?_; rintro e w' ⟨rfl, rfl⟩)
        | (go_at_call 62; with_reducible refine (more_k1_2 s k _ hk hs2).mono ?_; rintro e w' ⟨rfl, rfl⟩)
        | (go_at_call 62; with_reducible refine (more_k1_3 s k _ hk hs2).mono ?_; rintro e w' ⟨rfl, rfl⟩)
        | (go_at_call 62; with_reducible refine (more_k2_1 s k _ hk hs2).mono ?_; rintro e w' ⟨rfl, rfl⟩)
        | (go_at_call 62; with_reducible refine (more_k2_2 s k _ hk hs2).mono ?_; rintro e w' ⟨rfl, rfl⟩)
        | (go_at_call 62; with_reducible refine (more_k2_3 s k _ hk hs2).mono ?_; rintro e w' ⟨rfl, rfl⟩))
      go_ret
      exact ⟨rfl, rfl⟩
end Go.Proofs.YtildplbdhnodjaaDoor
/- Tokens in memory; what a reader of scripts answers. -/
namespace Go.Proofs.YtildplbdhnodjaaDoor
open Go.RowKit
set_option linter.unusedVariables false
set_option linter.unusedSimpArgs false
def textV : Option Nat → Value
  | none => .tuple #[.int .i64 0, .bool true]
  | some p => .tuple #[.int .i64 (p : Int), .bool false]
def encT (t : Tok) : List Value := [.int .i64 t.kind, .int .i32 t.sign, .int .i64 t.n, .int .i64 t.at_]
theorem encT_len (t : Tok) : (encT t).length = 4 := rfl
theorem toks_at {w : World} {A : Option Addr} {n : Nat} {zs : List Tok} (h : Rows 4 encT w A n zs) {i : Nat} (hi : i < n) :
    ∃ b off x y u v, A = some ⟨b, off, none⟩ ∧ b < w.heap.size ∧ zs[i]? = some ⟨x, y, u, v⟩ ∧ w.cell? ⟨b, off + i * 4, none⟩ = some (.int .i64 x) ∧ w.cell? ⟨b, off + i * 4 + 1, none⟩ = some (.int .i32 y) ∧ w.cell? ⟨b, off + i * 4 + 2, none⟩ = some (.int .i64 u) ∧ w.cell? ⟨b, off + i * 4 + 3, none⟩ = some (.int .i64 v) := by
  obtain ⟨b, off, ⟨x, y, u, v⟩, h1, h2, h3, h4⟩ := h.at_ hi
  exact ⟨b, off, x, y, u, v, h1, h2, h3, h4 0 _ rfl, h4 1 _ rfl, h4 2 _ rfl, h4 3 _ rfl⟩
theorem tok_info : (Tryd.prog.info? 62).map (fun i => (i.zero, i.size, i.bytes)) = some (some (.agg #[.int .i64 0, .int .i32 0, .int .i64 0, .int .i64 0]), 4, 32) := by kernel_rfl
def LexPost (w : World) (s : ByteArray) (e : Ending) (w' : World) : Prop :=
  (∃ toks A n c, lexB s = (some toks, 0) ∧ e = .returned (.tuple #[.slice A n c, .int .i64 0, .int .i64 0]) ∧ Rows 4 encT w' A n toks ∧ (n ≤ s.size ∧ n ≤ c ∧ ∀ p, A = some p → p.block < w'.heap.size) ∧ Below w.heap.size w w') ∨
  (∃ k : Nat, lexB s = (none, k) ∧ e = .returned (.tuple #[.slice none 0 0, .int .i64 (k : Int), .int .i64 1]) ∧ k < s.size ∧ Below w.heap.size w w')
theorem owns_cap {w : World} {base : Nat} {e : TypeId} {size : Nat} {A : Option Addr} {n c : Nat} {xs : List Value} (h : w.ownsRow base e size (.slice A n c) n xs) : n ≤ c := by
  rcases h.2 with ⟨h1, h2⟩ | ⟨g, cap, cur, h1, _, _, h2, _⟩
  · omega
  · injection h1 with _ _ h1; omega
theorem owns_at {w : World} {base : Nat} {e : TypeId} {size : Nat} {A : Option Addr} {n c : Nat} {xs : List Value} (h : w.ownsRow base e size (.slice A n c) n xs) : ∀ p, A = some p → p.block < w.heap.size := by
  intro p hp
  subst hp
  rcases h.2 with ⟨h1, h2⟩ | ⟨g, cap, cur, h1, _, h2, _⟩
  · injection h1 with h1; cases h1
  · injection h1 with h1; injection h1 with h1; subst h1
    exact (Array.getElem?_eq_some_iff.1 h2).1
theorem tok_cells (w : World) (a b c d : Int) (t : TypeId) (n : Nat) (hn : n = w.heap.size) : Cells (w.alloc (.cells #[.int .i64 a, .int .i32 b, .int .i64 c, .int .i64 d] t)) (some ⟨n, 0, none⟩) 1 4 [.int .i64 a, .int .i32 b, .int .i64 c, .int .i64 d] := by
  subst hn
  refine ⟨rfl, by decide, fun _ => ⟨_, _, rfl, by simp, fun j u hu => ?_⟩⟩
  rw [Nat.zero_add]; exact (Box.new w [.int .i64 a, .int .i32 b, .int .i64 c, .int .i64 d] t).2.2 j u hu
theorem tok_cell4 (a b c d : Int) : ∀ u ∈ ([.int .i64 a, .int .i32 b, .int .i64 c, .int .i64 d] : List Value), u.oneCell' = true := by
  intro u hu; simp at hu; rcases hu with rfl | rfl | rfl | rfl <;> rfl
theorem toks_snoc (out : List Tok) (t : Tok) : (out ++ [t]).flatMap encT = out.flatMap encT ++ encT t := by rw [List.flatMap_append]; simp
end Go.Proofs.YtildplbdhnodjaaDoor
/- A string that comes in. -/
namespace Go.Proofs.YtildplbdhnodjaaDoor
open Go.ChangeShapes Go.WideShapes Go.ChangeAt Go.RowKit
set_option linter.unusedVariables false
section
variable {H : Type} {enc : TypeId × Value → H} {W : World}
set_option maxRecDepth 100000 in
theorem open_str {base : Nat} {v : Value} {d : DataW H} {p : List MemPlace} (hv : Value.okWide Tryd.prog W .any base 9 v) (h : DataW.Trod enc Tryd.prog W 0 (fun _ => true) true 9 v d p) :
    ∃ s : ByteArray, v = .string s ∧ s.size ≤ 9223372036854775807 := by
  obtain ⟨s, h1, _, _, h4⟩ := Go.ChangeMaps.open_string Tryd.underlying9 hv h
  exact ⟨s, h1, by unfold maxLen at h4; exact h4⟩
end
end Go.Proofs.YtildplbdhnodjaaDoor
/- The program's package valid: an odd number is looked for. -/
namespace Go.Proofs.YtildplbdhnodjaaDoor
open Go.RowKit
set_option linter.unusedVariables false
set_option linter.unusedSimpArgs false
def oddB (a b n : Int) : Bool := !fromB n a b
theorem odd1_any (n a b : Int) (g3 g4 : Nat) (w : World) (h3 : w.cell? ⟨g3, 0, none⟩ = some (.int .i64 a)) (h4 : w.cell? ⟨g4, 0, none⟩ = some (.int .i64 b)) : Calls Tryd.prog 75 #[.int .i64 n, .pointer (some ⟨g3, 0, none⟩), .pointer (some ⟨g4, 0, none⟩)] w fun e w' => e = .returned (.bool (oddB a b n)) ∧ w = w' := by
  by_cases h : n < a
  all_goals
    go_enter Tryd.func75, Tryd.ntmps75
    go_wp2_with fail
    go_ret
    refine ⟨ret_bool ?_, rfl⟩
    rw [Bool.eq_iff_iff]
    simp [oddB, fromB] <;> omega
theorem odd1_to {n a b : Int} {v : Bool} (hv : oddB a b n = v) {g3 g4 : Nat} (w : World) (h3 : w.cell? ⟨g3, 0, none⟩ = some (.int .i64 a)) (h4 : w.cell? ⟨g4, 0, none⟩ = some (.int .i64 b)) : Calls Tryd.prog 75 #[.int .i64 n, .pointer (some ⟨g3, 0, none⟩), .pointer (some ⟨g4, 0, none⟩)] w fun e w' => e = .returned (.bool v) ∧ w = w' := by
  subst hv; exact odd1_any n a b g3 g4 w h3 h4
theorem any_at {zs : List Int} {a b : Int} {k : Nat} (hk : k < zs.length) (h : oddB a b (zs[k]?.getD 0) = true) : zs.any (oddB a b) = true := by
  rw [List.any_eq_true]
  refine ⟨zs[k], List.getElem_mem hk, ?_⟩
  simpa [hk] using h
theorem any_no {zs : List Int} {a b : Int} (h : ∀ j, j < zs.length → oddB a b (zs[j]?.getD 0) = false) : zs.any (oddB a b) = false := by
  rw [List.any_eq_false]
  intro z hz
  obtain ⟨j, hj, rfl⟩ := List.getElem_of_mem hz
  have := h j hj
  simp [hj] at this
  simp [this]
set_option maxHeartbeats 2000000 in
theorem indexf_any (zs : List Int) (a b : Int) (g3 g4 : Nat) (A : Option Addr) (n c : Nat) (w : World) (hz : Ints w A n zs) (h3 : w.cell? ⟨g3, 0, none⟩ = some (.int .i64 a)) (h4 : w.cell? ⟨g4, 0, none⟩ = some (.int .i64 b)) :
    Calls Tryd.prog 86 #[.slice A n c, .func (.func 75) #[] #[.pointer (some ⟨g3, 0, none⟩), .pointer (some ⟨g4, 0, none⟩)]] w fun e w' => ∃ i : Int, e = .returned (.int .i64 i) ∧ decide (0 ≤ i) = zs.any (oddB a b) ∧ w = w' := by
  have hl := hz.1
  have hn := hz.2.1
  have HZ := Lib.hid hz
  have H3 := Lib.hid h3
  have H4 := Lib.hid h4
  clear hz h3 h4
  go_enter Tryd.func86, Tryd.ntmps86
  go_wp2_with fail
  go_loopw [8] (fun i wr => ∃ k : Nat, k ≤ n ∧ i = .int .i64 k ∧ (∀ j, j < k → oddB a b (zs[j]?.getD 0) = false) ∧ wr = w) (fun i _ => n - (intOf i).toNat)
  case atStart => exact ⟨0, by omega, rfl, fun j hj => by omega, rfl⟩
  case round =>
    obtain ⟨k, hk, rfl, hno, rfl⟩ := hrel
    have HN := Lib.hid hno
    clear hno
    by_cases hlt : k < n
    · have hk2 : (k : Int) < (n : Int) := by omega
      obtain ⟨b1, o1, rfl, hc⟩ := HZ.out.at_ hlt
      obtain ⟨u, hu⟩ : ∃ u, zs[k]?.getD 0 = u := ⟨_, rfl⟩
      obtain ⟨v, hv⟩ : ∃ v, oddB a b u = v := ⟨_, rfl⟩
      rw [hu] at hc
      have HU := Lib.hid hu
      have HV := Lib.hid hv
      clear hv hu
      go_wp2_with fail
      refine (odd1_to HV.out _ H3.out H4.out).mono ?_
      rintro e w' ⟨rfl, rfl⟩
      cases v with
      | true =>
        have HY := Lib.hid (any_at (zs := zs) (a := a) (b := b) (k := k) (by omega) (by rw [HU.out]; exact HV.out))
        go_wp2_with fail
        go_ret
        exact ⟨_, rfl, by rw [HY.out]; simp, rfl⟩
      | false =>
        go_wp2_with fail
        go_roundw
        case rel => exact ⟨k + 1, by omega, by go_num, fun j hj => by
          by_cases e : j = k
          · subst e; rw [HU.out]; exact HV.out
          · exact HN.out j (by omega), by first | rfl | trivial⟩
        case measure => simp [intOf]; omega
    · have hk2 : (n : Int) ≤ (k : Int) := by omega
      have HY := Lib.hid (any_no (zs := zs) (a := a) (b := b) (fun j hj => HN.out j (by omega)))
      go_wp2_with fail
      go_ret
      exact ⟨_, rfl, by rw [HY.out]; simp, rfl⟩
theorem contains_any (zs : List Int) (a b : Int) (g3 g4 : Nat) (A : Option Addr) (n c : Nat) (w : World) (hz : Ints w A n zs) (h3 : w.cell? ⟨g3, 0, none⟩ = some (.int .i64 a)) (h4 : w.cell? ⟨g4, 0, none⟩ = some (.int .i64 b)) :
    Calls Tryd.prog 74 #[.slice A n c, .func (.func 75) #[] #[.pointer (some ⟨g3, 0, none⟩), .pointer (some ⟨g4, 0, none⟩)]] w fun e w' => e = .returned (.bool (zs.any (oddB a b))) ∧ w = w' := by
  have HZ := Lib.hid hz
  have H3 := Lib.hid h3
  have H4 := Lib.hid h4
  clear hz h3 h4
  go_enter Tryd.func74, Tryd.ntmps74
  go_wp2_with fail
  refine (indexf_any zs a b g3 g4 _ _ _ _ HZ.out H3.out H4.out).mono ?_
  rintro e w' ⟨i, rfl, hi, rfl⟩
  have HI := Lib.hid hi
  clear hi
  go_wp2_with fail
  go_ret
  exact ⟨ret_bool HI.out, rfl⟩
theorem cell_new1 (w : World) (v : Value) (t : TypeId) (n : Nat) (h : n = w.heap.size) : (w.alloc (.cells #[v] t)).cell? ⟨n, 0, none⟩ = some v := by subst h; exact (Box.new w [v] t).2.2 0 _ rfl
theorem podd_any (zs : List Int) (a b : Int) (A : Option Addr) (n c : Nat) (w : World) (hz : Ints w A n zs) :
    Calls Tryd.prog 53 #[.int .i64 a, .int .i64 b, .slice A n c] w fun e w' => e = .returned (.bool (zs.any (oddB a b))) ∧ Below w.heap.size w w' := by
  have HZ := Lib.hid hz
  clear hz
  go_enter Tryd.func53, Tryd.ntmps53
  go_wp2_with fail
  refine (contains_any zs a b _ _ _ _ _ _ (HZ.out.below (B := w.heap.size) (by go_grown) rfl) (On.cell (cell_new1 w _ _ _ rfl) _ (Below.alloc (Below.refl _ _) (Nat.le_refl _) _)) (cell_new1 _ _ _ _ (by simp))).mono ?_
  rintro e w' ⟨rfl, rfl⟩
  go_wp2_with fail
  go_ret
  exact ⟨rfl, by go_grown⟩
theorem podd_to {zs : List Int} {a b : Int} {v : Bool} (hv : zs.any (oddB a b) = v) {A : Option Addr} {n c : Nat} (w : World) (hz : Ints w A n zs) :
    Calls Tryd.prog 53 #[.int .i64 a, .int .i64 b, .slice A n c] w fun e w' => e = .returned (.bool v) ∧ Below w.heap.size w w' := by
  subst hv; exact podd_any zs a b A n c w hz
end Go.Proofs.YtildplbdhnodjaaDoor
/- The program's package lex: the functions that tell of one character. -/
namespace Go.Proofs.YtildplbdhnodjaaDoor
open Go.RowKit
set_option linter.unusedVariables false
set_option linter.unusedSimpArgs false
def whiteC (c : Int) : Bool := c == 32 || c == 9 || c == 10
def digitC (c : Int) : Bool := decide (48 ≤ c) && decide (c ≤ 57)
theorem white_any (c : Int) (w : World) : Calls Tryd.prog 68 #[.int .i32 c] w fun e w' => e = .returned (.bool (whiteC c)) ∧ w = w' := by
  by_cases h1 : c = 32
  · subst h1
    go_enter Tryd.func68, Tryd.ntmps68
    go_wp2
    go_ret
    exact ⟨rfl, rfl⟩
  · by_cases h2 : c = 9
    · subst h2
      go_enter Tryd.func68, Tryd.ntmps68
      go_wp2
      go_ret
      exact ⟨rfl, rfl⟩
    · have e1 : (c == 32) = false := by simp [h1]
      have e2 : (c == 9) = false := by simp [h2]
      go_enter Tryd.func68, Tryd.ntmps68
      go_wp2
      go_ret
      exact ⟨ret_bool (by simp [whiteC, h1, h2]), rfl⟩
theorem digit_any (c : Int) (w : World) : Calls Tryd.prog 71 #[.int .i32 c] w fun e w' => e = .returned (.bool (digitC c)) ∧ w = w' := by
  by_cases h1 : 48 ≤ c
  · by_cases h2 : c ≤ 57
    all_goals
      go_enter Tryd.func71, Tryd.ntmps71
      go_wp2
      go_ret
      exact ⟨ret_bool (by simp [digitC, h1, h2]), rfl⟩
  · go_enter Tryd.func71, Tryd.ntmps71
    go_wp2
    go_ret
    exact ⟨ret_bool (by simp [digitC]; omega), rfl⟩
theorem hash_any (c : Int) (w : World) : Calls Tryd.prog 82 #[.int .i32 c] w fun e w' => e = .returned (.bool (c != 10)) ∧ w = w' := by
  go_enter Tryd.func82, Tryd.ntmps82
  go_wp2
  go_ret
  exact ⟨rfl, rfl⟩
theorem sgn_any (c : Int) (w : World) : Calls Tryd.prog 83 #[.int .i32 c] w fun e w' => e = .returned (.bool false) ∧ w = w' := by
  go_enter Tryd.func83, Tryd.ntmps83
  go_wp2
  go_ret
  exact ⟨rfl, rfl⟩
/-- which characters go on with a piece. -/
inductive More where
  | white | digit | hash | sign
  deriving DecidableEq
def More.fn : More → Value
  | .white => .func (.func 68) #[] #[]
  | .digit => .func (.func 71) #[] #[]
  | .hash => .func (.func 82) #[] #[]
  | .sign => .func (.func 83) #[] #[]
def More.goes : More → Int → Bool
  | .white, c => whiteC c
  | .digit, c => digitC c
  | .hash, c => c != 10
  | .sign, _ => false
def More.behind (c : Int) : More := if whiteC c then .white else if digitC c then .digit else if c = 35 then .hash else .sign
theorem behind_any (c : Int) (w : World) : Calls Tryd.prog 69 #[.int .i32 c] w fun e w' => e = .returned (More.behind c).fn ∧ w = w' := by
  rcases hw : whiteC c with _ | _
  · rcases hd : digitC c with _ | _
    · by_cases h : c = 35
      · subst h
        go_enter Tryd.func69, Tryd.ntmps69
        go_wp2_with (first | (go_at_call 68; refine (white_any _ _).mono ?_; rintro e w' ⟨rfl, rfl⟩) | (go_at_call 71; refine (digit_any _ _).mono ?_; rintro e w' ⟨rfl, rfl⟩))
        go_ret
        exact ⟨rfl, rfl⟩
      · have h35 : (c == 35) = false := by simp [h]
        go_enter Tryd.func69, Tryd.ntmps69
        go_wp2_with (first | (go_at_call 68; refine (white_any _ _).mono ?_; rintro e w' ⟨rfl, rfl⟩) | (go_at_call 71; refine (digit_any _ _).mono ?_; rintro e w' ⟨rfl, rfl⟩))
        go_ret
        exact ⟨by simp [More.behind, hw, hd, h, More.fn], rfl⟩
    · go_enter Tryd.func69, Tryd.ntmps69
      go_wp2_with (first | (go_at_call 68; refine (white_any _ _).mono ?_; rintro e w' ⟨rfl, rfl⟩) | (go_at_call 71; refine (digit_any _ _).mono ?_; rintro e w' ⟨rfl, rfl⟩))
      go_ret
      exact ⟨by simp [More.behind, hw, hd, More.fn], rfl⟩
  · go_enter Tryd.func69, Tryd.ntmps69
    go_wp2_with (first | (go_at_call 68; refine (white_any _ _).mono ?_; rintro e w' ⟨rfl, rfl⟩))
    go_ret
    exact ⟨by simp [More.behind, hw, More.fn], rfl⟩
/-- a call of the function that tells which characters go on. -/
theorem more_calls (m : More) (c : Int) (w : World) : ∃ f, m.fn = .func (.func f) #[] #[] ∧ Calls Tryd.prog f #[.int .i32 c] w fun e w' => e = .returned (.bool (m.goes c)) ∧ w = w' := by
  cases m
  · exact ⟨_, rfl, white_any c w⟩
  · exact ⟨_, rfl, digit_any c w⟩
  · exact ⟨_, rfl, hash_any c w⟩
  · exact ⟨_, rfl, sgn_any c w⟩
end Go.Proofs.YtildplbdhnodjaaDoor
/- The program's package lex: a row of digits as a number; white and comments. -/
namespace Go.Proofs.YtildplbdhnodjaaDoor
open Go.RowKit
set_option linter.unusedVariables false
set_option linter.unusedSimpArgs false
theorem numF_big {s : ByteArray} : ∀ (f : Nat) (n : Int) (e : Nat), 1099511627776 < n → 1099511627776 < (numF s f n e).1
  | 0, n, e, h => h
  | f + 1, n, e, h => by
    rw [numF]; split
    · rename_i hd
      have := bAt_bd s e
      have hd2 : 48 ≤ bAt s e := by
        unfold digB inB at hd; simp at hd; omega
      exact numF_big f _ _ (by omega)
    · exact h
def numV (t : ByteArray) : Value := if 1099511627776 < (numB t 0).1 ∨ (bAt t 0 = 48 ∧ 1 < t.size) then .tuple #[.int .i64 0, .bool false] else .tuple #[.int .i64 (numB t 0).1, .bool true]
theorem toList_one {t : ByteArray} (h : 0 < t.size) : (t.toList == [48]) = decide (bAt t 0 = 48 ∧ t.size = 1) := by
  have hl : t.toList.length = t.size := by rw [Go.ByteArray.toList_eq]; rfl
  have h0 : t.toList[0]? = some (t[0]'h) := by rw [Go.ByteArray.toList_eq]; exact (Array.getElem?_toList ..).trans (Array.getElem?_eq_getElem h)
  have hb := bAt_get t 0 h
  rcases he : t.toList with _ | ⟨x, xs⟩
  · rw [he] at hl; simp at hl; omega
  · rw [he] at hl h0
    simp at hl h0
    subst h0
    rw [Bool.eq_iff_iff]
    simp only [beq_iff_eq, List.cons.injEq, decide_eq_true_eq]
    constructor
    · rintro ⟨q, rfl⟩
      simp at hl
      exact ⟨by rw [← hb, q]; rfl, by omega⟩
    · rintro ⟨q, r⟩
      refine ⟨?_, List.length_eq_zero_iff.1 (by omega)⟩
      rw [← hb] at q
      exact UInt8.toNat_inj.1 (by simpa using (by omega : (t[0]'h).toNat = 48))
theorem number_any (t : ByteArray) (w : World) (h1 : 0 < t.size) (hd : ∀ i, i < t.size → digB t i = true) (ht : t.size ≤ 100000) : Calls Tryd.prog 72 #[.string t] w fun e w' => e = .returned (numV t) ∧ Below w.heap.size w w' := by
  have HD := Lib.hid hd
  clear hd
  have hb0 := bAt_get t 0 h1
  obtain ⟨b, hb⟩ : ∃ b, bAt t 0 = b := ⟨_, rfl⟩
  rw [hb] at hb0
  have HB := Lib.hid hb
  have HN := Lib.hid (show numF t (t.size + 1) 0 0 = numB t 0 from rfl)
  have h40 := toList_one h1
  rw [hb] at h40
  clear hb
  have h40' := h40
  by_cases hbad : b = 48 ∧ 1 < t.size
  · have e1 : (t.toList == [48]) = false := by rw [h40']; simp; omega
    obtain ⟨rfl, h2⟩ := hbad
    go_enter Tryd.func72, Tryd.ntmps72
    go_wp2_with fail
    go_ret2
    exact ⟨by rw [numV, if_pos (.inr ⟨HB.out, h2⟩)]; rfl, Below.refl _ _⟩
  · have HOK := Lib.hid (show ¬(b = 48 ∧ 1 < t.size) from hbad)
    have hor : ((b == 48) = true ∧ (t.toList == [48]) = true) ∨ (b == 48) = false := by
      by_cases q : b = 48
      · exact .inl ⟨by simp [q], by rw [h40']; simp; omega⟩
      · exact .inr (by simp [q])
    clear hbad h40 h40'
    rcases hor with ⟨hz, hz2⟩ | hz
    all_goals
      go_enter Tryd.func72, Tryd.ntmps72
      go_wp2_with fail
      go_loopw [2, 5] (fun v c wr => ∃ (k f : Nat) (n : Int), k ≤ t.size ∧ t.size ≤ k + f ∧ v = .int .i64 n ∧ (0 ≤ n ∧ n ≤ 1099511627776) ∧ numF t f n k = numB t 0 ∧ wr = w.iter t k) (fun _ _ wr => t.size - wr.iterPos w.heap.size)
      case atStart => exact ⟨0, t.size + 1, 0, by omega, by omega, rfl, by omega, HN.out, rfl⟩
      case round =>
        obtain ⟨k, f, n, hk, hf, rfl, ⟨hn1, hn2⟩, hnf, rfl⟩ := hrel
        have HNf := Lib.hid hnf
        clear hnf
        by_cases hlt : k < t.size
        · have hdk := HD.out k hlt
          obtain ⟨f3, hf3, hst⟩ := numF_step (n := n) hdk hf
          rw [HNf.out] at hst
          have hbk0 := bAt_get t k hlt
          have h48 : 48 ≤ bAt t k ∧ bAt t k ≤ 57 := by
            have q := inB_at hlt 48 57
            rw [show inB t k 48 57 = true from hdk] at q
            have q2 := q.symm
            simp only [Bool.and_eq_true, decide_eq_true_eq] at q2
            exact q2
          have hbn : ((t[k]'hlt).toNat : Int) = bAt t k := hbk0
          have hnx := fun ty => run_next_ascii (P := Tryd.prog) w t k ty hlt (by omega)
          obtain ⟨c, hc⟩ : ∃ c, bAt t k = c := ⟨_, rfl⟩
          rw [hc] at hbn hst h48
          rw [hbn] at hnx
          have HSt := Lib.hid hst
          clear hst hbk0 hdk hc hbn
          have o1 : IntKind.i32.wrap (c - 48) = c - 48 := by rw [IntKind.wrap_i32]; omega
          by_cases hbig : 1099511627776 < 10 * n + (c - 48)
          · have hmin : 1099511627776 < min (10 * n + (c - 48)) 2199023255552 := by omega
            have hgt := numF_big (s := t) f3 _ (k + 1) hmin
            rw [← HSt.out] at hgt
            have hW := Below.alloc (Below.refl w.heap.size w) (Nat.le_refl _) (.stringIter t (k + 1))
            go_wp2_with fail
            go_ret2
            exact ⟨by rw [numV, if_pos (.inl hgt)]; rfl, hW⟩
          · go_wp2_with fail
            go_roundw
            case rel => exact ⟨k + 1, f3, 10 * n + (c - 48), by omega, by omega, by go_num, by omega, by rw [HSt.out]; congr 1; omega, rfl⟩
            case measure => simp; omega
        · have hnx := fun ty => run_next_end (P := Tryd.prog) w t k ty hlt
          have hend : digB t k = false := inB_ge hlt _ _
          have hn := numF_end (f := f) (n := n) hend
          rw [HNf.out] at hn
          have hW := Below.alloc (Below.refl w.heap.size w) (Nat.le_refl _) (.stringIter t k)
          go_wp2_with fail
          go_ret2
          refine ⟨?_, hW⟩
          rw [numV, if_neg (by rw [hn]; have := HOK.out; have := HB.out; omega), hn]; rfl
theorem toList_ne {t : ByteArray} (h : 0 < t.size) : t.toList.isEmpty = false := by
  have : t.toList.length = t.size := by rw [Go.ByteArray.toList_eq]; rfl
  rcases hl : t.toList with _ | ⟨x, xs⟩
  · rw [hl] at this; simp at this; omega
  · rfl
theorem noth_any (t : ByteArray) (w : World) (ht : t.size ≤ 100000) : Calls Tryd.prog 42 #[.string t] w fun e w' => e = .returned (.bool (decide (t.size = 0) || bAt t 0 == 35 || whiteC (bAt t 0))) ∧ w = w' := by
  by_cases h0 : t.size = 0
  · obtain rfl : t = ⟨#[]⟩ := by
      cases t with | mk d => exact congrArg ByteArray.mk (Array.size_eq_zero_iff.1 h0)
    go_enter Tryd.func42, Tryd.ntmps42
    go_wp2
    go_ret
    exact ⟨rfl, rfl⟩
  · have h1 : 0 < t.size := by omega
    have he := toList_ne h1
    have hb0 := bAt_get t 0 h1
    have hbd := bAt_bd t 0
    obtain ⟨b, hb⟩ : ∃ b, bAt t 0 = b := ⟨_, rfl⟩
    rw [hb] at hb0 hbd ⊢
    clear hb
    go_enter Tryd.func42, Tryd.ntmps42
    go_wp2_with (go_at_call 68; refine (white_any _ _).mono ?_; rintro e w' ⟨rfl, rfl⟩)
    all_goals go_ret
    · rename_i hb
      subst hb
      exact ⟨ret_bool (by simp), rfl⟩
    · rename_i hb
      exact ⟨ret_bool (by simp [h0, hb]), rfl⟩
end Go.Proofs.YtildplbdhnodjaaDoor
/- The document's answers for package lex: the character that stands there; whether a text is well-formed. -/
namespace Go.Proofs.YtildplbdhnodjaaDoor
open Go.RowKit
set_option linter.unusedVariables false
set_option linter.unusedSimpArgs false
theorem ret_i32 {a b : Int} (h : a = b) : Ending.returned (.int .i32 a) = Ending.returned (.int .i32 b) := by rw [h]
theorem size_to {s : ByteArray} {k n : Nat} (hn : sizeB s k = n) (w : World) (hk : k ≤ 800000) (hs : s.size ≤ 800000) : Calls Tryd.prog 34 #[.string s, .int .i64 k] w fun e w' => e = .returned (.int .i64 (n : Int)) ∧ w = w' := by
  subst hn; exact size_any s k w hk hs
set_option maxRecDepth 100000 in
theorem rune_any (s : ByteArray) (k n : Nat) (w : World) (h1 : 1 ≤ n) (h4 : n ≤ 4) (hin : k + n ≤ s.size) (hs : s.size ≤ 800000) : Calls Tryd.prog 36 #[.string s, .int .i64 k, .int .i64 n] w fun e w' => e = .returned (.int .i32 (runeB s k n)) ∧ Below w.heap.size w w' := by
  have hk : k < s.size := by omega
  have hb := bAt_get s k hk
  have hbd := bAt_bd s k
  have hk2 : (k : Int) < (s.size : Int) := by omega
  by_cases hn1 : n = 1
  · subst hn1
    have HR := Lib.hid (show runeB s k 1 = bAt s k from if_pos rfl)
    have o1 : IntKind.i32.wrap (bAt s k) = bAt s k := by rw [IntKind.wrap_i32]; omega
    go_enter Tryd.func36, Tryd.ntmps36
    go_wp2
    go_ret
    exact ⟨ret_i32 HR.out.symm, Below.refl _ _⟩
  · have hnn : ((n : Int) == 1) = false := by simp; omega
    have HR := Lib.hid (show runeB s k n = runeP s k (firstB n) n from if_neg hn1)
    have hcell : (#[Value.int .i64 0, .int .i64 0, .int .i64 192, .int .i64 224, .int .i64 240] : Array Value)[n]? = some (.int .i64 (firstB n)) := by
      rcases (show n = 2 ∨ n = 3 ∨ n = 4 by omega) with rfl | rfl | rfl <;> rfl
    have hfb : 0 ≤ firstB n ∧ firstB n ≤ 240 := by unfold firstB; split <;> (try split) <;> (try split) <;> omega
    have hBd := fun j hj => runeP_bd s k (base := firstB n) (by omega) j hj
    have HBd := Lib.hid hBd
    have hfirst : runeP s k (firstB n) 1 = bAt s k - firstB n := rfl
    have HP1 := Lib.hid hfirst
    clear hfirst
    have hBx : Box (w.alloc (.cells #[.int .i64 0, .int .i64 0, .int .i64 192, .int .i64 224, .int .i64 240] 3)) w.heap.size [.int .i64 0, .int .i64 0, .int .i64 192, .int .i64 224, .int .i64 240] := Box.new _ _ _
    have hc := hBx.2.2 n (.int .i64 (firstB n)) (by simpa using hcell)
    clear hBd hcell
    go_enter Tryd.func36, Tryd.ntmps36
    go_wp2_with fail
    have hB0 : Below w.heap.size w (w.alloc (.cells #[.int .i64 0, .int .i64 0, .int .i64 192, .int .i64 224, .int .i64 240] 3)) := by go_grown
    clear hBx
    generalize w.alloc (.cells #[.int .i64 0, .int .i64 0, .int .i64 192, .int .i64 224, .int .i64 240] 3) = W at hc hB0 ⊢
    have HB0 := Lib.hid hB0
    have hn5 : (n : Int) < 5 := by omega
    have hn0 : (0 : Int) ≤ (n : Int) := by omega
    clear hB0
    go_quiet (fail)
    clear hb
    go_wp2_with fail
    go_loopw [8, 9] (fun v i wr => ∃ j m : Nat, 1 ≤ j ∧ j ≤ n ∧ i = .int .i64 j ∧ v = .int .i64 (runeP s k (firstB n) j) ∧ wr = W.drewN m) (fun _ i _ => n - (intOf i).toNat)
    case atStart => exact ⟨1, _, by omega, by omega, rfl, by rw [HP1.out], rfl⟩
    case round =>
      obtain ⟨j, m, hj1, hj, rfl, rfl, rfl⟩ := hrel
      obtain ⟨hp1, hp2⟩ := HBd.out j (by omega)
      by_cases hlt : j < n
      · have hbj := bAt_get s (k + j) (by omega)
        have hbd2 := bAt_bd s (k + j)
        have HSu := Lib.hid (runeP_succ s k (firstB n) hj1)
        have hkj : (k : Int) + (j : Int) < (s.size : Int) := by omega
        have htn : ((k : Int) + (j : Int)).toNat = k + j := by omega
        go_wp2_with fail
        go_roundw
        case rel => exact ⟨j + 1, _, by omega, by omega, by go_num, by rw [HSu.out], rfl⟩
        case measure => simp [intOf]; omega
      · obtain rfl : j = n := by omega
        have o1 : IntKind.i32.wrap (runeP s k (firstB j) j) = runeP s k (firstB j) j := by rw [IntKind.wrap_i32]; omega
        go_wp2_with fail
        go_ret
        exact ⟨ret_i32 HR.out.symm, below_drewN HB0.out m⟩
end Go.Proofs.YtildplbdhnodjaaDoor
/- The document's answer for package lex: the tokens of a script. -/
namespace Go.Proofs.YtildplbdhnodjaaDoor
open Go.RowKit
set_option linter.unusedVariables false
set_option linter.unusedSimpArgs false
set_option maxRecDepth 100000 in
set_option maxHeartbeats 4000000 in
theorem reflex_any (s : ByteArray) (w : World) (hs : s.size ≤ 100000) : Calls Tryd.prog 17 #[.string s] w (LexPost w s) := by
  obtain ⟨i0, hi0, hz0, hz1, hz2⟩ := info_parts tok_info
  have HT := Lib.hid (show lexF s (s.size + 1) false 0 [] = lexB s from rfl)
  go_enter Tryd.func17, Tryd.ntmps17
  go_wp2_with fail
  go_loopw [5, 6, 7] (fun v u i wr => ∃ (k f m c' : Nat) (c : Bool) (ci : Int) (A' : Option Addr) (out : List Tok), k ≤ s.size ∧ s.size ≤ k + f ∧ m ≤ k ∧ v = .slice A' m c' ∧ u = .int .i64 ci ∧ (ci == 1) = c ∧ i = .int .i64 k ∧ lexF s f c k out = lexB s ∧ wr.ownsRow w.heap.size 62 4 (.slice A' m c') m (out.flatMap encT) ∧ Below w.heap.size w wr) (fun _ _ i _ => s.size - (intOf i).toNat)
  case atStart => exact ⟨0, s.size + 1, 0, 0, false, 0, none, [], by omega, by omega, by omega, rfl, rfl, rfl, rfl, HT.out, owns_nil _ _ _ _, Below.refl _ _⟩
  case round =>
    obtain ⟨k, f, m, c', c, ci, A', out, hk, hf, hm, rfl, rfl, hci, rfl, ht, hO, hB⟩ := hrel
    have HO := Lib.hid hO
    have HB := Lib.hid hB
    have hsz := hB.size
    by_cases hlt : k < s.size
    · obtain ⟨f', rfl, hf', hop⟩ := lexF_open (c := c) (out := out) hlt hf
      rw [ht] at hop
      have hb0 := bAt_get s k hlt
      obtain ⟨hbd1, hbd2⟩ := bAt_bd s k
      obtain ⟨b, hb⟩ : ∃ b, bAt s k = b := ⟨_, rfl⟩
      rw [hb] at hb0 hop hbd1 hbd2
      obtain ⟨z, hz⟩ : ∃ z, sizeB s k = z := ⟨_, rfl⟩
      have hz4 := sizeB_le s k
      rw [hz] at hz4 hop
      have HZ := Lib.hid hz
      have hk2 : (k : Int) < (s.size : Int) := by omega
      clear ht hO hB
      by_cases hzn : z = 0
      · rw [if_pos hzn] at hop
        subst hzn
        have HR := Lib.hid hop
        clear hop hz hb
        go_wp2_with (go_at_call 34; refine (size_to HZ.out _ (by omega) (by omega)).mono ?_; rintro e w' ⟨rfl, rfl⟩)
        go_ret3
        exact .inr ⟨k, HR.out, rfl, hlt, HB.out⟩
      · rw [if_neg hzn] at hop
        have hin := sizeB_in (s := s) (k := k) (by omega)
        rw [hz] at hin
        have hzz : ((z : Int) == 0) = false := by simp; omega
        have HBk := Lib.hid hb
        clear hz hb
        cases c
        case true =>
          by_cases h10 : b = 10
          all_goals
            simp only [h10, ne_eq, not_true_eq_false, not_false_eq_true, decide_true, decide_false, if_true] at hop
            have HR := Lib.hid hop
            clear hop
            first
              | (have hbb : (b == 10) = true := by simp [h10])
              | (have hbb : (b == 10) = false := by simp [h10])
            go_wp2_with (go_at_call 34; refine (size_to HZ.out _ (by omega) (by omega)).mono ?_; rintro e w' ⟨rfl, rfl⟩)
            go_roundw
            case rel => exact ⟨k + z, f', m, c', _, _, A', out, by omega, by omega, by omega, rfl, rfl, by first | rfl | exact hci, by go_num, HR.out.symm, HO.out, HB.out⟩
            case measure => simp [intOf]; omega
        case false =>
          simp only [Bool.false_eq_true, if_false] at hop
          by_cases h35 : b = 35
          · rw [if_pos h35] at hop
            subst h35
            have HR := Lib.hid hop
            clear hop
            go_wp2_with (go_at_call 34; refine (size_to HZ.out _ (by omega) (by omega)).mono ?_; rintro e w' ⟨rfl, rfl⟩)
            go_roundw
            case rel => exact ⟨k + 1, f', m, c', _, _, A', out, by omega, by omega, by omega, rfl, rfl, rfl, by go_num, HR.out.symm, HO.out, HB.out⟩
            case measure => simp [intOf]; omega
          rw [if_neg h35] at hop
          have hb35 : (b == 35) = false := by simp [h35]
          by_cases hwh : b = 32 ∨ b = 9 ∨ b = 10
          · rw [if_pos hwh] at hop
            have HR := Lib.hid hop
            clear hop h35 hb35
            rcases hwh with rfl | rfl | rfl
            all_goals
              go_wp2_with (go_at_call 34; refine (size_to HZ.out _ (by omega) (by omega)).mono ?_; rintro e w' ⟨rfl, rfl⟩)
              go_roundw
              case rel => exact ⟨k + 1, f', m, c', _, _, A', out, by omega, by omega, by omega, rfl, rfl, hci, by go_num, HR.out.symm, HO.out, HB.out⟩
              case measure => simp [intOf]; omega
          rw [if_neg hwh] at hop
          have hb32 : (b == 32) = false := by simp; omega
          have hb9 : (b == 9) = false := by simp; omega
          have hb10 : (b == 10) = false := by simp; omega
          clear hwh h35
          rcases hdg : digB s k with _ | _
          · rw [hdg] at hop
            simp only [Bool.false_eq_true, if_false] at hop
            have hin48 : inB s k 48 57 = false := hdg
            have HR := Lib.hid hop
            clear hop hdg
            go_wp2_with (first
              | (go_at_call 34; refine (size_to HZ.out _ (by omega) (by omega)).mono ?_; rintro e w' ⟨rfl, rfl⟩)
              | (go_at_call 35; refine (in_any s k _ _ _ (by omega) (by omega)).mono ?_; rintro e w' ⟨rfl, rfl⟩))
            refine (rune_any s k z _ (by omega) hz4 hin (by omega)).mono ?_
            rintro e w2 ⟨rfl, hb2⟩
            obtain ⟨rv, hrv⟩ : ∃ rv, runeB s k z = rv := ⟨_, rfl⟩
            have hR2 := HR.out
            rw [hrv] at hR2 ⊢
            have HR2 := Lib.hid hR2
            have HO2 := Lib.hid (owns_below HO.out hb2)
            have HB2 := Lib.hid (HB.out.trans (hb2.mono hsz))
            have hsz2 := HB2.out.size
            have HC1 := Lib.hid (tok_cells w2 1 rv 0 k 62 w2.heap.size rfl)
            have HO6 := Lib.hid (owns_below HO2.out (w' := w2.alloc (.cells #[.int .i64 1, .int .i32 rv, .int .i64 0, .int .i64 k] 62)) (by go_grown))
            have HB6 := Lib.hid (HB2.out.alloc hsz2 (.cells #[.int .i64 1, .int .i32 rv, .int .i64 0, .int .i64 k] 62))
            clear hb2 hR2 hrv
            go_wp2_with (at_builtin; refine wpList_append_cells _ rfl (.tmp 54) (.tmp 61) _ rfl w.heap.size 62 i0 (.agg #[.int .i64 0, .int .i32 0, .int .i64 0, .int .i64 0]) 4 32 Tryd.underlying41 hi0 hz0 hz1 hz2 rfl (by decide) _ m _ rfl HO6.out _ 1 1 _ rfl HC1.out (tok_cell4 _ _ _ _) (by unfold maxLen; omega) (by omega) (by simp; omega) ?_; intro A6 c6 w6 hown6 hg6; have hb6 : Below w.heap.size _ w6 := (Below.refl _ _).grown hg6 (by simp; omega) (owns_block HO6.out); have HB7 := Lib.hid (HB6.out.trans hb6); have HO7 := Lib.hid hown6; clear hg6 hown6 hb6)
            go_roundw
            case rel => exact ⟨k + z, f', m + 1, c6, false, ci, A6, out ++ [⟨1, rv, 0, k⟩], by omega, by omega, by omega, rfl, rfl, hci, by go_num, HR2.out.symm, by rw [toks_snoc]; exact HO7.out, HB7.out⟩
            case measure => simp [intOf]; omega
          · rw [hdg] at hop
            simp only [if_true] at hop
            have hin48 : inB s k 48 57 = true := hdg
            have hgt := numB_gt hdg
            have h48 : 48 ≤ b ∧ b ≤ 57 := by
              have e := inB_at hlt 48 57
              rw [hin48, HBk.out] at e
              have e2 := e.symm
              simp only [Bool.and_eq_true, decide_eq_true_eq] at e2
              exact e2
            rcases hnb : numB s k with ⟨nv, ne⟩
            rw [hnb] at hop hgt
            simp only at hop hgt
            have HR := Lib.hid hop
            have HNb := Lib.hid (show numF s (s.size + 1) 0 k = (nv, ne) from hnb)
            clear hop hdg hnb
            go_wp2_with (first
              | (go_at_call 34; refine (size_to HZ.out _ (by omega) (by omega)).mono ?_; rintro e w' ⟨rfl, rfl⟩)
              | (go_at_call 35; refine (in_any s k _ _ _ (by omega) (by omega)).mono ?_; rintro e w' ⟨rfl, rfl⟩))
            obtain ⟨wo, rfl⟩ : ∃ wo : World, wo = wr := ⟨_, rfl⟩
            go_loopw [10, 11] (fun v i wr => ∃ (e f2 : Nat) (n : Int), e ≤ s.size ∧ k ≤ e ∧ s.size ≤ e + f2 ∧ v = .int .i64 n ∧ i = .int .i64 e ∧ (0 ≤ n ∧ n ≤ 2199023255552) ∧ numF s f2 n e = (nv, ne) ∧ wr = wo) (fun _ i _ => s.size - (intOf i).toNat)
            case atStart => exact ⟨k, s.size + 1, 0, by omega, by omega, by omega, rfl, rfl, by omega, HNb.out, rfl⟩
            case round =>
              obtain ⟨e, f2, n, he1, he2, he3, rfl, rfl, ⟨hn1, hn2⟩, hnf, rfl⟩ := hrel
              have HNf := Lib.hid hnf
              clear hnf
              rcases hde : digB s e with _ | _
              · have hend := numF_end (f := f2) (n := n) hde
                rw [HNf.out] at hend
                injection hend with q1 q2
                subst q1 q2
                have hin2 : inB s ne 48 57 = false := hde
                by_cases hbad : 1099511627776 < nv ∨ (b = 48 ∧ k + 1 < ne)
                · have hR2 := HR.out
                  rw [if_pos hbad] at hR2
                  have HR2 := Lib.hid hR2
                  have hbi : 1099511627776 < nv ∨ (nv ≤ 1099511627776 ∧ b = 48 ∧ (k : Int) + 1 < (ne : Int)) := by omega
                  clear hR2 hbad hde
                  rcases hbi with hb1 | ⟨hb1, rfl, hb2⟩
                  all_goals
                    go_wp2_with (go_at_call 35; refine (in_any s ne _ _ _ (by omega) (by omega)).mono ?_; rintro e w' ⟨rfl, rfl⟩)
                    go_ret3
                    exact .inr ⟨k, HR2.out, rfl, hlt, HB.out⟩
                · have hR2 := HR.out
                  rw [if_neg hbad] at hR2
                  have HR2 := Lib.hid hR2
                  have hbi : nv ≤ 1099511627776 ∧ (((b == 48) = true ∧ (ne : Int) ≤ (k : Int) + 1) ∨ (b == 48) = false) := by
                    refine ⟨by omega, ?_⟩
                    by_cases q : b = 48
                    · exact .inl ⟨by simp [q], by omega⟩
                    · exact .inr (by simp [q])
                  obtain ⟨hb1, hbi⟩ := hbi
                  have HC1 := Lib.hid (tok_cells wr 2 0 nv k 62 wr.heap.size rfl)
                  have HO6 := Lib.hid (owns_below HO.out (w' := wr.alloc (.cells #[.int .i64 2, .int .i32 0, .int .i64 nv, .int .i64 k] 62)) (by go_grown))
                  have HB6 := Lib.hid (HB.out.alloc hsz (.cells #[.int .i64 2, .int .i32 0, .int .i64 nv, .int .i64 k] 62))
                  clear hR2 hbad hde
                  rcases hbi with ⟨hb2, hb3⟩ | hb2
                  all_goals
                    go_wp2_with (first
                      | (go_at_call 35; refine (in_any s ne _ _ _ (by omega) (by omega)).mono ?_; rintro e w' ⟨rfl, rfl⟩)
                      | (at_builtin; refine wpList_append_cells _ rfl (.tmp 94) (.tmp 98) _ rfl w.heap.size 62 i0 (.agg #[.int .i64 0, .int .i32 0, .int .i64 0, .int .i64 0]) 4 32 Tryd.underlying41 hi0 hz0 hz1 hz2 rfl (by decide) _ m _ rfl HO6.out _ 1 1 _ rfl HC1.out (tok_cell4 _ _ _ _) (by unfold maxLen; omega) (by omega) (by simp; omega) ?_; intro A6 c6 w6 hown6 hg6; have hb6 : Below w.heap.size _ w6 := (Below.refl _ _).grown hg6 (by simp; omega) (owns_block HO6.out); have HB7 := Lib.hid (HB6.out.trans hb6); have HO7 := Lib.hid hown6; clear hg6 hown6 hb6))
                    go_roundw
                    case rel => exact ⟨ne, f', m + 1, c6, false, ci, A6, out ++ [⟨2, 0, nv, k⟩], by omega, by omega, by omega, rfl, rfl, hci, by go_num, HR2.out.symm, by rw [toks_snoc]; exact HO7.out, HB7.out⟩
                    case measure => simp [intOf]; omega
              · have hle := inB_lt hde
                have hin2 : inB s e 48 57 = true := hde
                have hbe0 := bAt_get s e hle
                have h48e : 48 ≤ bAt s e ∧ bAt s e ≤ 57 := by
                  have q := inB_at hle 48 57
                  rw [hin2] at q
                  have q2 := q.symm
                  simp only [Bool.and_eq_true, decide_eq_true_eq] at q2
                  exact q2
                obtain ⟨f3, hf3, hst⟩ := numF_step (n := n) hde he3
                rw [HNf.out] at hst
                have HSt := Lib.hid hst
                have o1 : IntKind.u8.wrap (bAt s e - 48) = bAt s e - 48 := by rw [IntKind.wrap_u8]; omega
                have hle2 : (e : Int) < (s.size : Int) := by omega
                clear hde hst
                go_wp2_with (go_at_call 35; refine (in_any s e _ _ _ (by omega) (by omega)).mono ?_; rintro e w' ⟨rfl, rfl⟩)
                go_roundw
                case rel => exact ⟨e + 1, f3, min (10 * n + (bAt s e - 48)) 2199023255552, by omega, by omega, by omega, rfl, by go_num, by omega, HSt.out.symm, by first | rfl | trivial⟩
                case measure => simp [intOf]; omega
    · have HR := Lib.hid (ht.symm.trans (lexF_end hlt))
      have hR := ownsRow_rows (enc := encT) (zs := out) encT_len (by decide) hO
      have HRo := Lib.hid hR
      have hcap := owns_cap hO
      have hat := owns_at hO
      have hk2 : (s.size : Int) ≤ (k : Int) := by omega
      clear ht hO hB hR
      go_wp2_with fail
      go_ret3
      exact .inl ⟨out, A', m, c', HR.out, rfl, HRo.out, ⟨by omega, hcap, hat⟩, HB.out⟩
end Go.Proofs.YtildplbdhnodjaaDoor
/- The program's package lex: the token of a piece. -/
namespace Go.Proofs.YtildplbdhnodjaaDoor
open Go.RowKit
set_option linter.unusedVariables false
set_option linter.unusedSimpArgs false
/-- the library's tables of UTF-8 lie where the program has them. -/
def Tabs (w : World) : Prop := Lib.Utf8Tabs (decLays_ren.g 3) (decLays_ren.g 4) w
theorem Tabs.lt {w : World} (h : Tabs w) : decLays_ren.g 3 < w.heap.size ∧ decLays_ren.g 4 < w.heap.size :=
  ⟨cell_lt (h.1 0 (by decide)), cell_lt (h.2 0 (by decide)).1⟩
theorem Tabs.behind {B : Nat} {w w' : World} (h : Tabs w) (hb : Below B w w') (hB : w.heap.size ≤ B) : Tabs w' := by
  obtain ⟨l1, l2⟩ := h.lt
  exact ⟨fun c hc => (hb.cell (p := ⟨_, c, none⟩) (by simp only; omega)).trans (h.1 c hc), fun i hi => ⟨(hb.cell (p := ⟨_, _, none⟩) (by simp only; omega)).trans (h.2 i hi).1, (hb.cell (p := ⟨_, _, none⟩) (by simp only; omega)).trans (h.2 i hi).2⟩⟩
theorem Tabs.below {w w' : World} (h : Tabs w) (hb : Below w.heap.size w w') : Tabs w' := h.behind hb (Nat.le_refl _)
theorem Tabs.belowB {B : Nat} {w w' : World} (h : Tabs w) (hb : Below B w w') (h3 : decLays_ren.g 3 < B) (h4 : decLays_ren.g 4 < B) : Tabs w' :=
  ⟨fun c hc => (hb.cell (p := ⟨_, c, none⟩) h3).trans (h.1 c hc), fun i hi => ⟨(hb.cell (p := ⟨_, _, none⟩) h4).trans (h.2 i hi).1, (hb.cell (p := ⟨_, _, none⟩) h4).trans (h.2 i hi).2⟩⟩
theorem dec_any (t : ByteArray) (w : World) (hT : Tabs w) (h1 : 0 < t.size) (hz : sizeB t 0 ≠ 0) : ∃ z : Nat, Calls Tryd.prog 70 #[.string t] w fun e w' => e = .returned (.tuple #[.int .i32 (runeB t 0 (sizeB t 0)), .int .i64 z]) ∧ Below w.heap.size w w' := by
  have h := Any.utf8_DecodeRuneInString decLays t w hT
  obtain ⟨hd, hp⟩ := (decode_size t 0 h1).2 hz
  have e : Lib.decodeGo t = ((runeB t 0 (sizeB t 0)).toNat, sizeB t 0) := by
    unfold Lib.decodeGo
    rw [if_neg (by omega), hd]
  rw [e, Int.toNat_of_nonneg hp] at h
  exact ⟨_, h⟩
/-- the token of a piece that begins at k; whether it may be. -/
def tokR (t : ByteArray) (k : Nat) : Tok × Bool :=
  if digitC (runeB t 0 (sizeB t 0)) then
    if 1099511627776 < (numB t 0).1 ∨ (bAt t 0 = 48 ∧ 1 < t.size) then (⟨0, 0, 0, k⟩, false) else (⟨2, 0, (numB t 0).1, k⟩, true)
  else (⟨1, runeB t 0 (sizeB t 0), 0, k⟩, true)
def tokV (x : Tok × Bool) : Value := .tuple #[.agg #[.int .i64 x.1.kind, .int .i32 x.1.sign, .int .i64 x.1.n, .int .i64 x.1.at_], .bool x.2]
theorem box4_new (w : World) (a b c d : Value) (t : TypeId) (n : Nat) (h : n = w.heap.size) : Box (w.alloc (.cells #[a, b, c, d] t)) n [a, b, c, d] := by subst h; exact Box.new w [a, b, c, d] t
theorem box4_of {w : World} {n : Nat} {a b c d : Value} (h : Box w n [a, b, c, d]) : (w.cell? ⟨n, 0, none⟩ = some a ∧ w.cell? ⟨n, 1, none⟩ = some b ∧ w.cell? ⟨n, 2, none⟩ = some c ∧ w.cell? ⟨n, 3, none⟩ = some d) ∧ (w.frozen? ⟨n, 0, none⟩ = false ∧ w.frozen? ⟨n, 1, none⟩ = false ∧ w.frozen? ⟨n, 2, none⟩ = false ∧ w.frozen? ⟨n, 3, none⟩ = false) ∧ n < w.heap.size :=
  ⟨⟨h.2.2 0 _ rfl, h.2.2 1 _ rfl, h.2.2 2 _ rfl, h.2.2 3 _ rfl⟩, ⟨h.2.1 _, h.2.1 _, h.2.1 _, h.2.1 _⟩, h.1⟩
theorem token_any (t : ByteArray) (k : Nat) (w : World) (hT : Tabs w) (h1 : 0 < t.size) (hz : sizeB t 0 ≠ 0) (ht : t.size ≤ 100000) (hk : k ≤ 100000)
    (hd : digitC (runeB t 0 (sizeB t 0)) = true → ∀ i, i < t.size → digB t i = true) : Calls Tryd.prog 43 #[.int .i64 k, .string t] w fun e w' => e = .returned (tokV (tokR t k)) ∧ Below w.heap.size w w' := by
  have HT := Lib.hid hT
  have HD := Lib.hid hd
  have HZ := Lib.hid hz
  clear hT hd hz
  go_enter Tryd.func43, Tryd.ntmps43
  go_wp2_with fail
  generalize hW : w.alloc (.cells #[.int .i64 0, .int .i32 0, .int .i64 0, .int .i64 0] 62) = W
  have hA : Box W w.heap.size [.int .i64 0, .int .i32 0, .int .i64 0, .int .i64 0] := by rw [← hW]; exact box4_new _ _ _ _ _ _ _ rfl
  have HB := Lib.hid (show Below w.heap.size w W by rw [← hW]; go_grown)
  have HT2 := Lib.hid (HT.out.below HB.out)
  clear hW HT
  obtain ⟨z, hcal⟩ := dec_any t W HT2.out h1 HZ.out
  refine hcal.mono ?_
  rintro e w2 ⟨rfl, hb2⟩
  replace hA := On.box hA _ hb2
  replace HB := Lib.hid (below_then HB.out hb2)
  clear hb2 hcal HT2
  obtain ⟨c, hc⟩ : ∃ c, runeB t 0 (sizeB t 0) = c := ⟨_, rfl⟩
  have HC := Lib.hid hc
  have HD2 := Lib.hid HD.out
  rw [hc] at HD2 ⊢
  clear HD hc
  rcases hdc : digitC c with _ | _
  · have HV := Lib.hid (show tokR t k = (⟨1, c, 0, k⟩, true) by unfold tokR; rw [HC.out, hdc]; rfl)
    obtain ⟨⟨r0, r1, r2, r3⟩, ⟨f0, f1, f2, f3⟩, r4⟩ := box4_of hA
    go_wp2_with (go_at_call 71; refine (digit_any _ _).mono ?_; rintro e w' ⟨rfl, rfl⟩)
    refine bodyPost_ret (v := .tuple #[.agg #[.int .i64 1, .int .i32 c, .int .i64 0, .int .i64 k], .bool true]) (by simp [results, Tryd.results43, go_sem, r0, r1, r2, r3]) rfl ⟨by rw [HV.out]; rfl, ?_⟩
    exact Below.setCell (Below.setCell (Below.setCell (Below.setCell HB.out (by go_size) _) (by go_size) _) (by go_size) _) (by go_size) _
  · have HDD := Lib.hid (HD2.out hdc)
    have hnum := number_any t w2 h1 HDD.out ht
    by_cases hbad : 1099511627776 < (numB t 0).1 ∨ (bAt t 0 = 48 ∧ 1 < t.size)
    · rw [numV, if_pos hbad] at hnum
      have HV := Lib.hid (show tokR t k = (⟨0, 0, 0, k⟩, false) by unfold tokR; rw [HC.out, hdc, if_pos hbad]; rfl)
      clear hbad
      go_wp2_with (first | (go_at_call 71; refine (digit_any _ _).mono ?_; rintro e w' ⟨rfl, rfl⟩) | (go_at_call 72; refine hnum.mono ?_; clear hnum; rintro e w3 ⟨rfl, hb3⟩; replace hA := On.box hA _ hb3; replace HB := Lib.hid (below_then HB.out hb3); obtain ⟨⟨r0, r1, r2, r3⟩, ⟨f0, f1, f2, f3⟩, r4⟩ := box4_of hA))
      refine bodyPost_ret (v := .tuple #[.agg #[.int .i64 0, .int .i32 0, .int .i64 0, .int .i64 k], .bool false]) (by simp [results, Tryd.results43, go_sem, r0, r1, r2, r3]) rfl ⟨by rw [HV.out]; rfl, ?_⟩
      exact Below.setCell (Below.setCell (Below.setCell (Below.setCell HB.out (by go_size) _) (by go_size) _) (by go_size) _) (by go_size) _
    · rw [numV, if_neg hbad] at hnum
      have HV := Lib.hid (show tokR t k = (⟨2, 0, (numB t 0).1, k⟩, true) by unfold tokR; rw [HC.out, hdc, if_neg hbad]; rfl)
      obtain ⟨nv, hnv⟩ : ∃ n, (numB t 0).1 = n := ⟨_, rfl⟩
      rw [hnv] at hnum HV
      clear hbad hnv
      go_wp2_with (first | (go_at_call 71; refine (digit_any _ _).mono ?_; rintro e w' ⟨rfl, rfl⟩) | (go_at_call 72; refine hnum.mono ?_; clear hnum; rintro e w3 ⟨rfl, hb3⟩; replace hA := On.box hA _ hb3; replace HB := Lib.hid (below_then HB.out hb3); obtain ⟨⟨r0, r1, r2, r3⟩, ⟨f0, f1, f2, f3⟩, r4⟩ := box4_of hA))
      refine bodyPost_ret (v := .tuple #[.agg #[.int .i64 2, .int .i32 0, .int .i64 nv, .int .i64 k], .bool true]) (by simp [results, Tryd.results43, go_sem, r0, r1, r2, r3]) rfl ⟨by rw [HV.out]; rfl, ?_⟩
      exact Below.setCell (Below.setCell (Below.setCell (Below.setCell HB.out (by go_size) _) (by go_size) _) (by go_size) _) (by go_size) _
end Go.Proofs.YtildplbdhnodjaaDoor
/- The program's package lex: a script in pieces, and the pieces' tokens, are the document's reading. -/
namespace Go.Proofs.YtildplbdhnodjaaDoor
open Go
set_option linter.unusedVariables false
set_option linter.unusedSimpArgs false
def piecesF (s : ByteArray) : Nat → Nat → Nat → More → List (Nat × Nat)
  | 0, _, from_, _ => [(from_, s.size)]
  | f + 1, k, from_, m =>
    if k < s.size then
      if m.goes (runeB s k (sizeB s k)) then piecesF s f (k + sizeB s k) from_ m
      else (from_, k) :: piecesF s f (k + sizeB s k) k (More.behind (runeB s k (sizeB s k)))
    else [(from_, s.size)]
def piecesB (s : ByteArray) : List (Nat × Nat) := piecesF s (s.size + 1) 0 0 .white
/-- what a piece is read as. -/
def nothingB (t : ByteArray) : Bool := decide (t.size = 0) || bAt t 0 == 35 || whiteC (bAt t 0)
def pieceTok (s : ByteArray) (p : Nat × Nat) : Option (Tok × Bool) := if nothingB (s.extract p.1 p.2) then none else some (tokR (s.extract p.1 p.2) p.1)
def toksP (s : ByteArray) (ps : List (Nat × Nat)) : List (Tok × Bool) := ps.filterMap (pieceTok s)
def foldT : List (Tok × Bool) → List Tok → Option (List Tok) × Nat
  | [], out => (some out, 0)
  | (x, true) :: r, out => foldT r (out ++ [x])
  | (x, false) :: _, _ => (none, x.at_.toNat)
theorem lexF_fuel {s : ByteArray} : ∀ (f f' : Nat) (c : Bool) (k : Nat) (out : List Tok), s.size ≤ k + f → s.size ≤ k + f' → lexF s f c k out = lexF s f' c k out := by
  intro f
  induction f with
  | zero =>
    intro f' c k out h1 h2
    rw [lexF_end (by omega), lexF_end (by omega)]
  | succ f ih =>
    intro f' c k out h1 h2
    by_cases hk : k < s.size
    · match f', h2 with
      | 0, h2 => omega
      | f' + 1, h2 =>
        rw [lexF, if_pos hk, lexF, if_pos hk]
        by_cases hz : sizeB s k = 0
        · rw [if_pos hz, if_pos hz]
        rw [if_neg hz, if_neg hz]
        cases c
        · simp only [Bool.false_eq_true, if_false]
          rw [ih f' true (k + 1) out (by omega) (by omega), ih f' false (k + 1) out (by omega) (by omega), ih f' false (k + sizeB s k) _ (by omega) (by omega)]
          rcases hd : digB s k with _ | _
          · rfl
          · have := numB_gt hd
            rw [ih f' false (numB s k).2 _ (by omega) (by omega)]
        · simp only [if_true]
          rw [ih f' _ (k + sizeB s k) out (by omega) (by omega)]
    · rw [lexF_end hk, lexF_end hk]
/-- the reading from k on; with a comment open. -/
def lexK (s : ByteArray) (c : Bool) (k : Nat) (out : List Tok) : Option (List Tok) × Nat := lexF s (s.size + 1) c k out
theorem lexK_end {s : ByteArray} {c : Bool} {k : Nat} {out : List Tok} (h : ¬ k < s.size) : lexK s c k out = (some out, 0) := lexF_end h
theorem lexK_open {s : ByteArray} {k : Nat} {c : Bool} {out : List Tok} (h : k < s.size) : lexK s c k out =
      if sizeB s k = 0 then (none, k)
      else if c then lexK s (decide (bAt s k ≠ 10)) (k + sizeB s k) out
      else if bAt s k = 35 then lexK s true (k + 1) out
      else if bAt s k = 32 ∨ bAt s k = 9 ∨ bAt s k = 10 then lexK s false (k + 1) out
      else if digB s k then
        if 1099511627776 < (numB s k).1 ∨ (bAt s k = 48 ∧ k + 1 < (numB s k).2) then (none, k) else lexK s false (numB s k).2 (out ++ [⟨2, 0, (numB s k).1, k⟩])
      else lexK s false (k + sizeB s k) (out ++ [⟨1, runeB s k (sizeB s k), 0, k⟩]) := by
  unfold lexK
  rw [lexF, if_pos h]
  by_cases hz : sizeB s k = 0
  · rw [if_pos hz, if_pos hz]
  rw [if_neg hz, if_neg hz]
  have ih := fun (c : Bool) (k' : Nat) (o : List Tok) (hk : k < k') => lexF_fuel (s := s) s.size (s.size + 1) c k' o (by omega) (by omega)
  cases c
  · simp only [Bool.false_eq_true, if_false]
    rw [ih true (k + 1) out (by omega), ih false (k + 1) out (by omega), ih false (k + sizeB s k) _ (by omega)]
    rcases hd : digB s k with _ | _
    · rfl
    · have := numB_gt hd
      rw [ih false (numB s k).2 _ (by omega)]
  · simp only [if_true]
    rw [ih _ (k + sizeB s k) out (by omega)]
/-- what has been read, and what is to be read on, in a piece that began at from_ and has gone to k. -/
def stay (s : ByteArray) : More → Nat → Nat → List Tok → Option (List Tok) × Nat
  | .white, _, k, out => lexK s false k out
  | .hash, _, k, out => lexK s true k out
  | .digit, from_, _, out => lexK s false from_ out
  | .sign, from_, k, out => lexK s false k (out ++ [⟨1, runeB s from_ (sizeB s from_), 0, from_⟩])
/-- what is known of a piece that began at from_ and has gone to k. -/
def Piece (s : ByteArray) : More → Nat → Nat → Prop
  | .white, from_, k => from_ ≤ k ∧ (from_ < k → whiteC (bAt s from_) = true)
  | .hash, from_, k => from_ < k ∧ bAt s from_ = 35
  | .digit, from_, k => from_ < k ∧ (∀ i, from_ ≤ i → i < k → digB s i = true)
  | .sign, from_, k => k = from_ + sizeB s from_ ∧ sizeB s from_ ≠ 0 ∧ bAt s from_ ≠ 35 ∧ whiteC (runeB s from_ (sizeB s from_)) = false ∧ digitC (runeB s from_ (sizeB s from_)) = false
theorem whiteC_big {c : Int} (h : 128 ≤ c) : whiteC c = false := by unfold whiteC; simp; omega
theorem digitC_big {c : Int} (h : 128 ≤ c) : digitC c = false := by unfold digitC; simp; omega
theorem whiteC_iff {c : Int} : whiteC c = true ↔ c = 32 ∨ c = 9 ∨ c = 10 := by unfold whiteC; simp; omega
theorem digB_digitC {s : ByteArray} {k : Nat} (hk : k < s.size) : digB s k = digitC (bAt s k) := by unfold digB digitC; rw [inB_at hk]
/-- a piece begins: what the first character tells. -/
theorem begin_piece {s : ByteArray} {k : Nat} {out : List Tok} (hk : k < s.size) (hz : sizeB s k ≠ 0) :
    Piece s (More.behind (runeB s k (sizeB s k))) k (k + sizeB s k) ∧ stay s (More.behind (runeB s k (sizeB s k))) k (k + sizeB s k) out = lexK s false k out := by
  rw [lexK_open hk, if_neg hz]
  simp only [Bool.false_eq_true, if_false]
  unfold More.behind
  rcases rune_byte hz with ⟨h1, h2, h3⟩ | ⟨h1, h2, h3⟩
  · rw [h3, h2]
    rcases hw : whiteC (bAt s k) with _ | _
    · have hnw : ¬ (bAt s k = 32 ∨ bAt s k = 9 ∨ bAt s k = 10) := by rw [← whiteC_iff, hw]; simp
      rw [if_neg hnw]
      rcases hd : digitC (bAt s k) with _ | _
      · rw [digB_digitC hk, hd]
        simp only [Bool.false_eq_true, if_false]
        by_cases h35 : bAt s k = 35
        · rw [if_pos h35, if_pos h35]
          exact ⟨⟨by omega, h35⟩, rfl⟩
        · rw [if_neg h35, if_neg h35]
          refine ⟨⟨by rw [h2], hz, h35, by rw [h3]; exact hw, by rw [h3]; exact hd⟩, ?_⟩
          show lexK s false (k + 1) (out ++ [⟨1, runeB s k (sizeB s k), 0, k⟩]) = _
          rw [h3]
      · have h35 : bAt s k ≠ 35 := by unfold digitC at hd; simp at hd; omega
        simp only [Bool.false_eq_true, if_false, if_true]
        rw [if_neg h35, digB_digitC hk, hd]
        simp only [if_true]
        refine ⟨⟨by omega, fun i hi1 hi2 => ?_⟩, ?_⟩
        · obtain rfl : i = k := by omega
          rw [digB_digitC hk, hd]
        · show lexK s false k out = _
          rw [lexK_open hk, if_neg hz]
          simp only [Bool.false_eq_true, if_false]
          rw [if_neg h35, if_neg hnw, digB_digitC hk, hd]
          simp only [if_true]
    · have hyw := whiteC_iff.1 hw
      simp only [if_true]
      rw [if_neg (by omega), if_pos hyw]
      exact ⟨⟨by omega, fun _ => hw⟩, rfl⟩
  · rw [whiteC_big h3, digitC_big h3]
    simp only [Bool.false_eq_true, if_false]
    rw [if_neg (show ¬ runeB s k (sizeB s k) = 35 by omega), if_neg (by omega), if_neg (by omega), digB_digitC hk, digitC_big h1]
    simp only [Bool.false_eq_true, if_false]
    exact ⟨⟨rfl, hz, by omega, whiteC_big h3, digitC_big h3⟩, rfl⟩
end Go.Proofs.YtildplbdhnodjaaDoor
/- The program's package lex: the pieces' tokens are the document's reading; a text that is not well-formed. -/
namespace Go.Proofs.YtildplbdhnodjaaDoor
open Go
set_option linter.unusedVariables false
set_option linter.unusedSimpArgs false
theorem size_one {s : ByteArray} {k : Nat} (h : inB s k 0 127 = true) : sizeB s k = 1 := by unfold sizeB; rw [if_pos h]
theorem size_dig {s : ByteArray} {k : Nat} (h : digB s k = true) : sizeB s k = 1 := by
  have hl := inB_lt h
  have q := inB_at hl 48 57
  rw [show inB s k 48 57 = true from h] at q
  have q2 := q.symm
  simp only [Bool.and_eq_true, decide_eq_true_eq] at q2
  exact size_one (inB_yes hl (by omega) (by omega))
/-- the piece goes on. -/
theorem goes_on {s : ByteArray} {m : More} {from_ k : Nat} {out : List Tok} (hp : Piece s m from_ k) (hk : k < s.size) (hz : sizeB s k ≠ 0) (hg : m.goes (runeB s k (sizeB s k)) = true) :
    Piece s m from_ (k + sizeB s k) ∧ stay s m from_ (k + sizeB s k) out = stay s m from_ k out := by
  rcases rune_byte hz with ⟨h1, h2, h3⟩ | ⟨h1, h2, h3⟩
  · rw [h3] at hg
    rw [h2]
    cases m with
    | white =>
      obtain ⟨p1, p2⟩ := hp
      have hw := whiteC_iff.1 hg
      refine ⟨⟨by omega, fun _ => ?_⟩, ?_⟩
      · by_cases q : from_ < k
        · exact p2 q
        · obtain rfl : from_ = k := by omega
          exact hg
      · show lexK s false (k + 1) out = lexK s false k out
        rw [lexK_open (k := k) hk, if_neg hz]
        simp only [Bool.false_eq_true, if_false]
        rw [if_neg (by omega), if_pos hw]
    | hash =>
      obtain ⟨p1, p2⟩ := hp
      refine ⟨⟨by omega, p2⟩, ?_⟩
      show lexK s true (k + 1) out = lexK s true k out
      have h10 : bAt s k ≠ 10 := by simpa [More.goes] using hg
      rw [lexK_open (k := k) hk, if_neg hz, h2]
      simp only [if_true]
      rw [decide_eq_true h10]
    | digit =>
      obtain ⟨p1, p2⟩ := hp
      refine ⟨⟨by omega, fun i hi1 hi2 => ?_⟩, rfl⟩
      by_cases q : i < k
      · exact p2 i hi1 q
      · obtain rfl : i = k := by omega
        rw [digB_digitC hk]; exact hg
    | sign => exact absurd hg (by simp [More.goes])
  · cases m with
    | white => rw [show More.goes .white (runeB s k (sizeB s k)) = whiteC (runeB s k (sizeB s k)) from rfl, whiteC_big h3] at hg; exact absurd hg (by simp)
    | hash =>
      obtain ⟨p1, p2⟩ := hp
      refine ⟨⟨by omega, p2⟩, ?_⟩
      show lexK s true (k + sizeB s k) out = lexK s true k out
      rw [lexK_open (k := k) hk, if_neg hz]
      simp only [if_true]
      rw [decide_eq_true (show bAt s k ≠ 10 by omega)]
    | digit => rw [show More.goes .digit (runeB s k (sizeB s k)) = digitC (runeB s k (sizeB s k)) from rfl, digitC_big h3] at hg; exact absurd hg (by simp)
    | sign => exact absurd hg (by simp [More.goes])
/-- what a piece owes the function that makes its token. -/
def PieceOk (s : ByteArray) (p : Nat × Nat) : Prop := p.1 ≤ p.2 ∧ p.2 ≤ s.size ∧ (nothingB (s.extract p.1 p.2) = false →
  0 < (s.extract p.1 p.2).size ∧ sizeB (s.extract p.1 p.2) 0 ≠ 0 ∧ (digitC (runeB (s.extract p.1 p.2) 0 (sizeB (s.extract p.1 p.2) 0)) = true → ∀ i, i < (s.extract p.1 p.2).size → digB (s.extract p.1 p.2) i = true))
def endsAs (s : ByteArray) (k : Nat) (out : List Tok) (v : Option (List Tok) × Nat) : Option (Tok × Bool) → Prop
  | none => v = lexK s false k out
  | some (x, true) => v = lexK s false k (out ++ [x])
  | some (x, false) => v = (none, x.at_.toNat)
/-- the piece ends. -/
theorem end_piece {s : ByteArray} {m : More} {from_ k : Nat} (hp : Piece s m from_ k) (hk : k ≤ s.size) (hz : k < s.size → sizeB s k ≠ 0 ∧ m.goes (runeB s k (sizeB s k)) = false) :
    PieceOk s (from_, k) ∧ ∀ out, endsAs s k out (stay s m from_ k out) (pieceTok s (from_, k)) := by
  have hle : from_ ≤ k := by
    cases m with
    | white => exact hp.1
    | hash => have := hp.1; omega
    | digit => have := hp.1; omega
    | sign => have := hp.1; omega
  obtain ⟨t, ht⟩ : ∃ t, s.extract from_ k = t := ⟨_, rfl⟩
  have hx : Ext s t from_ := ht ▸ ext_extract hle hk
  have hts : t.size = k - from_ := by rw [← ht, ByteArray.size_extract]; omega
  have hb0 : from_ < k → bAt t 0 = bAt s from_ := fun q => by have := hx.at_ 0 (by omega); rwa [Nat.add_zero] at this
  unfold PieceOk pieceTok
  simp only [ht]
  cases m with
  | white =>
    have hn : nothingB t = true := by
      unfold nothingB
      by_cases q : from_ < k
      · rw [hb0 q, hp.2 q]; simp
      · rw [decide_eq_true (by omega)]; simp
    rw [hn]
    exact ⟨⟨hle, hk, fun q => absurd q (by simp)⟩, fun out => rfl⟩
  | hash =>
    have hn : nothingB t = true := by
      unfold nothingB
      rw [hb0 hp.1, hp.2]; simp
    rw [hn]
    refine ⟨⟨hle, hk, fun q => absurd q (by simp)⟩, fun out => ?_⟩
    show lexK s true k out = lexK s false k out
    by_cases hlt : k < s.size
    · obtain ⟨hz1, hz2⟩ := hz hlt
      rcases rune_byte hz1 with ⟨h1, h2, h3⟩ | ⟨h1, h2, h3⟩
      · rw [h3] at hz2
        have h10 : bAt s k = 10 := by simpa [More.goes] using hz2
        rw [lexK_open hlt, if_neg hz1, lexK_open hlt, if_neg hz1, h2]
        simp [h10]
      · have h10 : runeB s k (sizeB s k) = 10 := by simpa [More.goes] using hz2
        omega
    · rw [lexK_end hlt, lexK_end hlt]
  | sign =>
    obtain ⟨p1, p2, p3, p4, p5⟩ := hp
    have hst : sizeB t 0 = sizeB s from_ := by
      have := hx.sizeB (k := 0) (by rw [Nat.add_zero]; exact p2) (by rw [Nat.add_zero]; omega)
      rwa [Nat.add_zero] at this
    have hru : runeB t 0 (sizeB t 0) = runeB s from_ (sizeB s from_) := by
      have := hx.runeB (k := 0) (n := sizeB s from_) (by omega) (by omega)
      rw [Nat.add_zero] at this
      rw [hst, this]
    have hn : nothingB t = false := by
      have hw : whiteC (bAt s from_) = false := by
        rcases rune_byte p2 with ⟨h1, h2, h3⟩ | ⟨h1, h2, h3⟩
        · rw [← h3]; exact p4
        · exact whiteC_big h1
      unfold nothingB
      rw [hb0 (by omega), hw, decide_eq_false (by omega)]
      simp [p3]
    rw [hn, hru, hst]
    refine ⟨⟨hle, hk, fun _ => ⟨by omega, p2, fun q => absurd q (by rw [p5]; simp)⟩⟩, fun out => ?_⟩
    unfold tokR
    rw [hru, p5]
    rfl
  | digit =>
    obtain ⟨p1, p2⟩ := hp
    have hd0 := p2 from_ (by omega) (by omega)
    have hs1 := size_dig hd0
    have hl0 := inB_lt hd0
    have h48 : 48 ≤ bAt s from_ ∧ bAt s from_ ≤ 57 := by
      rw [digB_digitC hl0] at hd0
      unfold digitC at hd0; simp at hd0; omega
    have hst : sizeB t 0 = 1 := by
      have := hx.sizeB (k := 0) (by rw [Nat.add_zero]; omega) (by rw [Nat.add_zero]; omega)
      rw [Nat.add_zero] at this
      omega
    have hru : runeB t 0 (sizeB t 0) = bAt s from_ := by rw [hst]; show bAt t 0 = _; exact hb0 p1
    have hdc : digitC (bAt s from_) = true := by unfold digitC; simp; omega
    have hall : ∀ i, i < t.size → digB t i = true := fun i hi => by rw [hx.digB hi]; exact p2 _ (by omega) (by omega)
    have hn : nothingB t = false := by
      unfold nothingB
      rw [hb0 p1, decide_eq_false (by omega)]
      have : whiteC (bAt s from_) = false := by unfold whiteC; simp; omega
      rw [this]; simp; omega
    have hkk : from_ + t.size = k := by omega
    have hend : digB s (from_ + t.size) = false := by
      rw [hkk]
      by_cases hlt : k < s.size
      · obtain ⟨hz1, hz2⟩ := hz hlt
        rw [digB_digitC hlt]
        rcases rune_byte hz1 with ⟨h1, h2, h3⟩ | ⟨h1, h2, h3⟩
        · rw [← h3]; exact hz2
        · exact digitC_big h1
      · exact inB_ge hlt _ _
    have hnum := hx.numB hend (k := 0) (by omega)
    have h2 : (numB t 0).2 = t.size := numF_all hall _ _ 0 (by omega) (by omega)
    rw [Nat.add_zero, h2, hkk] at hnum
    rw [hn, hru, hst]
    refine ⟨⟨hle, hk, fun _ => ⟨by omega, by omega, fun _ => hall⟩⟩, fun out => ?_⟩
    show endsAs s k out (lexK s false from_ out) (some (tokR t from_))
    unfold tokR
    rw [hru, hdc, if_pos rfl, hb0 p1, lexK_open hl0, if_neg (by omega)]
    simp only [Bool.false_eq_true, if_false]
    rw [if_neg (by omega), if_neg (by omega), if_pos hd0, hnum]
    by_cases hbad : 1099511627776 < (numB t 0).1 ∨ (bAt s from_ = 48 ∧ 1 < t.size)
    · rw [if_pos hbad, if_pos (by simp only; omega)]
      show ((none, from_) : Option (List Tok) × Nat) = (none, ((from_ : Nat) : Int).toNat)
      rfl
    · rw [if_neg hbad, if_neg (by simp only; omega)]
      rfl
theorem foldT_end {s : ByteArray} {k : Nat} {out : List Tok} {v : Option (List Tok) × Nat} {p : Nat × Nat} {ps : List (Nat × Nat)} (h : endsAs s k out v (pieceTok s p))
    (hr : ∀ out, foldT (toksP s ps) out = lexK s false k out) : foldT (toksP s (p :: ps)) out = v := by
  unfold toksP at hr ⊢
  rw [List.filterMap_cons]
  rcases hq : pieceTok s p with _ | ⟨x, _ | _⟩
  · rw [hq] at h; rw [show v = _ from h]; exact hr out
  · rw [hq] at h; exact h.symm
  · rw [hq] at h; rw [show v = _ from h]; exact hr (out ++ [x])
/-- all pieces' tokens, one after another, are the document's reading. -/
theorem pieces_fold {s : ByteArray} : ∀ (f k from_ : Nat) (m : More) (out : List Tok), k ≤ s.size → s.size ≤ k + f → textF s f k = none → Piece s m from_ k →
    (∀ p ∈ piecesF s f k from_ m, PieceOk s p) ∧ foldT (toksP s (piecesF s f k from_ m)) out = stay s m from_ k out := by
  have last : ∀ (from_ : Nat) (m : More) (out : List Tok), Piece s m from_ s.size → (∀ p ∈ [(from_, s.size)], PieceOk s p) ∧ foldT (toksP s [(from_, s.size)]) out = stay s m from_ s.size out := by
    intro from_ m out hp
    obtain ⟨h1, h2⟩ := end_piece hp (Nat.le_refl _) (fun q => absurd q (by omega))
    refine ⟨fun p hp => by simp at hp; subst hp; exact h1, ?_⟩
    refine foldT_end (h2 out) (fun o => ?_)
    rw [lexK_end (by omega)]; rfl
  intro f
  induction f with
  | zero =>
    intro k from_ m out hk hf ht hp
    obtain rfl : k = s.size := by omega
    exact last from_ m out hp
  | succ f ih =>
    intro k from_ m out hk hf ht hp
    by_cases hlt : k < s.size
    · rw [textF, if_pos hlt] at ht
      by_cases hz : sizeB s k = 0
      · rw [if_pos hz] at ht; exact absurd ht (by simp)
      rw [if_neg hz] at ht
      have hin := sizeB_in (s := s) (k := k) (by omega)
      rw [piecesF, if_pos hlt]
      rcases hg : m.goes (runeB s k (sizeB s k)) with _ | _
      · simp only [Bool.false_eq_true, if_false]
        obtain ⟨h1, h2⟩ := end_piece hp hk (fun _ => ⟨hz, hg⟩)
        obtain ⟨b1, _⟩ := begin_piece (out := out) hlt hz
        have i1 := (ih (k + sizeB s k) k _ out hin (by omega) ht b1).1
        refine ⟨fun p hp => ?_, foldT_end (h2 out) (fun o => ?_)⟩
        · rcases List.mem_cons.1 hp with rfl | hp
          · exact h1
          · exact i1 p hp
        · rw [(ih (k + sizeB s k) k _ o hin (by omega) ht b1).2, (begin_piece (out := o) hlt hz).2]
      · simp only [if_true]
        obtain ⟨g1, g2⟩ := goes_on (out := out) hp hlt hz hg
        rw [← g2]
        exact ih (k + sizeB s k) from_ m out hin (by omega) ht g1
    · obtain rfl : k = s.size := by omega
      rw [piecesF, if_neg hlt]
      exact last from_ m out hp
theorem piecesF_len {s : ByteArray} : ∀ (f k from_ : Nat) (m : More), (piecesF s f k from_ m).length ≤ f + 1
  | 0, k, from_, m => by simp [piecesF]
  | f + 1, k, from_, m => by
    rw [piecesF]
    split
    · split
      · have := piecesF_len (s := s) f (k + sizeB s k) from_ m; omega
      · have := piecesF_len (s := s) f (k + sizeB s k) k (More.behind (runeB s k (sizeB s k))); simp; omega
    · simp
theorem pieces_whole {s : ByteArray} (h : textB s = none) : (∀ p ∈ piecesB s, PieceOk s p) ∧ foldT (toksP s (piecesB s)) [] = lexB s :=
  pieces_fold (s.size + 1) 0 0 .white [] (by omega) (by omega) h ⟨by omega, fun q => absurd q (by omega)⟩
theorem pieces_len (s : ByteArray) : (piecesB s).length ≤ s.size + 2 := piecesF_len _ _ _ _

/-! ### a text that is not well-formed -/
def Bad (s : ByteArray) (k p : Nat) : Prop := ∃ f, s.size ≤ k + f ∧ textF s f k = some p
theorem Bad.lt {s : ByteArray} {k p : Nat} (h : Bad s k p) : k ≤ p ∧ p < s.size ∧ sizeB s p = 0 := by
  obtain ⟨f, hf, ht⟩ := h
  induction f generalizing k with
  | zero => exact absurd ht (by simp [textF])
  | succ f ih =>
    rw [textF] at ht
    by_cases hk : k < s.size
    · rw [if_pos hk] at ht
      by_cases hz : sizeB s k = 0
      · rw [if_pos hz] at ht
        injection ht with ht
        subst ht
        exact ⟨Nat.le_refl _, hk, hz⟩
      · rw [if_neg hz] at ht
        have := ih (by omega) ht
        exact ⟨by omega, this.2⟩
    · rw [if_neg hk] at ht; exact absurd ht (by simp)
theorem Bad.step {s : ByteArray} {k p : Nat} (h : Bad s k p) (hk : k < p) : sizeB s k ≠ 0 ∧ Bad s (k + sizeB s k) p := by
  have hl := h.lt
  obtain ⟨f, hf, ht⟩ := h
  cases f with
  | zero => exact absurd ht (by simp [textF])
  | succ f =>
    rw [textF, if_pos (by omega)] at ht
    by_cases hz : sizeB s k = 0
    · rw [if_pos hz] at ht
      injection ht with ht
      omega
    · rw [if_neg hz] at ht
      exact ⟨hz, f, by omega, ht⟩
theorem Bad.digits {s : ByteArray} {p : Nat} : ∀ (f : Nat) (n : Int) (k : Nat), Bad s k p → Bad s (numF s f n k).2 p
  | 0, n, k, h => h
  | f + 1, n, k, h => by
    rw [numF]
    rcases hd : digB s k with _ | _
    · exact h
    · simp only [if_true]
      have hs := size_dig hd
      have hl := h.lt
      have hne : k ≠ p := fun e => by subst e; omega
      have := (h.step (by omega)).2
      rw [hs] at this
      exact Bad.digits f _ (k + 1) this
def headThen (p : Nat) : Option (List Tok) × Nat → Option (List Tok) × Nat
  | (none, q) => (none, q)
  | (some _, _) => (none, p)
theorem lex_head {s t : ByteArray} {p : Nat} (hx : Ext s t 0) (hts : t.size = p) : ∀ (n k : Nat) (c : Bool) (out : List Tok), p - k = n → Bad s k p → lexK s c k out = headThen p (lexK t c k out) := by
  intro n
  induction n using Nat.strongRecOn with
  | ind n ih =>
    intro k c out hn hb
    obtain ⟨l1, l2, l3⟩ := hb.lt
    by_cases hk : k < p
    · obtain ⟨hz, hb2⟩ := hb.step hk
      have l4 := hb2.lt.1
      have e1 : sizeB t k = sizeB s k := by have := hx.sizeB (k := k) (by rw [Nat.zero_add]; exact hz) (by rw [Nat.zero_add]; omega); rwa [Nat.zero_add] at this
      have e2 : bAt t k = bAt s k := by have := hx.at_ k (by omega); rwa [Nat.zero_add] at this
      have e3 : runeB t k (sizeB s k) = runeB s k (sizeB s k) := by have := hx.runeB (k := k) (n := sizeB s k) (by omega) (by omega); rwa [Nat.zero_add] at this
      have e4 : digB t k = digB s k := by have := hx.digB (k := k) (by omega); rwa [Nat.zero_add] at this
      have hend : digB s (0 + t.size) = false := by
        rw [Nat.zero_add, hts]
        rcases hd : digB s p with _ | _
        · rfl
        · have := size_dig hd; omega
      have e5 : numB s k = numB t k := by have := hx.numB hend (k := k) (by omega); rw [Nat.zero_add, Nat.zero_add] at this; exact this
      rw [lexK_open (show k < s.size by omega), lexK_open (show k < t.size by omega), e1, e2, e3, e4, e5, if_neg hz, if_neg hz]
      cases c
      · simp only [Bool.false_eq_true, if_false]
        by_cases h35 : bAt s k = 35
        · rw [if_pos h35, if_pos h35]
          have h1 : sizeB s k = 1 := size_one (inB_yes (by omega) (by omega) (by omega))
          rw [h1] at hb2
          exact ih (p - (k + 1)) (by omega) _ _ _ rfl hb2
        rw [if_neg h35, if_neg h35]
        by_cases hw : bAt s k = 32 ∨ bAt s k = 9 ∨ bAt s k = 10
        · rw [if_pos hw, if_pos hw]
          have h1 : sizeB s k = 1 := size_one (inB_yes (by omega) (by omega) (by omega))
          rw [h1] at hb2
          exact ih (p - (k + 1)) (by omega) _ _ _ rfl hb2
        rw [if_neg hw, if_neg hw]
        rcases hd : digB s k with _ | _
        · simp only [Bool.false_eq_true, if_false]
          exact ih (p - (k + sizeB s k)) (by omega) _ _ _ rfl hb2
        · simp only [if_true]
          have hb3 : Bad s (numB s k).2 p := Bad.digits _ _ _ hb
          have hgt := numB_gt hd
          rw [e5] at hb3 hgt
          by_cases hbad : 1099511627776 < (numB t k).1 ∨ (bAt s k = 48 ∧ k + 1 < (numB t k).2)
          · rw [if_pos hbad, if_pos hbad]; rfl
          · rw [if_neg hbad, if_neg hbad]
            exact ih (p - (numB t k).2) (by omega) _ _ _ rfl hb3
      · simp only [if_true]
        exact ih (p - (k + sizeB s k)) (by omega) _ _ _ rfl hb2
    · obtain rfl : k = p := by omega
      rw [lexK_open l2, if_pos l3, lexK_end (show ¬ k < t.size by omega)]
      rfl
theorem text_head {s t : ByteArray} {p : Nat} (hx : Ext s t 0) (hts : t.size = p) : ∀ (f k : Nat), t.size ≤ k + f → Bad s k p → textF t f k = none := by
  intro f
  induction f with
  | zero => intro k _ _; rfl
  | succ f ih =>
    intro k hf hb
    obtain ⟨l1, l2, l3⟩ := hb.lt
    rw [textF]
    by_cases hk : k < t.size
    · obtain ⟨hz, hb2⟩ := hb.step (by omega)
      have l4 := hb2.lt.1
      have e1 : sizeB t k = sizeB s k := by have := hx.sizeB (k := k) (by rw [Nat.zero_add]; exact hz) (by rw [Nat.zero_add]; omega); rwa [Nat.zero_add] at this
      rw [if_pos hk, e1, if_neg hz]
      exact ih _ (by omega) hb2
    · rw [if_neg hk]
/-- a text that is not well-formed is read up to there. -/
theorem lex_part {s : ByteArray} {p : Nat} (h : textB s = some p) : p < s.size ∧ textB (s.extract 0 p) = none ∧ lexB s = headThen p (lexB (s.extract 0 p)) := by
  have hb : Bad s 0 p := ⟨s.size + 1, by omega, h⟩
  have hl := hb.lt
  have hx : Ext s (s.extract 0 p) 0 := ext_extract (Nat.zero_le _) (by omega)
  have hts : (s.extract 0 p).size = p := by rw [ByteArray.size_extract]; omega
  exact ⟨hl.2.1, text_head hx hts _ 0 (by omega) hb, lex_head hx hts _ 0 false [] rfl hb⟩
end Go.Proofs.YtildplbdhnodjaaDoor
/- The library's tables of UTF-8: what a row that lists them says of the world; a world that holds them. -/
namespace Go.Proofs.YtildplbdhnodjaaDoor
open Go.ChangeShapes Go.WideShapes Go.ChangeAt Go.RowKit Go.Lib
set_option linter.unusedVariables false
set_option maxRecDepth 100000
theorem accept_eq : Rows.laid_unicode_utf8_acceptRanges = Lib.acceptData := by kernel_rfl
theorem first_eq : Rows.laid_unicode_utf8_first = Lib.firstData := Go.Pinned.utf8First_eq
theorem u8Types : U8Types Tryd.prog decLays_ren := U8Types.of260 { decLays with }
theorem u8Extra : U8Extra Tryd.prog decLays_ren := ⟨by kernel_rfl, by kernel_rfl, by kernel_rfl, by kernel_rfl, by kernel_rfl, by kernel_rfl, by kernel_rfl⟩
def tabsLaid : List (String × DataW Unit) := [("unicode/utf8.acceptRanges", Rows.laid_unicode_utf8_acceptRanges), ("unicode/utf8.first", Rows.laid_unicode_utf8_first)]
theorem tabs_of_laid {W : World} (h : laidMetH Tryd.prog tabsLaid W) : Tabs W := by
  rw [MakeChecks.laidMetH_plain _ _ _ (by kernel_rfl)] at h
  have h3 := Lib.laidMet.reads h (n := "unicode/utf8.first") (d := Rows.laid_unicode_utf8_first) (.tail _ (.head _))
  have h4 := Lib.laidMet.reads h (n := "unicode/utf8.acceptRanges") (d := Rows.laid_unicode_utf8_acceptRanges) (.head _)
  rw [first_eq] at h3
  rw [accept_eq] at h4
  exact utf8Tabs_of_readsT u8Types u8Extra h3 h4
/-- the settled world, the two tables holding what their initialisers lay. -/
noncomputable def tabsWorld (os : Os) : World :=
  let w0 := World.holding Tryd.prog os ⟨#[], #[], []⟩
  let put (h : Array Obj) (g : Nat) (cs : Array Value) : Array Obj := h.modify g fun
    | .cells _ t frozen => .cells cs t frozen
    | o => o
  let h1 := put w0.heap (decLays_ren.g 3) (Lib.firstTab.map fun z => Value.int .u8 z).toArray
  let h2 := put h1 (decLays_ren.g 4) ((List.range 16).flatMap fun i => [Value.int .u8 (Lib.accLo i), Value.int .u8 (Lib.accHi i)]).toArray
  { w0 with heap := h2 }
theorem tabs_met (os : Os) (args : Array Value) : laidMetH Tryd.prog tabsLaid ((tabsWorld os).forCall (fun _ _ => 0) ⟨#[], args, []⟩).memory := by
  rw [MakeChecks.laidMetH_plain _ _ _ (by kernel_rfl)]
  exact (LaidIn.of_run (l := tabsLaid) [0, 1] 8 (by kernel_rfl) (by kernel_rfl) (by kernel_rfl) (by kernel_rfl)).met
end Go.Proofs.YtildplbdhnodjaaDoor
/- The program's package lex: whether a text is well-formed. -/
namespace Go.Proofs.YtildplbdhnodjaaDoor
open Go.RowKit
set_option linter.unusedVariables false
set_option linter.unusedSimpArgs false
def pre3 (t : ByteArray) : Bool := decide (3 ≤ t.size) && (t.extract 0 3).toList == [239, 191, 189]
theorem pre2_any (t : ByteArray) (w : World) (ht : t.size ≤ 100000) : Calls Tryd.prog 66 #[.string t, .string ⟨#[239, 191, 189]⟩] w fun e w' => e = .returned (.bool (pre3 t)) ∧ w = w' := by
  by_cases h : 3 ≤ t.size
  · go_enter Tryd.func66, Tryd.ntmps66
    go_wp2_with fail
    go_ret
    exact ⟨ret_bool (by simp [pre3, h]), rfl⟩
  · go_enter Tryd.func66, Tryd.ntmps66
    go_wp2_with fail
    go_ret
    exact ⟨ret_bool (by simp [pre3, h]), rfl⟩
theorem pre_any {t : ByteArray} {v : Bool} (hv : pre3 t = v) (w : World) (ht : t.size ≤ 100000) : Calls Tryd.prog 39 #[.string t, .string ⟨#[239, 191, 189]⟩] w fun e w' => e = .returned (.bool v) ∧ w = w' := by
  subst hv
  go_enter Tryd.func39, Tryd.ntmps39
  go_wp2_with (go_at_call 66; refine (pre2_any _ _ ht).mono ?_; rintro e w' ⟨rfl, rfl⟩)
  go_ret
  exact ⟨rfl, rfl⟩
theorem pre_yes {s : ByteArray} {k : Nat} (hk : k < s.size) (hz : sizeB s k ≠ 0) (hr : runeB s k (sizeB s k) = 65533) : pre3 (s.extract k s.size) = true := by
  have he := encode_rune hz
  have hin := sizeB_in (s := s) (k := k) (by omega)
  rw [hr] at he
  have hd : Utf8.encode 65533 = ⟨#[239, 191, 189]⟩ := by kernel_rfl
  rw [hd] at he
  have hs := congrArg ByteArray.size he
  rw [ByteArray.size_extract] at hs
  have h3 : sizeB s k = 3 := by
    have : (ByteArray.mk #[239, 191, 189]).size = 3 := rfl
    omega
  rw [h3] at he hin
  have e2 : (s.extract k s.size).extract 0 3 = s.extract k (k + 3) := by
    rw [ByteArray.extract_extract]
    congr 1
    omega
  unfold pre3
  rw [e2, ← he, ByteArray.size_extract, decide_eq_true (by omega), Go.ByteArray.toList_eq]
  rfl
theorem pre3_byte {t : ByteArray} {l : List UInt8} (h3 : l.length ≤ t.size) (hp : (t.extract 0 l.length).data.toList = l) {j : Nat} {u : UInt8} (hu : l[j]? = some u) : bAt t j = (u.toNat : Int) := by
  have hj := (List.getElem?_eq_some_iff.1 hu).1
  rw [← hp, Array.getElem?_toList, ByteArray.data_extract, Array.getElem?_extract] at hu
  unfold bAt
  congr 2
  show t.data[j]! = u
  rw [getElem!_def]
  split at hu
  · rw [Nat.zero_add] at hu; rw [hu]
  · exact absurd hu (by simp)
theorem pre_no {s : ByteArray} {k : Nat} (hk : k < s.size) (hz : sizeB s k = 0) : pre3 (s.extract k s.size) = false := by
  rcases hp : pre3 (s.extract k s.size) with _ | _
  · rfl
  · exfalso
    unfold pre3 at hp
    simp only [Bool.and_eq_true, decide_eq_true_eq, beq_iff_eq] at hp
    obtain ⟨hl, hp⟩ := hp
    rw [Go.ByteArray.toList_eq] at hp
    have b0 := pre3_byte (l := [239, 191, 189]) hl hp (j := 0) rfl
    have b1 := pre3_byte (l := [239, 191, 189]) hl hp (j := 1) rfl
    have b2 := pre3_byte (l := [239, 191, 189]) hl hp (j := 2) rfl
    clear hp
    rw [ByteArray.size_extract] at hl
    have h3 : k + 3 ≤ s.size := by omega
    rw [bAt_extract s k s.size _ (Nat.le_refl _) (by omega)] at b0 b1 b2
    have q0 : bAt s k = 239 := b0
    have q1 : bAt s (k + 1) = 191 := b1
    have q2 : bAt s (k + 1 + 1) = 189 := b2
    have i0 : inB s k 238 239 = true := inB_yes hk (by omega) (by omega)
    have i1 : moreB s (k + 1) 2 = true := more2.2 ⟨inB_yes (by omega) (by omega) (by omega), inB_yes (by omega) (by omega) (by omega)⟩
    have n0 : inB s k 0 127 = false := inB_no (by omega)
    have n1 : inB s k 194 223 = false := inB_no (by omega)
    unfold sizeB at hz
    rw [n0, n1, i0, i1] at hz
    simp at hz
theorem lextext_any (s : ByteArray) (w : World) (hs : s.size ≤ 100000) : Calls Tryd.prog 20 #[.string s] w fun e w' => e = .returned (textV (textB s)) ∧ Below w.heap.size w w' := by
  have HT := Lib.hid (show textF s (s.size + 1) 0 = textB s from rfl)
  go_enter Tryd.func20, Tryd.ntmps20
  go_wp2_with fail
  go_loopw [4, 5] (fun v c wr => ∃ k f : Nat, k ≤ s.size ∧ s.size ≤ k + f ∧ textF s f k = textB s ∧ wr = w.iter s k) (fun _ _ wr => s.size - wr.iterPos w.heap.size)
  case atStart => exact ⟨0, s.size + 1, by omega, by omega, HT.out, rfl⟩
  case round =>
    obtain ⟨k, f, hk, hf, ht, rfl⟩ := hrel
    have HT2 := Lib.hid ht
    clear ht
    by_cases hlt : k < s.size
    · have hnx := fun ty => run_next_any (P := Tryd.prog) w s k ty hlt
      have hds := decode_size s k hlt
      have hin := sizeB_in (s := s) (k := k)
      have h2 : (k : Int) < (s.size : Int) := by omega
      obtain ⟨z, hz⟩ : ∃ z, sizeB s k = z := ⟨_, rfl⟩
      have hsz : (s.extract k s.size).size ≤ 100000 := by rw [ByteArray.size_extract]; omega
      by_cases hz0 : z = 0
      · subst hz0
        have HR := Lib.hid ((HT2.out.symm.trans (textF_bad hlt hf hz)))
        have HP := Lib.hid (pre_no hlt hz)
        have hW := Below.alloc (Below.refl w.heap.size w) (Nat.le_refl _) (.stringIter s (k + 1))
        rw [hds.1 hz] at hnx
        clear hds hin hz
        go_wp2_with (go_at_call 39; refine (pre_any HP.out _ hsz).mono ?_; rintro e w' ⟨rfl, rfl⟩)
        go_ret2
        exact ⟨by rw [HR.out]; rfl, hW⟩
      · obtain ⟨hd, hp⟩ := hds.2 (by omega)
        obtain ⟨f', hf', hst⟩ := textF_step hlt hf (by omega)
        have hin2 := hin (by omega)
        have HY := Lib.hid (pre_yes hlt (show sizeB s k ≠ 0 by omega))
        rw [hd] at hnx
        rw [hz] at hin2 hf' hst hp
        obtain ⟨c, hc⟩ : ∃ c, runeB s k (sizeB s k) = c := ⟨_, rfl⟩
        rw [hc] at hnx HY
        rw [hz] at hc hnx
        rw [hc] at hp
        simp only [Int.toNat_of_nonneg hp] at hnx
        have HSt := Lib.hid (hst.symm.trans HT2.out)
        clear hds hin hz hst hd hc
        by_cases h65 : c = 65533
        · have HP := Lib.hid (HY.out h65)
          subst h65
          go_wp2_with (go_at_call 39; refine (pre_any HP.out _ hsz).mono ?_; rintro e w' ⟨rfl, rfl⟩)
          go_roundw
          case rel => exact ⟨k + z, f', by omega, by omega, HSt.out, rfl⟩
          case measure => simp; omega
        · have h6 : (c == 65533) = false := by simp [h65]
          go_wp2_with fail
          go_roundw
          case rel => exact ⟨k + z, f', by omega, by omega, HSt.out, rfl⟩
          case measure => simp; omega
    · have hnx := fun ty => run_next_end (P := Tryd.prog) w s k ty hlt
      have HR := Lib.hid (HT2.out.symm.trans (textF_end hlt))
      have hW := Below.alloc (Below.refl w.heap.size w) (Nat.le_refl _) (.stringIter s k)
      go_wp2_with fail
      go_ret2
      exact ⟨by rw [HR.out]; rfl, hW⟩
end Go.Proofs.YtildplbdhnodjaaDoor
