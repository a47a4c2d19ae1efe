import Derived.Test.YtnipifccalalhaaDoorWords
import Derived.Test.YtnipifccalalhaaDoorRows
import Derived.Test.YtnipifccalalhaaDoorLexMath
/- The document's answers for package lex: one byte, and the size of a character. -/
namespace Go.Proofs.YtnipifccalalhaaDoor
open Go.RowKit
set_option linter.unusedVariables false
set_option linter.unusedSimpArgs false
theorem in_any (s : ByteArray) (k : Nat) (a b : Int) (w : World) (hk : k ≤ 1000000) (hs : s.size ≤ 1000000) : Calls Tryd.prog 20 #[.string s, .int .i64 k, .int .u8 a, .int .u8 b] w fun e w' => e = .returned (.bool (inB s k a b)) ∧ w = w' := by
  by_cases h1 : k < s.size
  · have hb := bAt_get s k h1
    have h2 : (k : Int) < (s.size : Int) := by omega
    by_cases h3 : a ≤ bAt s k
    all_goals
      go_enter Tryd.func20, Tryd.ntmps20
      go_wp2
      go_ret
      exact ⟨ret_bool (by rw [inB_at h1]; first | (simp [h3]; done) | (rw [decide_eq_false (show ¬ a ≤ bAt s k by omega)]; rfl)), rfl⟩
  · have h2 : (s.size : Int) ≤ (k : Int) := by omega
    go_enter Tryd.func20, Tryd.ntmps20
    go_wp2
    go_ret
    exact ⟨ret_bool (inB_ge h1 a b).symm, rfl⟩
theorem in_at {s : ByteArray} {x : Int} {k : Nat} (hx : x = (k : Int)) (a b : Int) (w : World) (hk : k ≤ 1000000) (hs : s.size ≤ 1000000) : Calls Tryd.prog 20 #[.string s, .int .i64 x, .int .u8 a, .int .u8 b] w fun e w' => e = .returned (.bool (inB s k a b)) ∧ w = w' := by
  subst hx; exact in_any s k a b w hk hs
theorem more_any (s : ByteArray) (k n : Nat) (w : World) (hk : k ≤ 900000) (hn : n ≤ 3) (hs : s.size ≤ 1000000) : Calls Tryd.prog 27 #[.string s, .int .i64 k, .int .i64 n] w fun e w' => e = .returned (.bool (moreB s k n)) ∧ w = w' := by
  go_enter Tryd.func27, Tryd.ntmps27
  go_wp2_with fail
  go_loopw [7] (fun i wr => ∃ j : Nat, j ≤ n ∧ i = .int .i64 j ∧ moreB s k j = true ∧ wr = w) (fun i _ => n - (intOf i).toNat)
  case atStart => exact ⟨0, by omega, rfl, rfl, rfl⟩
  case round =>
    obtain ⟨j, hj, rfl, hm, rfl⟩ := hrel
    have HM := Lib.hid hm
    clear hm
    by_cases hlt : j < n
    · obtain ⟨v, hv⟩ : ∃ v, inB s (k + j) 128 191 = v := ⟨_, rfl⟩
      cases v
      · have HN := Lib.hid (moreB_no (i := k) hlt hv)
        go_wp2_with (go_at_call 20; refine (in_at (k := k + j) (by omega) _ _ _ (by omega) hs).mono ?_; rintro e w' ⟨rfl, rfl⟩)
        go_ret
        exact ⟨ret_bool HN.out.symm, rfl⟩
      · have HN := Lib.hid (show moreB s k (j + 1) = true by show (moreB s k j && inB s (k + j) 128 191) = true; rw [HM.out, hv]; rfl)
        go_wp2_with (go_at_call 20; refine (in_at (k := k + j) (by omega) _ _ _ (by omega) hs).mono ?_; rintro e w' ⟨rfl, rfl⟩)
        go_roundw
        case rel => exact ⟨j + 1, by omega, by go_num, HN.out, by first | rfl | trivial⟩
        case measure => simp [intOf]; omega
    · obtain rfl : j = n := by omega
      go_wp2_with fail
      go_ret
      exact ⟨ret_bool HM.out.symm, rfl⟩
theorem more_at {s : ByteArray} {x y : Int} {k n : Nat} (hx : x = (k : Int)) (hy : y = (n : Int)) (w : World) (hk : k ≤ 900000) (hn : n ≤ 3) (hs : s.size ≤ 1000000) : Calls Tryd.prog 27 #[.string s, .int .i64 x, .int .i64 y] w fun e w' => e = .returned (.bool (moreB s k n)) ∧ w = w' := by
  subst hx hy; exact more_any s k n w hk hn hs
theorem in_k1 (s : ByteArray) (k : Nat) (a b : Int) (w : World) (hk : k ≤ 800000) (hs : s.size ≤ 1000000) : Calls Tryd.prog 20 #[.string s, .int .i64 ((k : Int) + 1), .int .u8 a, .int .u8 b] w fun e w' => e = .returned (.bool (inB s (k + 1) a b)) ∧ w = w' := in_at (by omega) a b w (by omega) hs
theorem more_k1_1 (s : ByteArray) (k : Nat) (w : World) (hk : k ≤ 800000) (hs : s.size ≤ 1000000) : Calls Tryd.prog 27 #[.string s, .int .i64 ((k : Int) + 1), .int .i64 1] w fun e w' => e = .returned (.bool (moreB s (k + 1) 1)) ∧ w = w' := more_at (by omega) (by omega) w (by omega) (by omega) hs
theorem more_k1_2 (s : ByteArray) (k : Nat) (w : World) (hk : k ≤ 800000) (hs : s.size ≤ 1000000) : Calls Tryd.prog 27 #[.string s, .int .i64 ((k : Int) + 1), .int .i64 2] w fun e w' => e = .returned (.bool (moreB s (k + 1) 2)) ∧ w = w' := more_at (by omega) (by omega) w (by omega) (by omega) hs
theorem more_k1_3 (s : ByteArray) (k : Nat) (w : World) (hk : k ≤ 800000) (hs : s.size ≤ 1000000) : Calls Tryd.prog 27 #[.string s, .int .i64 ((k : Int) + 1), .int .i64 3] w fun e w' => e = .returned (.bool (moreB s (k + 1) 3)) ∧ w = w' := more_at (by omega) (by omega) w (by omega) (by omega) hs
theorem more_k2_1 (s : ByteArray) (k : Nat) (w : World) (hk : k ≤ 800000) (hs : s.size ≤ 1000000) : Calls Tryd.prog 27 #[.string s, .int .i64 ((k : Int) + 2), .int .i64 1] w fun e w' => e = .returned (.bool (moreB s (k + 2) 1)) ∧ w = w' := more_at (by omega) (by omega) w (by omega) (by omega) hs
theorem more_k2_2 (s : ByteArray) (k : Nat) (w : World) (hk : k ≤ 800000) (hs : s.size ≤ 1000000) : Calls Tryd.prog 27 #[.string s, .int .i64 ((k : Int) + 2), .int .i64 2] w fun e w' => e = .returned (.bool (moreB s (k + 2) 2)) ∧ w = w' := more_at (by omega) (by omega) w (by omega) (by omega) hs
theorem more_k2_3 (s : ByteArray) (k : Nat) (w : World) (hk : k ≤ 800000) (hs : s.size ≤ 1000000) : Calls Tryd.prog 27 #[.string s, .int .i64 ((k : Int) + 2), .int .i64 3] w fun e w' => e = .returned (.bool (moreB s (k + 2) 3)) ∧ w = w' := more_at (by omega) (by omega) w (by omega) (by omega) hs
end Go.Proofs.YtnipifccalalhaaDoor
