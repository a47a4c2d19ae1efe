import Derived.Test.YtamakeogaipdiaaJA03
/- The document's answers for package read: what stands at a place; attributes. -/
namespace Go.Proofs.Ytamakeogaipdiaa
open Go.RowKit
set_option linter.unusedVariables false
set_option linter.unusedSimpArgs false
theorem rsign_any (toks : List Tok) (A : Option Addr) (n c' : Nat) (i : Nat) (c : Int) (w : World) (hR : Rows 4 encT w A n toks) (hi : i ≤ 10000000) : Calls Try.prog 57 #[.slice A n c', .int .i64 i, .int .i32 c] w fun e w' => e = .returned (.bool (sgB toks i c)) ∧ w = w' := by
  have hn := hR.2.1
  have hlen := hR.1
  by_cases h : i < n
  · obtain ⟨b, off, x, y, u, v, rfl, hbl, hx, c0, c1, c2, c3⟩ := toks_at hR h
    have h2 : (i : Int) < (n : Int) := by omega
    have hv : sgB toks i c = (x == 1 && y == c) := by unfold sgB; rw [hx]
    have HV := Lib.hid hv
    clear hv hx hR
    by_cases hk : x = 1
    · have hk2 : (x == 1) = true := by simp [hk]
      go_enter Try.func57, Try.ntmps57
      go_wp2
      go_ret
      exact ⟨ret_bool (by rw [HV.out, hk2]; simp), rfl⟩
    · have hk2 : (x == 1) = false := by simp [hk]
      go_enter Try.func57, Try.ntmps57
      go_wp2
      go_ret
      exact ⟨ret_bool (by rw [HV.out, hk2]; simp), rfl⟩
  · have h2 : (n : Int) ≤ (i : Int) := by omega
    have hv : sgB toks i c = false := by
      rcases hs : sgB toks i c with _ | _
      · rfl
      · have := sgB_lt hs; omega
    have HV := Lib.hid hv
    clear hv hR
    go_enter Try.func57, Try.ntmps57
    go_wp2
    go_ret
    exact ⟨ret_bool HV.out.symm, rfl⟩
theorem rnum_any (toks : List Tok) (A : Option Addr) (n c' : Nat) (i : Nat) (lo hi : Int) (w : World) (hR : Rows 4 encT w A n toks) (hi_ : i ≤ 10000000) : Calls Try.prog 80 #[.slice A n c', .int .i64 i, .int .i64 lo, .int .i64 hi] w fun e w' => e = .returned (.bool (nmB toks i lo hi)) ∧ w = w' := by
  have hn := hR.2.1
  have hlen := hR.1
  by_cases h : i < n
  · obtain ⟨b, off, x, y, u, v, rfl, hbl, hx, c0, c1, c2, c3⟩ := toks_at hR h
    have h2 : (i : Int) < (n : Int) := by omega
    have hv : nmB toks i lo hi = (x == 2 && decide (lo ≤ u) && decide (u ≤ hi)) := by unfold nmB; rw [hx]
    have HV := Lib.hid hv
    clear hv hx hR
    by_cases hk : x = 2
    · have hk2 : (x == 2) = true := by simp [hk]
      by_cases hl : lo ≤ u
      all_goals
        go_enter Try.func80, Try.ntmps80
        go_wp2
        go_ret
        exact ⟨ret_bool (by rw [HV.out, hk2]; simp <;> omega), rfl⟩
    · have hk2 : (x == 2) = false := by simp [hk]
      go_enter Try.func80, Try.ntmps80
      go_wp2
      go_ret
      exact ⟨ret_bool (by rw [HV.out, hk2]; simp), rfl⟩
  · have h2 : (n : Int) ≤ (i : Int) := by omega
    have hv : nmB toks i lo hi = false := by
      rcases hs : nmB toks i lo hi with _ | _
      · rfl
      · have := nmB_lt hs; omega
    have HV := Lib.hid hv
    clear hv hR
    go_enter Try.func80, Try.ntmps80
    go_wp2
    go_ret
    exact ⟨ret_bool HV.out.symm, rfl⟩
theorem rmost_any (w : World) : Calls Try.prog 82 #[] w fun e w' => e = .returned (.int .i64 1099511627776) ∧ w = w' := by
  go_enter Try.func82, Try.ntmps82
  go_wp2
  go_ret
  exact ⟨rfl, rfl⟩
theorem rletters_any (w : World) : Calls Try.prog 94 #[] w fun e w' => e = .returned (.string ⟨#[109, 110, 112, 113, 105, 111, 119, 104, 66, 65, 73, 99]⟩) ∧ w = w' := by
  go_enter Try.func94, Try.ntmps94
  go_wp2
  go_ret
  exact ⟨rfl, rfl⟩
set_option maxRecDepth 100000 in
theorem rlimits_any (c : Int) (hc : c ∈ lettersB) (w : World) : Calls Try.prog 79 #[.int .u8 c] w fun e w' => e = .returned (.tuple #[.int .i64 (limitB c).1, .int .i64 (limitB c).2]) ∧ w = w' := by
  simp only [lettersB, List.mem_cons, List.not_mem_nil, or_false] at hc
  rcases hc with rfl | rfl | rfl | rfl | rfl | rfl | rfl | rfl | rfl | rfl | rfl | rfl
  all_goals
    go_enter Try.func79, Try.ntmps79
    go_wp2_with (go_at_call 82; refine (rmost_any _).mono ?_; rintro e w' ⟨rfl, rfl⟩)
    go_ret2
    exact ⟨rfl, rfl⟩
set_option maxRecDepth 100000 in
set_option maxHeartbeats 4000000 in
theorem rwith_any (s : Sty) (c : Int) (hc : c ∈ lettersB) (n : Int) (w : World) : Calls Try.prog 81 #[.agg (encS12 s).toArray, .int .u8 c, .int .i64 n] w fun e w' => e = .returned (.agg (encS12 (withB s c n)).toArray) ∧ Below w.heap.size w w' := by
  obtain ⟨s0, s1, s2, s3, s4, s5, s6, s7, s8, s9, s10, s11⟩ := s
  simp only [lettersB, List.mem_cons, List.not_mem_nil, or_false] at hc
  rcases hc with rfl | rfl | rfl | rfl | rfl | rfl | rfl | rfl | rfl | rfl | rfl | rfl
  all_goals
    simp only [encS12]
    go_enter Try.func81, Try.ntmps81
    go_wp2_with fail
    refine bodyPost_ret (v := .agg (encS12 (withB ⟨s0, s1, s2, s3, s4, s5, s6, s7, s8, s9, s10, s11⟩ _ n)).toArray) (by simp [results, Try.results81, go_sem, withB, encS12]) rfl ⟨rfl, by go_grown⟩
end Go.Proofs.Ytamakeogaipdiaa
