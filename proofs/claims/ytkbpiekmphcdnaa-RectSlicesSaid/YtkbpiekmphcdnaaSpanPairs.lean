import Derived.Test.YtkbpiekmphcdnaaSpanLaws
import Derived.Test.YtkbpiekmphcdnaaOn
/- The walk of the law SpanPairs. -/
namespace Go.Proofs.Ytkbpiekmphcdnaa
open Go.RowKit
set_option linter.unusedVariables false
set_option linter.unusedSimpArgs false
def Near (n : Int) : Prop := -2305843009213693952 ≤ n ∧ n ≤ 2305843009213693952
instance (n : Int) : Decidable (Near n) := inferInstanceAs (Decidable (_ ∧ _))
theorem near_yes (a b : Int) (w : World) (h1 : Near a) (h2 : Near b) : Calls Try.prog 10 #[.agg #[.int .i64 a, .int .i64 b]] w fun e w' => e = .returned (.bool true) ∧ Below w.heap.size w w' := by
  obtain ⟨h1, h3⟩ := h1
  obtain ⟨h2, h4⟩ := h2
  go_enter Try.func10, Try.ntmps10
  go_wp2
  go_ret
  exact ⟨rfl, by go_grown⟩
theorem near_no (a b : Int) (w : World) (h : ¬ (Near a ∧ Near b)) : Calls Try.prog 10 #[.agg #[.int .i64 a, .int .i64 b]] w fun e w' => e = .returned (.bool false) ∧ Below w.heap.size w w' := by
  unfold Near at h
  rcases (show a < -2305843009213693952 ∨ (-2305843009213693952 ≤ a ∧ 2305843009213693952 < a) ∨ (-2305843009213693952 ≤ a ∧ a ≤ 2305843009213693952 ∧ b < -2305843009213693952) ∨ (-2305843009213693952 ≤ a ∧ a ≤ 2305843009213693952 ∧ -2305843009213693952 ≤ b ∧ 2305843009213693952 < b) by omega) with h1 | ⟨h1, h2⟩ | ⟨h1, h2, h3⟩ | ⟨h1, h2, h3, h4⟩
  all_goals
    clear h
    go_enter Try.func10, Try.ntmps10
    go_wp2
    go_ret
    exact ⟨ret_bool (by simp <;> omega), by go_grown⟩
theorem apart_to {a b c d : Int} {v : Bool} (h : decide (meetS (a, b) (c, d) = (0, 0)) = v) (w : World) : Calls Try.prog 16 #[.agg #[.int .i64 a, .int .i64 b], .agg #[.int .i64 c, .int .i64 d]] w fun e w' => e = .returned (.bool v) ∧ Below w.heap.size w w' := by
  subst h; exact apart_any _ _ _ _ _
theorem withinv {a b c d : Int} {v : Bool} (h : decide (meetS (a, b) (c, d) = tidyS (a, b)) = v) (w : World) : Calls Try.prog 18 #[.agg #[.int .i64 a, .int .i64 b], .agg #[.int .i64 c, .int .i64 d]] w fun e w' => e = .returned (.bool v) ∧ Below w.heap.size w w' := by
  subst h; exact within_any _ _ _ _ _
theorem rmeet_v {a b c d p q : Int} (h : meetS (a, b) (c, d) = (p, q)) (w : World) : Calls Try.prog 9 #[.agg #[.int .i64 a, .int .i64 b], .agg #[.int .i64 c, .int .i64 d]] w fun e w' => e = .returned (.agg #[.int .i64 p, .int .i64 q]) ∧ Below w.heap.size w w' := by
  have := rmeet_any a b c d w
  rw [h] at this; exact this
theorem within_none {a b c d p q : Int} (h : meetS (a, b) (c, d) = (p, q)) : decide (meetS (a, b) (c, d) = tidyS (a, b)) = (decide (b ≤ a) || decide ((p, q) = (a, b))) := by
  rw [h]
  by_cases h1 : b ≤ a
  · rw [tidyS_none (s := (a, b)) h1, ← h]
    simp only [h1, decide_true, Bool.true_or, decide_eq_true_eq]
    exact meetS_n1 h1
  · rw [tidyS_some (s := (a, b)) (by show a < b; omega)]
    simp [h1]
set_option maxRecDepth 100000 in
set_option maxHeartbeats 2000000 in
theorem pairs_law (a : Int) (_ : -9223372036854775808 ≤ a ∧ a ≤ 9223372036854775807) (b : Int) (_ : -9223372036854775808 ≤ b ∧ b ≤ 9223372036854775807) (c : Int) (_ : -9223372036854775808 ≤ c ∧ c ≤ 9223372036854775807) (d : Int) (_ : -9223372036854775808 ≤ d ∧ d ≤ 9223372036854775807) (at_ : Int) (_ : -9223372036854775808 ≤ at_ ∧ at_ ≤ 9223372036854775807) (w : World) :
    Calls Try.prog 3 #[.agg #[.int .i64 a, .int .i64 b], .agg #[.int .i64 c, .int .i64 d], .int .i64 at_] w fun e w' => e = .returned (.bool true) ∧ Below w.heap.size w w' := by
  rcases hm : meetS (a, b) (c, d) with ⟨p, q⟩
  have HM := Lib.hid hm
  have HA := Lib.hid (show decide (meetS (a, b) (c, d) = (0, 0)) = decide (q ≤ p) from by
    rw [decide_eq_decide, ← meetS_none, hm])
  have HW := Lib.hid (within_none hm)
  clear hm
  go_enter Try.func3, Try.ntmps3
  go_wp2_with fail
  refine (rmeet_v HM.out _).mono ?_
  rintro e w1 ⟨rfl, hb⟩
  have hA := ((Box.new2 w (.int .i64 a) (.int .i64 b) 23).alloc (.cells #[.int .i64 c, .int .i64 d] 23)).below hb
  have hB := (Box.new2' (w.alloc (.cells #[.int .i64 a, .int .i64 b] 23)) (.int .i64 c) (.int .i64 d) 23 (w.heap.size + 1) (by simp)).below hb
  have HB := Lib.hid (below_then (by go_grown) hb : Below w.heap.size w w1)
  clear hb
  go_wp2_with fail
  have hC := Box.new2 w1 (.int .i64 p) (.int .i64 q) 23
  replace hA := hA.alloc (.cells #[.int .i64 p, .int .i64 q] 23)
  replace hB := hB.alloc (.cells #[.int .i64 p, .int .i64 q] 23)
  replace HB := Lib.hid (HB.out.alloc HB.out.size (.cells #[.int .i64 p, .int .i64 q] 23))
  generalize w1.alloc (.cells #[.int .i64 p, .int .i64 q] 23) = W at hA hB hC HB ⊢
  have HV : ∃ v, decide (meetS (a, b) (c, d) = tidyS (a, b)) = v ∧ ((b ≤ a ∧ v = true) ∨ (a < b ∧ (p == a) = true ∧ (q == b) = true ∧ v = true) ∨ (a < b ∧ (p == a) = false ∧ v = false) ∨ (a < b ∧ (p == a) = true ∧ (q == b) = false ∧ v = false)) := by
    refine ⟨_, HW.out, ?_⟩
    by_cases h1 : b ≤ a
    · simp [h1]
    · by_cases h2 : p = a <;> by_cases h3 : q = b <;> simp [h1, h2, h3] <;> omega
  obtain ⟨v, hv, hcase⟩ := HV
  have HV := Lib.hid hv
  clear hv
  have rest : ∀ w2, On W w2 → Box w2 w.heap.size [.int .i64 a, .int .i64 b] ∧ Box w2 (w.heap.size + 1) [.int .i64 c, .int .i64 d] ∧ Box w2 w1.heap.size [.int .i64 p, .int .i64 q] := fun w2 h => ⟨On.box hA w2 h, On.box hB w2 h, On.box hC w2 h⟩
  have REST := Lib.hid rest
  clear rest
  obtain ⟨a0, a1⟩ := OnW.of2 hA
  by_cases hN : Near a ∧ Near b
  · obtain ⟨⟨n1, n2⟩, n3, n4⟩ := hN
    refine wp_region_on (by kernel_rfl) (by kernel_rfl) ?_
    repeat (quiet_step (first
      | (go_at_call 10; exact Calls.on_of (near_yes _ _ _ ⟨n1, n2⟩ ⟨n3, n4⟩))
      | (go_at_call 11; exact Calls.on_of (len_any _ _ _ ⟨n1, n2⟩ ⟨n3, n4⟩))
      | (go_at_call 12; exact Calls.on_of (rlen_any _ _ _ ⟨n1, n2⟩ ⟨n3, n4⟩))))
    refine wpQuiet_nil ?_
    intro w2 hw'
    obtain ⟨⟨w', hOn⟩, hw''⟩ := hw'
    obtain rfl : w2 = w' := hw''
    replace HB := Lib.hid (below_then HB.out hOn)
    obtain ⟨hA2, hB2, hC2⟩ := REST.out w2 hOn
    clear hA hB hC a0 a1 hOn
    go_wp2_with fail
    obtain ⟨a0, a1⟩ := OnW.of2 hA2
    obtain ⟨b0, b1⟩ := OnW.of2 hB2
    obtain ⟨m0, m1⟩ := OnW.of2 hC2
    rcases hcase with ⟨e1, rfl⟩ | ⟨e1, e2, e3, rfl⟩ | ⟨e1, e2, rfl⟩ | ⟨e1, e2, e3, rfl⟩
    all_goals
      refine wp_region_on (by kernel_rfl) (by kernel_rfl) ?_
      repeat (quiet_step (first
        | (go_at_call 13; exact Calls.on_of (has_any _ _ _ _))
        | (go_at_call 14; exact Calls.on_of (rhas_any _ _ _ _))
        | (go_at_call 15; exact Calls.on_of (meet_to HM.out _))
        | (go_at_call 16; exact Calls.on_of (apart_to HA.out _))
        | (go_at_call 17; exact Calls.on_of (none_any _ _ _))
        | (go_at_call 18; exact Calls.on_of (withinv HV.out _))
        | (go_at_call 19; exact Calls.on_of (awake_any _))))
      refine wpQuiet_nil ?_
      intro w3 hw'
      obtain ⟨⟨w', hOn⟩, hw''⟩ := hw'
      obtain rfl : w3 = w' := hw''
      go_wp2_with fail
      go_ret
      exact ⟨ret_bool (by first | rfl | (simp; omega)), below_then HB.out hOn⟩
  · refine wp_region_on (by kernel_rfl) (by kernel_rfl) ?_
    repeat (quiet_step (first
      | (go_at_call 10; exact Calls.on_of (near_no _ _ _ hN))))
    refine wpQuiet_nil ?_
    intro w2 hw'
    obtain ⟨⟨w', hOn⟩, hw''⟩ := hw'
    obtain rfl : w2 = w' := hw''
    replace HB := Lib.hid (below_then HB.out hOn)
    obtain ⟨hA2, hB2, hC2⟩ := REST.out w2 hOn
    clear hA hB hC a0 a1 hOn
    go_wp2_with fail
    obtain ⟨a0, a1⟩ := OnW.of2 hA2
    obtain ⟨b0, b1⟩ := OnW.of2 hB2
    obtain ⟨m0, m1⟩ := OnW.of2 hC2
    rcases hcase with ⟨e1, rfl⟩ | ⟨e1, e2, e3, rfl⟩ | ⟨e1, e2, rfl⟩ | ⟨e1, e2, e3, rfl⟩
    all_goals
      refine wp_region_on (by kernel_rfl) (by kernel_rfl) ?_
      repeat (quiet_step (first
        | (go_at_call 13; exact Calls.on_of (has_any _ _ _ _))
        | (go_at_call 14; exact Calls.on_of (rhas_any _ _ _ _))
        | (go_at_call 15; exact Calls.on_of (meet_to HM.out _))
        | (go_at_call 16; exact Calls.on_of (apart_to HA.out _))
        | (go_at_call 17; exact Calls.on_of (none_any _ _ _))
        | (go_at_call 18; exact Calls.on_of (withinv HV.out _))
        | (go_at_call 19; exact Calls.on_of (awake_any _))))
      refine wpQuiet_nil ?_
      intro w3 hw'
      obtain ⟨⟨w', hOn⟩, hw''⟩ := hw'
      obtain rfl : w3 = w' := hw''
      go_wp2_with fail
      go_ret
      exact ⟨ret_bool (by first | rfl | (simp; omega)), below_then HB.out hOn⟩
end Go.Proofs.Ytkbpiekmphcdnaa
