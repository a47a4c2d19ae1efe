import Derived.Test.YtamakeogaipdiaaJA03
/- The document's answers for package valid: one node's numbers. (Written by program: tools/drafts/genone.py.) -/
namespace Go.Proofs.Ytamakeogaipdiaa
open Go.RowKit
set_option linter.unusedVariables false
set_option linter.unusedSimpArgs false
theorem vfrom_any (n lo hi : Int) (w : World) : Calls Try.prog 64 #[.int .i64 n, .int .i64 lo, .int .i64 hi] w fun e w' => e = .returned (.bool (fromB n lo hi)) ∧ w = w' := by
  by_cases h : lo ≤ n
  all_goals
    go_enter Try.func64, Try.ntmps64
    go_wp2_with fail
    go_ret
    refine ⟨ret_bool ?_, rfl⟩
    rw [Bool.eq_iff_iff]
    simp [fromB] <;> omega
theorem vfrom_to {n lo hi : Int} {v : Bool} (hv : fromB n lo hi = v) (w : World) : Calls Try.prog 64 #[.int .i64 n, .int .i64 lo, .int .i64 hi] w fun e w' => e = .returned (.bool v) ∧ w = w' := by
  subst hv; exact vfrom_any n lo hi w
set_option maxHeartbeats 8000000 in
set_option maxRecDepth 100000 in
theorem vblock_any (s : Sty) (w : World) : Calls Try.prog 63 #[.agg (encS12 s).toArray] w fun e w' => e = .returned (.bool (styOkB s)) ∧ Below w.heap.size w w' := by
  show Calls Try.prog 63 #[.agg #[.int .i64 s.top, .int .i64 s.bottom, .int .i64 s.padTop, .int .i64 s.padBottom, .int .i64 s.inset, .int .i64 s.orphans, .int .i64 s.widows, .int .i64 s.head, .int .i64 s.before, .int .i64 s.after, .int .i64 s.inside, .int .i64 s.clear]] w _
  obtain ⟨v0, hv0⟩ : ∃ v, fromB s.top 0 1099511627776 = v := ⟨_, rfl⟩
  have HV0 := Lib.hid hv0
  obtain ⟨v1, hv1⟩ : ∃ v, fromB s.bottom 0 1099511627776 = v := ⟨_, rfl⟩
  have HV1 := Lib.hid hv1
  obtain ⟨v2, hv2⟩ : ∃ v, fromB s.padTop 0 1099511627776 = v := ⟨_, rfl⟩
  have HV2 := Lib.hid hv2
  obtain ⟨v3, hv3⟩ : ∃ v, fromB s.padBottom 0 1099511627776 = v := ⟨_, rfl⟩
  have HV3 := Lib.hid hv3
  obtain ⟨v4, hv4⟩ : ∃ v, fromB s.inset 0 1099511627776 = v := ⟨_, rfl⟩
  have HV4 := Lib.hid hv4
  obtain ⟨v5, hv5⟩ : ∃ v, fromB s.orphans 1 1099511627776 = v := ⟨_, rfl⟩
  have HV5 := Lib.hid hv5
  obtain ⟨v6, hv6⟩ : ∃ v, fromB s.widows 1 1099511627776 = v := ⟨_, rfl⟩
  have HV6 := Lib.hid hv6
  obtain ⟨v7, hv7⟩ : ∃ v, fromB s.head 0 1099511627776 = v := ⟨_, rfl⟩
  have HV7 := Lib.hid hv7
  obtain ⟨v8, hv8⟩ : ∃ v, fromB s.before 0 4 = v := ⟨_, rfl⟩
  have HV8 := Lib.hid hv8
  obtain ⟨v9, hv9⟩ : ∃ v, fromB s.after 0 4 = v := ⟨_, rfl⟩
  have HV9 := Lib.hid hv9
  obtain ⟨v10, hv10⟩ : ∃ v, fromB s.inside 0 1 = v := ⟨_, rfl⟩
  have HV10 := Lib.hid hv10
  obtain ⟨v11, hv11⟩ : ∃ v, fromB s.clear 0 3 = v := ⟨_, rfl⟩
  have HV11 := Lib.hid hv11
  have HB := Lib.hid (show styOkB s = (v0 && v1 && v2 && v3 && v4 && v5 && v6 && v7 && v8 && v9 && v10 && v11) by unfold styOkB maxN; rw [hv0, hv1, hv2, hv3, hv4, hv5, hv6, hv7, hv8, hv9, hv10, hv11])
  clear hv0 hv1 hv2 hv3 hv4 hv5 hv6 hv7 hv8 hv9 hv10 hv11
  go_enter Try.func63, Try.ntmps63
  go_wp2_with fail
  refine (vfrom_to HV0.out _).mono ?_
  rintro e w' ⟨rfl, rfl⟩
  cases v0 with
  | false =>
    go_wp2_with fail
    go_ret
    exact ⟨ret_bool (by rw [HB.out]; rfl), by go_grown⟩
  | true =>
  go_wp2_with fail
  refine (vfrom_to HV1.out _).mono ?_
  rintro e w' ⟨rfl, rfl⟩
  cases v1 with
  | false =>
    go_wp2_with fail
    go_ret
    exact ⟨ret_bool (by rw [HB.out]; rfl), by go_grown⟩
  | true =>
  go_wp2_with fail
  refine (vfrom_to HV2.out _).mono ?_
  rintro e w' ⟨rfl, rfl⟩
  cases v2 with
  | false =>
    go_wp2_with fail
    go_ret
    exact ⟨ret_bool (by rw [HB.out]; rfl), by go_grown⟩
  | true =>
  go_wp2_with fail
  refine (vfrom_to HV3.out _).mono ?_
  rintro e w' ⟨rfl, rfl⟩
  cases v3 with
  | false =>
    go_wp2_with fail
    go_ret
    exact ⟨ret_bool (by rw [HB.out]; rfl), by go_grown⟩
  | true =>
  go_wp2_with fail
  refine (vfrom_to HV4.out _).mono ?_
  rintro e w' ⟨rfl, rfl⟩
  cases v4 with
  | false =>
    go_wp2_with fail
    go_ret
    exact ⟨ret_bool (by rw [HB.out]; rfl), by go_grown⟩
  | true =>
  go_wp2_with fail
  refine (vfrom_to HV5.out _).mono ?_
  rintro e w' ⟨rfl, rfl⟩
  cases v5 with
  | false =>
    go_wp2_with fail
    go_ret
    exact ⟨ret_bool (by rw [HB.out]; rfl), by go_grown⟩
  | true =>
  go_wp2_with fail
  refine (vfrom_to HV6.out _).mono ?_
  rintro e w' ⟨rfl, rfl⟩
  cases v6 with
  | false =>
    go_wp2_with fail
    go_ret
    exact ⟨ret_bool (by rw [HB.out]; rfl), by go_grown⟩
  | true =>
  go_wp2_with fail
  refine (vfrom_to HV7.out _).mono ?_
  rintro e w' ⟨rfl, rfl⟩
  cases v7 with
  | false =>
    go_wp2_with fail
    go_ret
    exact ⟨ret_bool (by rw [HB.out]; rfl), by go_grown⟩
  | true =>
  go_wp2_with fail
  refine (vfrom_to HV8.out _).mono ?_
  rintro e w' ⟨rfl, rfl⟩
  cases v8 with
  | false =>
    go_wp2_with fail
    go_ret
    exact ⟨ret_bool (by rw [HB.out]; rfl), by go_grown⟩
  | true =>
  go_wp2_with fail
  refine (vfrom_to HV9.out _).mono ?_
  rintro e w' ⟨rfl, rfl⟩
  cases v9 with
  | false =>
    go_wp2_with fail
    go_ret
    exact ⟨ret_bool (by rw [HB.out]; rfl), by go_grown⟩
  | true =>
  go_wp2_with fail
  refine (vfrom_to HV10.out _).mono ?_
  rintro e w' ⟨rfl, rfl⟩
  cases v10 with
  | false =>
    go_wp2_with fail
    go_ret
    exact ⟨ret_bool (by rw [HB.out]; rfl), by go_grown⟩
  | true =>
  go_wp2_with fail
  refine (vfrom_to HV11.out _).mono ?_
  rintro e w' ⟨rfl, rfl⟩
  go_wp2_with fail
  go_ret
  exact ⟨ret_bool (by rw [HB.out]; rfl), by go_grown⟩
theorem vblock_to {s : Sty} {v : Bool} (hv : styOkB s = v) (w : World) : Calls Try.prog 63 #[.agg (encS12 s).toArray] w fun e w' => e = .returned (.bool v) ∧ Below w.heap.size w w' := by
  subst hv; exact vblock_any s w
end Go.Proofs.Ytamakeogaipdiaa
