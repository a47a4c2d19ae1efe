import Derived.Test.YtgcofbakfjlkfaaUnit
/- Package unit's rows: Add, Least, Greatest, and the document's. -/
namespace Go.Proofs.Ytgcofbakfjlkfaa
open Go.RowKit
set_option linter.unusedVariables false
set_option linter.unusedSimpArgs false
set_option maxHeartbeats 400000 in
theorem add_any (A : Option Addr) (n c : Nat) (zs : List Int) (w : World) (hz : Ints w A n zs) :
    Calls Try.prog 14 #[.slice A n c] w fun e w' => e = .returned (.int .i64 (sumL zs)) ∧ w = w' := by
  have hn := hz.2.1
  have HL := Lib.hid hz.1
  have HZ := Lib.hid hz
  clear hz
  go_enter Try.func14, Try.ntmps14
  go_wp2
  go_loop [3, 8] (fun s i => ∃ k : Nat, k ≤ n ∧ i = .int .i64 k ∧ s = .int .i64 (sumL (zs.take k))) (fun _ i => n - (intOf i).toNat)
  case atStart => exact ⟨0, by omega, rfl, rfl⟩
  case round =>
    obtain ⟨k, hk, rfl, rfl⟩ := hrel
    have hs := sumL_bd (zs.take k)
    by_cases hlt : k < n
    · have hl := lim_bd (zs[k]?.getD 0)
      have HT := Lib.hid (take_snoc_getD zs k (by rw [HL.out]; exact hlt))
      obtain ⟨b, off, rfl, hc⟩ := HZ.out.at_ hlt
      go_wp2_with (go_at_call 11; refine (clamp_any _ _).mono ?_; rintro e w' ⟨rfl, rfl⟩)
      go_round
      case rel => exact ⟨k + 1, by omega, by go_num, by rw [HT.out, sumL_snoc]⟩
      case measure => simp [intOf]; omega
    · go_wp2_with fail
      go_ret
      exact ⟨ret_int (by rw [List.take_of_length_le (by rw [HL.out]; omega)]), rfl⟩
set_option maxHeartbeats 400000 in
theorem radd_any (A : Option Addr) (n c : Nat) (zs : List Int) (w : World) (hz : Ints w A n zs) :
    Calls Try.prog 15 #[.slice A n c] w fun e w' => e = .returned (.int .i64 (sumL zs)) ∧ w = w' := by
  have hn := hz.2.1
  have HL := Lib.hid hz.1
  have HZ := Lib.hid hz
  clear hz
  go_enter Try.func15, Try.ntmps15
  go_wp2
  go_loop [3, 4] (fun s i => ∃ k : Nat, k ≤ n ∧ i = .int .i64 k ∧ s = .int .i64 (sumL (zs.take k))) (fun _ i => n - (intOf i).toNat)
  case atStart => exact ⟨0, by omega, rfl, rfl⟩
  case round =>
    obtain ⟨k, hk, rfl, rfl⟩ := hrel
    have hs := sumL_bd (zs.take k)
    by_cases hlt : k < n
    · have hl := lim_bd (zs[k]?.getD 0)
      have HT := Lib.hid (take_snoc_getD zs k (by rw [HL.out]; exact hlt))
      obtain ⟨b, off, rfl, hc⟩ := HZ.out.at_ hlt
      go_wp2_with (go_at_call 12; refine (rclamp_any _ _).mono ?_; rintro e w' ⟨rfl, rfl⟩)
      go_round
      case rel => exact ⟨k + 1, by omega, by go_num, by rw [HT.out, sumL_snoc]⟩
      case measure => simp [intOf]; omega
    · go_wp2_with fail
      go_ret
      exact ⟨ret_int (by rw [List.take_of_length_le (by rw [HL.out]; omega)]), rfl⟩
theorem less_any (a b : Int) (w : World) : Calls Try.prog 27 #[.int .i64 a, .int .i64 b] w fun e w' => e = .returned (.bool (decide (a < b))) ∧ w = w' := by
  go_enter Try.func27, Try.ntmps27
  go_wp2
  go_ret
  exact ⟨rfl, rfl⟩
theorem more_any (a b : Int) (w : World) : Calls Try.prog 28 #[.int .i64 a, .int .i64 b] w fun e w' => e = .returned (.bool (decide (b < a))) ∧ w = w' := by
  go_enter Try.func28, Try.ntmps28
  go_wp2
  go_ret
  exact ⟨rfl, rfl⟩
set_option maxHeartbeats 400000 in
theorem first_least (A : Option Addr) (n c : Nat) (zs : List Int) (w : World) (hz : Ints w A n zs) :
    Calls Try.prog 26 #[.slice A n c, .func (.func 27) #[] #[]] w fun e w' => e = .returned (.int .i64 (leastL zs)) ∧ w = w' := by
  have hn := hz.2.1
  have HL := Lib.hid hz.1
  have HZ := Lib.hid hz
  clear hz
  go_enter Try.func26, Try.ntmps26
  go_wp2
  go_loop [5, 10] (fun s i => ∃ k : Nat, k ≤ n ∧ i = .int .i64 k ∧ s = .int .i64 (leastL (zs.take k))) (fun _ i => n - (intOf i).toNat)
  case atStart => exact ⟨0, by omega, rfl, rfl⟩
  case round =>
    obtain ⟨k, hk, rfl, rfl⟩ := hrel
    by_cases hlt : k < n
    · have hkl : k < zs.length := by rw [HL.out]; exact hlt
      have HT := Lib.hid (take_snoc_getD zs k hkl)
      have HE : Hid (zs.take k = [] ↔ k = 0) := Lib.hid (by
        constructor
        · intro h; have := congrArg List.length h; simp at this; rcases this with h | h
          · exact h
          · subst h; simp at hkl
        · rintro rfl; rfl)
      clear hkl
      obtain ⟨b, off, rfl, hc⟩ := HZ.out.at_ hlt
      by_cases h0 : k = 0
      · have hb : ((k : Int) == 0) = true := by simpa using h0
        have H0 := Lib.hid h0
        clear h0
        go_wp2_with (go_at_call 27; refine (less_any _ _ _).mono ?_; rintro e w' ⟨rfl, rfl⟩)
        go_round
        case rel => exact ⟨k + 1, by omega, by go_num, by rw [HT.out, leastL_snoc, if_pos (.inl (HE.out.2 H0.out))]⟩
        case measure => simp [intOf]; omega
      · have hb : ((k : Int) == 0) = false := by simpa using h0
        have H0 := Lib.hid h0
        clear h0
        by_cases hm : zs[k]?.getD 0 < leastL (zs.take k)
        · go_wp2_with (go_at_call 27; refine (less_any _ _ _).mono ?_; rintro e w' ⟨rfl, rfl⟩)
          go_round
          case rel => exact ⟨k + 1, by omega, by go_num, by rw [HT.out, leastL_snoc, if_pos (.inr hm)]⟩
          case measure => simp [intOf]; omega
        · go_wp2_with (go_at_call 27; refine (less_any _ _ _).mono ?_; rintro e w' ⟨rfl, rfl⟩)
          go_round
          case rel => exact ⟨k + 1, by omega, by go_num, by rw [HT.out, leastL_snoc, if_neg (fun e => e.elim (fun e => H0.out (HE.out.1 e)) (fun e => absurd e (by omega)))]⟩
          case measure => simp [intOf]; omega
    · go_wp2_with fail
      go_ret
      exact ⟨ret_int (by rw [List.take_of_length_le (by rw [HL.out]; omega)]), rfl⟩
set_option maxHeartbeats 400000 in
theorem first_greatest (A : Option Addr) (n c : Nat) (zs : List Int) (w : World) (hz : Ints w A n zs) :
    Calls Try.prog 26 #[.slice A n c, .func (.func 28) #[] #[]] w fun e w' => e = .returned (.int .i64 (greatestL zs)) ∧ w = w' := by
  have hn := hz.2.1
  have HL := Lib.hid hz.1
  have HZ := Lib.hid hz
  clear hz
  go_enter Try.func26, Try.ntmps26
  go_wp2
  go_loop [5, 10] (fun s i => ∃ k : Nat, k ≤ n ∧ i = .int .i64 k ∧ s = .int .i64 (greatestL (zs.take k))) (fun _ i => n - (intOf i).toNat)
  case atStart => exact ⟨0, by omega, rfl, rfl⟩
  case round =>
    obtain ⟨k, hk, rfl, rfl⟩ := hrel
    by_cases hlt : k < n
    · have hkl : k < zs.length := by rw [HL.out]; exact hlt
      have HT := Lib.hid (take_snoc_getD zs k hkl)
      have HE : Hid (zs.take k = [] ↔ k = 0) := Lib.hid (by
        constructor
        · intro h; have := congrArg List.length h; simp at this; rcases this with h | h
          · exact h
          · subst h; simp at hkl
        · rintro rfl; rfl)
      clear hkl
      obtain ⟨b, off, rfl, hc⟩ := HZ.out.at_ hlt
      by_cases h0 : k = 0
      · have hb : ((k : Int) == 0) = true := by simpa using h0
        have H0 := Lib.hid h0
        clear h0
        go_wp2_with (go_at_call 28; refine (more_any _ _ _).mono ?_; rintro e w' ⟨rfl, rfl⟩)
        go_round
        case rel => exact ⟨k + 1, by omega, by go_num, by rw [HT.out, greatestL_snoc, if_pos (.inl (HE.out.2 H0.out))]⟩
        case measure => simp [intOf]; omega
      · have hb : ((k : Int) == 0) = false := by simpa using h0
        have H0 := Lib.hid h0
        clear h0
        by_cases hm : greatestL (zs.take k) < zs[k]?.getD 0
        · go_wp2_with (go_at_call 28; refine (more_any _ _ _).mono ?_; rintro e w' ⟨rfl, rfl⟩)
          go_round
          case rel => exact ⟨k + 1, by omega, by go_num, by rw [HT.out, greatestL_snoc, if_pos (.inr hm)]⟩
          case measure => simp [intOf]; omega
        · go_wp2_with (go_at_call 28; refine (more_any _ _ _).mono ?_; rintro e w' ⟨rfl, rfl⟩)
          go_round
          case rel => exact ⟨k + 1, by omega, by go_num, by rw [HT.out, greatestL_snoc, if_neg (fun e => e.elim (fun e => H0.out (HE.out.1 e)) (fun e => absurd e (by omega)))]⟩
          case measure => simp [intOf]; omega
    · go_wp2_with fail
      go_ret
      exact ⟨ret_int (by rw [List.take_of_length_le (by rw [HL.out]; omega)]), rfl⟩
theorem least_any (A : Option Addr) (n c : Nat) (zs : List Int) (w : World) (hz : Ints w A n zs) :
    Calls Try.prog 20 #[.slice A n c] w fun e w' => e = .returned (.int .i64 (lim (leastL zs))) ∧ w = w' := by
  have HZ := Lib.hid hz
  clear hz
  go_enter Try.func20, Try.ntmps20
  go_wp2_with (first | (go_at_call 26; refine (first_least _ _ _ _ _ HZ.out).mono ?_; rintro e w' ⟨rfl, rfl⟩) | (go_at_call 11; refine (clamp_any _ _).mono ?_; rintro e w' ⟨rfl, rfl⟩))
  go_ret
  exact ⟨rfl, rfl⟩
theorem greatest_any (A : Option Addr) (n c : Nat) (zs : List Int) (w : World) (hz : Ints w A n zs) :
    Calls Try.prog 22 #[.slice A n c] w fun e w' => e = .returned (.int .i64 (lim (greatestL zs))) ∧ w = w' := by
  have HZ := Lib.hid hz
  clear hz
  go_enter Try.func22, Try.ntmps22
  go_wp2_with (first | (go_at_call 26; refine (first_greatest _ _ _ _ _ HZ.out).mono ?_; rintro e w' ⟨rfl, rfl⟩) | (go_at_call 11; refine (clamp_any _ _).mono ?_; rintro e w' ⟨rfl, rfl⟩))
  go_ret
  exact ⟨rfl, rfl⟩
set_option maxHeartbeats 400000 in
theorem rleast_any (A : Option Addr) (n c : Nat) (zs : List Int) (w : World) (hz : Ints w A n zs) :
    Calls Try.prog 21 #[.slice A n c] w fun e w' => e = .returned (.int .i64 (lim (leastL zs))) ∧ w = w' := by
  have hn := hz.2.1
  have HL := Lib.hid hz.1
  have HZ := Lib.hid hz
  clear hz
  go_enter Try.func21, Try.ntmps21
  go_wp2
  go_loop [3, 4] (fun s i => ∃ k : Nat, k ≤ n ∧ i = .int .i64 k ∧ s = .int .i64 (leastL (zs.take k))) (fun _ i => n - (intOf i).toNat)
  case atStart => exact ⟨0, by omega, rfl, rfl⟩
  case round =>
    obtain ⟨k, hk, rfl, rfl⟩ := hrel
    by_cases hlt : k < n
    · have hkl : k < zs.length := by rw [HL.out]; exact hlt
      have HT := Lib.hid (take_snoc_getD zs k hkl)
      have HE : Hid (zs.take k = [] ↔ k = 0) := Lib.hid (by
        constructor
        · intro h; have := congrArg List.length h; simp at this; rcases this with h | h
          · exact h
          · subst h; simp at hkl
        · rintro rfl; rfl)
      clear hkl
      obtain ⟨b, off, rfl, hc⟩ := HZ.out.at_ hlt
      by_cases h0 : k = 0
      · have hb : ((k : Int) == 0) = true := by simpa using h0
        have H0 := Lib.hid h0
        clear h0
        go_wp2_with fail
        go_round
        case rel => exact ⟨k + 1, by omega, by go_num, by rw [HT.out, leastL_snoc, if_pos (.inl (HE.out.2 H0.out))]⟩
        case measure => simp [intOf]; omega
      · have hb : ((k : Int) == 0) = false := by simpa using h0
        have H0 := Lib.hid h0
        clear h0
        by_cases hm : zs[k]?.getD 0 < leastL (zs.take k)
        · go_wp2_with fail
          go_round
          case rel => exact ⟨k + 1, by omega, by go_num, by rw [HT.out, leastL_snoc, if_pos (.inr hm)]⟩
          case measure => simp [intOf]; omega
        · go_wp2_with fail
          go_round
          case rel => exact ⟨k + 1, by omega, by go_num, by rw [HT.out, leastL_snoc, if_neg (fun e => e.elim (fun e => H0.out (HE.out.1 e)) (fun e => absurd e (by omega)))]⟩
          case measure => simp [intOf]; omega
    · go_wp2_with (go_at_call 12; refine (rclamp_any _ _).mono ?_; rintro e w' ⟨rfl, rfl⟩)
      go_ret
      exact ⟨ret_int (by rw [List.take_of_length_le (by rw [HL.out]; omega)]), rfl⟩
set_option maxHeartbeats 400000 in
theorem rgreatest_any (A : Option Addr) (n c : Nat) (zs : List Int) (w : World) (hz : Ints w A n zs) :
    Calls Try.prog 23 #[.slice A n c] w fun e w' => e = .returned (.int .i64 (lim (greatestL zs))) ∧ w = w' := by
  have hn := hz.2.1
  have HL := Lib.hid hz.1
  have HZ := Lib.hid hz
  clear hz
  go_enter Try.func23, Try.ntmps23
  go_wp2
  go_loop [3, 4] (fun s i => ∃ k : Nat, k ≤ n ∧ i = .int .i64 k ∧ s = .int .i64 (greatestL (zs.take k))) (fun _ i => n - (intOf i).toNat)
  case atStart => exact ⟨0, by omega, rfl, rfl⟩
  case round =>
    obtain ⟨k, hk, rfl, rfl⟩ := hrel
    by_cases hlt : k < n
    · have hkl : k < zs.length := by rw [HL.out]; exact hlt
      have HT := Lib.hid (take_snoc_getD zs k hkl)
      have HE : Hid (zs.take k = [] ↔ k = 0) := Lib.hid (by
        constructor
        · intro h; have := congrArg List.length h; simp at this; rcases this with h | h
          · exact h
          · subst h; simp at hkl
        · rintro rfl; rfl)
      clear hkl
      obtain ⟨b, off, rfl, hc⟩ := HZ.out.at_ hlt
      by_cases h0 : k = 0
      · have hb : ((k : Int) == 0) = true := by simpa using h0
        have H0 := Lib.hid h0
        clear h0
        go_wp2_with fail
        go_round
        case rel => exact ⟨k + 1, by omega, by go_num, by rw [HT.out, greatestL_snoc, if_pos (.inl (HE.out.2 H0.out))]⟩
        case measure => simp [intOf]; omega
      · have hb : ((k : Int) == 0) = false := by simpa using h0
        have H0 := Lib.hid h0
        clear h0
        by_cases hm : greatestL (zs.take k) < zs[k]?.getD 0
        · go_wp2_with fail
          go_round
          case rel => exact ⟨k + 1, by omega, by go_num, by rw [HT.out, greatestL_snoc, if_pos (.inr hm)]⟩
          case measure => simp [intOf]; omega
        · go_wp2_with fail
          go_round
          case rel => exact ⟨k + 1, by omega, by go_num, by rw [HT.out, greatestL_snoc, if_neg (fun e => e.elim (fun e => H0.out (HE.out.1 e)) (fun e => absurd e (by omega)))]⟩
          case measure => simp [intOf]; omega
    · go_wp2_with (go_at_call 12; refine (rclamp_any _ _).mono ?_; rintro e w' ⟨rfl, rfl⟩)
      go_ret
      exact ⟨ret_int (by rw [List.take_of_length_le (by rw [HL.out]; omega)]), rfl⟩
end Go.Proofs.Ytgcofbakfjlkfaa
