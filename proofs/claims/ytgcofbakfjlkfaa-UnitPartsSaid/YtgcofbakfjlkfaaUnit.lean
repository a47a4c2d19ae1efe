import Derived.Test.YtgcofbakfjlkfaaRows
import Derived.Test.YtgcofbakfjlkfaaUnitMath
import Derived.Test.YtgcofbakfjlkfaaWords
import Derived.WalkKit
import Derived.ProofKit
import Derived.OpenShut
import Derived.Handy
import Derived.Lib.Hide
import Derived.Deep.QuietTactic
import Derived.BigQuiet
/- What each function of package unit answers, and each of the document's answers for it. -/
namespace Go.Proofs.Ytgcofbakfjlkfaa
open Go.RowKit
set_option linter.unusedVariables false
set_option linter.unusedSimpArgs false


theorem clamp_any (n : Int) (w : World) : Calls Try.prog 11 #[.int .i64 n] w fun e w' => e = .returned (.int .i64 (lim n)) ∧ w = w' := by
  go_enter Try.func11, Try.ntmps11
  go_wp2
  all_goals go_ret
  all_goals exact ⟨ret_int (by unfold lim; omega), rfl⟩
theorem rclamp_any (n : Int) (w : World) : Calls Try.prog 12 #[.int .i64 n] w fun e w' => e = .returned (.int .i64 (lim n)) ∧ w = w' := by
  by_cases h1 : 1099511627776 < n
  · go_enter Try.func12, Try.ntmps12
    go_wp2
    go_ret
    exact ⟨ret_int (by unfold lim; omega), rfl⟩
  · by_cases h2 : n < -1099511627776
    all_goals
      go_enter Try.func12, Try.ntmps12
      go_wp2
      go_ret
      exact ⟨ret_int (by unfold lim; omega), rfl⟩
theorem may_any (n : Int) (w : World) : Calls Try.prog 13 #[.int .i64 n] w fun e w' => e = .returned (.bool (decide (1 ≤ n) && decide (n ≤ 1099511627776))) ∧ w = w' := by
  by_cases h1 : 1 ≤ n <;> by_cases h2 : n ≤ 1099511627776
  all_goals
    go_enter Try.func13, Try.ntmps13
    go_wp2
    go_ret
    exact ⟨ret_bool (by simp [h1, h2]), rfl⟩
theorem size_any (n : Int) (w : World) (h1 : -1099511627776 ≤ n) (h2 : n ≤ 1099511627776) : Calls Try.prog 25 #[.int .i64 n] w fun e w' => e = .returned (.int .i64 (n.natAbs : Int)) ∧ w = w' := by
  go_enter Try.func25, Try.ntmps25
  go_wp2
  all_goals go_ret
  all_goals exact ⟨ret_int (by omega), rfl⟩
theorem sub_any (a b : Int) (w : World) : Calls Try.prog 16 #[.int .i64 a, .int .i64 b] w fun e w' => e = .returned (.int .i64 (lim (lim a - lim b))) ∧ w = w' := by
  have ha := lim_bd a
  have hb := lim_bd b
  go_enter Try.func16, Try.ntmps16
  go_wp2_with (go_at_call 11; refine (clamp_any _ _).mono ?_; rintro e w' ⟨rfl, rfl⟩)
  go_ret
  exact ⟨rfl, rfl⟩


theorem partsN_lo {a b : Int} (h : lim a < 0 ∨ lim b < 1) : partsN a b = 0 ∧ partsB a b = false := by
  unfold partsN partsB
  rcases h with h | h <;> simp [h]
theorem partsN_hi {a b : Int} (h1 : ¬ lim a < 0) (h2 : ¬ lim b < 1) : partsN a b = (lim a + lim b - 1) / lim b ∧ partsB a b = true := by
  unfold partsN partsB
  simp [h1, h2]
theorem parts_any (a b : Int) (w : World) : Calls Try.prog 7 #[.int .i64 a, .int .i64 b] w fun e w' => e = .returned (.tuple #[.int .i64 (partsN a b), .bool (partsB a b)]) ∧ w = w' := by
  have ha := lim_bd a
  have hb := lim_bd b
  by_cases h1 : lim a < 0
  · have HN := Lib.hid (partsN_lo (a := a) (b := b) (.inl h1))
    go_enter Try.func7, Try.ntmps7
    go_wp2_with (go_at_call 11; refine (clamp_any _ _).mono ?_; rintro e w' ⟨rfl, rfl⟩)
    go_ret2
    exact ⟨ret_ib ⟨HN.out.1.symm, HN.out.2.symm⟩, rfl⟩
  · by_cases h2 : lim b < 1
    · have HN := Lib.hid (partsN_lo (a := a) (b := b) (.inr h2))
      go_enter Try.func7, Try.ntmps7
      go_wp2_with (go_at_call 11; refine (clamp_any _ _).mono ?_; rintro e w' ⟨rfl, rfl⟩)
      go_ret2
      exact ⟨ret_ib ⟨HN.out.1.symm, HN.out.2.symm⟩, rfl⟩
    · have HN := Lib.hid (partsN_hi (a := a) (b := b) h1 h2)
      have hq := Int.ediv_le_self (lim b) (show 0 ≤ lim a + lim b - 1 by omega)
      have hq0 := Int.ediv_nonneg (show 0 ≤ lim a + lim b - 1 by omega) (show 0 ≤ lim b by omega)
      go_enter Try.func7, Try.ntmps7
      go_wp2_with (go_at_call 11; refine (clamp_any _ _).mono ?_; rintro e w' ⟨rfl, rfl⟩)
      go_ret2
      exact ⟨ret_ib ⟨HN.out.1.symm, HN.out.2.symm⟩, rfl⟩
theorem rparts_math {a b : Int} (h1 : ¬ a < 0) (h2 : ¬ b < 1) : (a / b * b < a → (a + b - 1) / b = a / b + 1) ∧ (¬ a / b * b < a → (a + b - 1) / b = a / b) := by
  have e := Int.mul_ediv_add_emod a b
  have m1 := Int.emod_nonneg a (show b ≠ 0 by omega)
  have m2 := Int.emod_lt_of_pos a (show 0 < b by omega)
  have c : b * (a / b) = a / b * b := Int.mul_comm _ _
  constructor
  · intro h
    rw [Int.ediv_eq_iff_of_pos (by omega)]
    have c2 : (a / b + 1) * b = a / b * b + b := by rw [Int.add_mul, Int.one_mul]
    omega
  · intro h
    rw [Int.ediv_eq_iff_of_pos (by omega)]
    omega
theorem rparts_any (a b : Int) (w : World) : Calls Try.prog 8 #[.int .i64 a, .int .i64 b] w fun e w' => e = .returned (.tuple #[.int .i64 (partsN a b), .bool (partsB a b)]) ∧ w = w' := by
  have ha := lim_bd a
  have hb := lim_bd b
  by_cases h1 : lim a < 0
  · have HN := Lib.hid (partsN_lo (a := a) (b := b) (.inl h1))
    go_enter Try.func8, Try.ntmps8
    go_wp2_with (go_at_call 12; refine (rclamp_any _ _).mono ?_; rintro e w' ⟨rfl, rfl⟩)
    go_ret2
    exact ⟨ret_ib ⟨HN.out.1.symm, HN.out.2.symm⟩, rfl⟩
  · by_cases h2 : lim b < 1
    · have HN := Lib.hid (partsN_lo (a := a) (b := b) (.inr h2))
      go_enter Try.func8, Try.ntmps8
      go_wp2_with (go_at_call 12; refine (rclamp_any _ _).mono ?_; rintro e w' ⟨rfl, rfl⟩)
      go_ret2
      exact ⟨ret_ib ⟨HN.out.1.symm, HN.out.2.symm⟩, rfl⟩
    · have HN := Lib.hid (partsN_hi (a := a) (b := b) h1 h2)
      have HM := Lib.hid (rparts_math h1 h2)
      have hq := Int.ediv_le_self (lim b) (show 0 ≤ lim a by omega)
      have hq0 := Int.ediv_nonneg (show 0 ≤ lim a by omega) (show 0 ≤ lim b by omega)
      have hq1 := Int.ediv_mul_le (lim a) (show lim b ≠ 0 by omega)
      have hq2 := Int.mul_nonneg hq0 (show 0 ≤ lim b by omega)
      by_cases h3 : lim a / lim b * lim b < lim a
      all_goals
        go_enter Try.func8, Try.ntmps8
        go_wp2_with (go_at_call 12; refine (rclamp_any _ _).mono ?_; rintro e w' ⟨rfl, rfl⟩)
        go_ret2
      · exact ⟨ret_ib ⟨(HM.out.1 h3).symm.trans HN.out.1.symm, HN.out.2.symm⟩, rfl⟩
      · exact ⟨ret_ib ⟨(HM.out.2 h3).symm.trans HN.out.1.symm, HN.out.2.symm⟩, rfl⟩
theorem pixels_any (n : Int) (w : World) : Calls Try.prog 9 #[.int .i64 n] w fun e w' => e = .returned (.tuple #[.int .i64 (pixW n), .int .i64 (pixR n)]) ∧ w = w' := by
  have ha := lim_bd n
  have ht := tmod64 (lim n)
  have hd1 : -1099511627776 ≤ lim n / 64 := by omega
  have hd2 : lim n / 64 ≤ 1099511627776 := by omega
  have HR := Lib.hid (tdiv64_rest (lim n))
  unfold pixW pixR
  by_cases h : (lim n).tmod 64 < 0
  · have HT := Lib.hid (tmod64_neg h)
    have hb1 : -1099511627776 ≤ (lim n - ((lim n).tmod 64 + 64)).tdiv 64 := by rw [HT.out, HR.out]; omega
    have hb2 : (lim n - ((lim n).tmod 64 + 64)).tdiv 64 ≤ 1099511627776 := by rw [HT.out, HR.out]; omega
    go_enter Try.func9, Try.ntmps9
    go_wp2_with (go_at_call 11; refine (clamp_any _ _).mono ?_; rintro e w' ⟨rfl, rfl⟩)
    go_ret2
    exact ⟨ret_ii ⟨by rw [HT.out, HR.out], HT.out⟩, rfl⟩
  · have HT := Lib.hid (tmod64_pos (show 0 ≤ (lim n).tmod 64 by omega))
    have hb1 : -1099511627776 ≤ (lim n - (lim n).tmod 64).tdiv 64 := by rw [HT.out, HR.out]; omega
    have hb2 : (lim n - (lim n).tmod 64).tdiv 64 ≤ 1099511627776 := by rw [HT.out, HR.out]; omega
    go_enter Try.func9, Try.ntmps9
    go_wp2_with (go_at_call 11; refine (clamp_any _ _).mono ?_; rintro e w' ⟨rfl, rfl⟩)
    go_ret2
    exact ⟨ret_ii ⟨by rw [HT.out, HR.out], HT.out⟩, rfl⟩
theorem rpixels_any (n : Int) (w : World) : Calls Try.prog 10 #[.int .i64 n] w fun e w' => e = .returned (.tuple #[.int .i64 (pixW n), .int .i64 (pixR n)]) ∧ w = w' := by
  have ha := lim_bd n
  have ht := tmod64 (lim n)
  unfold pixW pixR
  by_cases h : (lim n).tmod 64 < 0
  · have HT := Lib.hid (tmod64_neg h)
    have HR := Lib.hid (tdiv64_neg h)
    have hb1 : -1099511627776 ≤ (lim n).tdiv 64 := by have := HR.out; omega
    have hb2 : (lim n).tdiv 64 ≤ 1099511627776 := by have := HR.out; omega
    go_enter Try.func10, Try.ntmps10
    go_wp2_with (go_at_call 12; refine (rclamp_any _ _).mono ?_; rintro e w' ⟨rfl, rfl⟩)
    go_ret2
    exact ⟨ret_ii ⟨HR.out, HT.out⟩, rfl⟩
  · have HT := Lib.hid (tmod64_pos (show 0 ≤ (lim n).tmod 64 by omega))
    have HR := Lib.hid (tdiv64_pos (show 0 ≤ (lim n).tmod 64 by omega))
    have hb1 : -1099511627776 ≤ (lim n).tdiv 64 := by have := HR.out; omega
    have hb2 : (lim n).tdiv 64 ≤ 1099511627776 := by have := HR.out; omega
    go_enter Try.func10, Try.ntmps10
    go_wp2_with (go_at_call 12; refine (rclamp_any _ _).mono ?_; rintro e w' ⟨rfl, rfl⟩)
    go_ret2
    exact ⟨ret_ii ⟨HR.out, HT.out⟩, rfl⟩

theorem mul_lo {a n : Int} (h : lim a = 0) : mulL a n = lim a * lim n ∧ -1099511627776 ≤ lim a * lim n ∧ lim a * lim n ≤ 1099511627776 := by
  unfold mulL; rw [h, Int.zero_mul]; decide
theorem mul_mid {a n : Int} (h : ¬ lim a = 0) (h2 : ((lim n).natAbs : Int) ≤ 1099511627776 / ((lim a).natAbs : Int)) : mulL a n = lim a * lim n ∧ -1099511627776 ≤ lim a * lim n ∧ lim a * lim n ≤ 1099511627776 := by
  have := mul_fits h h2
  exact ⟨lim_in this.1 this.2, this⟩
theorem mul_hi {a n : Int} (h : ¬ lim a = 0) (h2 : ¬ ((lim n).natAbs : Int) ≤ 1099511627776 / ((lim a).natAbs : Int)) (h3 : (!(decide (lim a < 0) == decide (lim n < 0))) = true) : mulL a n = -1099511627776 := by
  have h4 := mul_over h (Int.not_le.1 h2)
  have h5 := mul_sign h4
  have h6 : ¬ (lim a < 0 ↔ lim n < 0) := by
    intro e; simp [e] at h3
  unfold mulL
  exact lim_lo (by omega)
theorem mul_hi' {a n : Int} (h : ¬ lim a = 0) (h2 : ¬ ((lim n).natAbs : Int) ≤ 1099511627776 / ((lim a).natAbs : Int)) (h3 : (!(decide (lim a < 0) == decide (lim n < 0))) = false) : mulL a n = 1099511627776 := by
  have h4 := mul_over h (Int.not_le.1 h2)
  have h5 := mul_sign h4
  have h6 : (lim a < 0 ↔ lim n < 0) := by simpa using h3
  unfold mulL
  exact lim_hi (by omega)
set_option maxHeartbeats 400000 in
theorem mul_any (a n : Int) (w : World) : Calls Try.prog 17 #[.int .i64 a, .int .i64 n] w fun e w' => e = .returned (.int .i64 (mulL a n)) ∧ w = w' := by
  have ha := lim_bd a
  have hb := lim_bd n
  by_cases h1 : lim a = 0
  · have HN := Lib.hid (mul_lo (n := n) h1)
    have hz : ((lim a) == 0) = true := by simpa using h1
    clear h1
    go_enter Try.func17, Try.ntmps17
    go_wp2_with (first | (go_at_call 11; refine (clamp_any _ _).mono ?_; rintro e w' ⟨rfl, rfl⟩) | (go_at_call 25; refine (size_any _ _ (by omega) (by omega)).mono ?_; rintro e w' ⟨rfl, rfl⟩))
    go_ret
    exact ⟨ret_int (by rw [HN.out.1]; exact IntWalk.wrap64_in _ (by have := HN.out.2; omega)), rfl⟩
  · have hz : ((lim a) == 0) = false := by simpa using h1
    have hp : 1 ≤ ((lim a).natAbs : Int) := by omega
    by_cases h2 : ((lim n).natAbs : Int) ≤ 1099511627776 / ((lim a).natAbs : Int)
    · have HN := Lib.hid (mul_mid h1 h2)
      clear h1
      go_enter Try.func17, Try.ntmps17
      go_wp2_with (first | (go_at_call 11; refine (clamp_any _ _).mono ?_; rintro e w' ⟨rfl, rfl⟩) | (go_at_call 25; refine (size_any _ _ (by omega) (by omega)).mono ?_; rintro e w' ⟨rfl, rfl⟩))
      go_ret
      exact ⟨ret_int (by rw [HN.out.1]; exact IntWalk.wrap64_in _ (by have := HN.out.2; omega)), rfl⟩
    · have HN := Lib.hid (fun h3 => mul_hi h1 h2 h3)
      have HN' := Lib.hid (fun h3 => mul_hi' h1 h2 h3)
      clear h1
      go_enter Try.func17, Try.ntmps17
      go_wp2_with (first | (go_at_call 11; refine (clamp_any _ _).mono ?_; rintro e w' ⟨rfl, rfl⟩) | (go_at_call 25; refine (size_any _ _ (by omega) (by omega)).mono ?_; rintro e w' ⟨rfl, rfl⟩))
      all_goals go_ret
      · exact ⟨ret_int (HN.out (by assumption)).symm, rfl⟩
      · exact ⟨ret_int (HN'.out (by assumption)).symm, rfl⟩
/-! the document's product, bit by bit. -/
theorem rmul_step {a n s : Int} (ha : 0 ≤ a) (ha' : a ≤ 1099511627776) (hs : 0 ≤ s) (hs' : s ≤ 1099511627776) (hn : 0 < n) :
    lim (lim (2 * a) * (n / 2) + (if n % 2 = 1 then lim (s + a) else s)) = lim (a * n + s) := by
  have hk : 0 ≤ n / 2 := by omega
  have e : a * n = 2 * a * (n / 2) + a * (n % 2) := by
    have : n = 2 * (n / 2) + n % 2 := by omega
    conv => lhs; rw [this]
    rw [Int.mul_add, ← Int.mul_assoc, Int.mul_comm a 2]
  rw [e]
  have h2 : 0 ≤ 2 * a * (n / 2) := Int.mul_nonneg (by omega) hk
  by_cases hz : n / 2 = 0
  · rw [hz]
    split
    · rw [show n % 2 = 1 by assumption]; simp only [Int.mul_zero, Int.mul_one, Int.zero_add]; rw [lim_lim, Int.add_comm]
    · rw [show n % 2 = 0 by omega]; simp
  · by_cases hb : 2 * a ≤ 1099511627776
    · rw [lim_in (n := 2 * a) (by omega) hb]
      split
      · rw [show n % 2 = 1 by assumption, Int.mul_one]
        by_cases hc : s + a ≤ 1099511627776
        · rw [lim_in (n := s + a) (by omega) hc]; congr 1; omega
        · rw [lim_hi (n := s + a) (by omega)]
          unfold lim; omega
      · rw [show n % 2 = 0 by omega, Int.mul_zero]; congr 1; omega
    · rw [lim_hi (n := 2 * a) (by omega)]
      have h3 : (1099511627776 : Int) ≤ 1099511627776 * (n / 2) := by omega
      have h4 : 2 * a * (n / 2) ≥ 2 * a * 1 := Int.mul_le_mul_of_nonneg_left (by omega) (by omega)
      have h5 : 0 ≤ a * (n % 2) := Int.mul_nonneg ha (by omega)
      have h6 : 0 ≤ (if n % 2 = 1 then lim (s + a) else s) := by
        split
        · unfold lim; omega
        · exact hs
      generalize (if n % 2 = 1 then lim (s + a) else s) = t at *
      unfold lim; omega
set_option maxHeartbeats 400000 in
theorem rmul_pos (a n : Int) (w : World) (h1 : 0 ≤ lim a) (h2 : 0 ≤ lim n) : Calls Try.prog 18 #[.int .i64 a, .int .i64 n] w fun e w' => e = .returned (.int .i64 (mulL a n)) ∧ w = w' := by
  have ha := lim_bd a
  have hb := lim_bd n
  go_enter Try.func18, Try.ntmps18
  go_wp2_with (go_at_call 12; refine (rclamp_any _ _).mono ?_; rintro e w' ⟨rfl, rfl⟩)
  go_loop [0, 1, 5] (fun x y z => ∃ p q s : Int, 0 ≤ p ∧ p ≤ 1099511627776 ∧ 0 ≤ q ∧ q ≤ 1099511627776 ∧ 0 ≤ s ∧ s ≤ 1099511627776 ∧ x = .int .i64 p ∧ y = .int .i64 q ∧ z = .int .i64 s ∧ lim (p * q + s) = mulL a n) (fun _ y _ => (intOf y).toNat)
  case atStart => exact ⟨lim a, lim n, 0, h1, ha.2, h2, hb.2, by decide, by decide, rfl, rfl, rfl, by rw [Int.add_zero]; rfl⟩
  case round =>
    obtain ⟨p, q, s, hp, hp', hq, hq', hs, hs', rfl, rfl, rfl, he⟩ := hrel
    have HE := Lib.hid he
    clear he h1 h2 ha hb
    have hl := lim_bd (s + p)
    have hl2 := lim_bd (2 * p)
    have hl0 : 0 ≤ lim (s + p) := by unfold lim; omega
    have hl3 : 0 ≤ lim (2 * p) := by unfold lim; omega
    by_cases hn : 0 < q
    · have HS := Lib.hid (rmul_step hp hp' hs hs' hn)
      by_cases ho : q % 2 = 1
      · have hob : ((q % 2) == 1) = true := by simpa using ho
        have HO := Lib.hid ho
        clear ho
        go_wp2_with (go_at_call 12; refine (rclamp_any _ _).mono ?_; rintro e w' ⟨rfl, rfl⟩)
        go_round
        case rel => exact ⟨lim (2 * p), q / 2, lim (s + p), hl3, hl2.2, by omega, by omega, hl0, hl.2, rfl, rfl, rfl, by have := HS.out; rw [if_pos HO.out] at this; rw [this]; exact HE.out⟩
        case measure => simp [intOf]; omega
      · have hob : ((q % 2) == 1) = false := by simpa using ho
        have HO := Lib.hid ho
        clear ho
        go_wp2_with (go_at_call 12; refine (rclamp_any _ _).mono ?_; rintro e w' ⟨rfl, rfl⟩)
        go_round
        case rel => exact ⟨lim (2 * p), q / 2, s, hl3, hl2.2, by omega, by omega, hs, hs', rfl, rfl, rfl, by have := HS.out; rw [if_neg HO.out] at this; rw [this]; exact HE.out⟩
        case measure => simp [intOf]; omega
    · go_wp2_with fail
      go_ret
      exact ⟨ret_int (by have := HE.out; rw [show q = 0 by omega, Int.mul_zero, Int.zero_add, lim_in (by omega) hs'] at this; exact this), rfl⟩
theorem mulL_negl (a n : Int) : -mulL (-lim a) n = mulL a n := by
  unfold mulL; rw [lim_neg, lim_lim, Int.neg_mul, lim_neg, Int.neg_neg]
theorem mulL_negr (a n : Int) : -mulL (lim a) (-lim n) = mulL a n := by
  unfold mulL; rw [lim_neg, lim_lim, lim_lim, Int.mul_neg, lim_neg, Int.neg_neg]
theorem mulL_bd (a n : Int) : -1099511627776 ≤ mulL a n ∧ mulL a n ≤ 1099511627776 := lim_bd _
set_option maxHeartbeats 400000 in
theorem rmul_left (a n : Int) (w : World) (h1 : 0 ≤ lim a) : Calls Try.prog 18 #[.int .i64 a, .int .i64 n] w fun e w' => e = .returned (.int .i64 (mulL a n)) ∧ w = w' := by
  by_cases h2 : 0 ≤ lim n
  · exact rmul_pos a n w h1 h2
  · have ha := lim_bd a
    have hb := lim_bd n
    have hm := mulL_bd (lim a) (-lim n)
    have HN := Lib.hid (mulL_negr a n)
    have H1 : Hid (0 ≤ lim (lim a)) := Lib.hid (by rw [lim_lim]; exact h1)
    have H2 : Hid (0 ≤ lim (-lim n)) := Lib.hid (lim_nonneg (by omega))
    go_enter Try.func18, Try.ntmps18
    go_wp2_with (first | (go_at_call 12; refine (rclamp_any _ _).mono ?_; rintro e w' ⟨rfl, rfl⟩) | (go_at_call 18; refine (rmul_pos _ _ _ H1.out H2.out).mono ?_; rintro e w' ⟨rfl, rfl⟩))
    go_ret
    exact ⟨ret_int HN.out, rfl⟩
set_option maxHeartbeats 400000 in
theorem rmul_any (a n : Int) (w : World) : Calls Try.prog 18 #[.int .i64 a, .int .i64 n] w fun e w' => e = .returned (.int .i64 (mulL a n)) ∧ w = w' := by
  by_cases h2 : 0 ≤ lim a
  · exact rmul_left a n w h2
  · have ha := lim_bd a
    have hb := lim_bd n
    have hm := mulL_bd (-lim a) (lim n)
    have HN : Hid (-mulL (-lim a) (lim n) = mulL a n) := Lib.hid (by rw [← mulL_negl a n]; unfold mulL; rw [lim_lim])
    have H2 : Hid (0 ≤ lim (-lim a)) := Lib.hid (lim_nonneg (by omega))
    go_enter Try.func18, Try.ntmps18
    go_wp2_with (first | (go_at_call 12; refine (rclamp_any _ _).mono ?_; rintro e w' ⟨rfl, rfl⟩) | (go_at_call 18; refine (rmul_left _ _ _ H2.out).mono ?_; rintro e w' ⟨rfl, rfl⟩))
    go_ret
    exact ⟨ret_int HN.out, rfl⟩
end Go.Proofs.Ytgcofbakfjlkfaa
