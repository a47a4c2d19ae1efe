import Derived.Test.YtgcofbakfjlkfaaUnitLaws
/- The walk of the law UnitWithin. -/
namespace Go.Proofs.Ytgcofbakfjlkfaa
open Go.RowKit
set_option linter.unusedVariables false
set_option linter.unusedSimpArgs false
theorem within_yes (n : Int) (w : World) (h1 : -1099511627776 ≤ n) (h2 : n ≤ 1099511627776) : Calls Try.prog 24 #[.int .i64 n] w fun e w' => e = .returned (.bool true) ∧ w = w' := by
  go_enter Try.func24, Try.ntmps24
  go_wp2
  go_ret
  exact ⟨rfl, rfl⟩
theorem within_no (n : Int) (w : World) (h1 : n < -1099511627776 ∨ 1099511627776 < n) : Calls Try.prog 24 #[.int .i64 n] w fun e w' => e = .returned (.bool false) ∧ w = w' := by
  rcases (show n < -1099511627776 ∨ (-1099511627776 ≤ n ∧ 1099511627776 < n) by omega) with h | ⟨h, h'⟩
  · clear h1
    go_enter Try.func24, Try.ntmps24
    go_wp2
    go_ret
    exact ⟨rfl, rfl⟩
  · clear h1
    go_enter Try.func24, Try.ntmps24
    go_wp2
    go_ret
    exact ⟨ret_bool (decide_eq_false (by omega)), rfl⟩
theorem sum_two (a b : Int) : sumL [a, b] = lim (lim a + lim b) := by
  show lim (lim (0 + lim a) + lim b) = _
  rw [Int.zero_add, lim_lim]
theorem sum_one (a : Int) : sumL [a] = lim a := by
  show lim (0 + lim a) = _
  rw [Int.zero_add, lim_lim]
theorem tmod20_bd (a : Int) : -1048576 < a.tmod 1048576 ∧ a.tmod 1048576 < 1048576 := by
  have h := Int.natAbs_tmod a 1048576
  have h2 : a.natAbs % 1048576 < 1048576 := Nat.mod_lt _ (by decide)
  have e : (1048576 : Int).natAbs = 1048576 := rfl
  rw [e] at h
  omega
theorem prod20 {x y : Int} (hx : -1048576 < x ∧ x < 1048576) (hy : -1048576 < y ∧ y < 1048576) : -1099511627776 ≤ x * y ∧ x * y ≤ 1099511627776 := by
  have h : ((x * y).natAbs : Int) = (x.natAbs : Int) * (y.natAbs : Int) := by rw [Int.natAbs_mul]; push_cast; rfl
  have h1 : (x.natAbs : Int) * (y.natAbs : Int) ≤ 1048576 * 1048576 := Int.mul_le_mul (by omega) (by omega) (by omega) (by omega)
  omega
theorem sub_eq_add (a b : Int) (h1 : -1099511627776 ≤ b) (h2 : b ≤ 1099511627776) : sumL [a, -b] = lim (lim a - lim b) := by
  rw [sum_two, lim_neg]; rfl
theorem usual {a b : Int} (h1 : -1099511627776 ≤ a) (h2 : a ≤ 1099511627776) (h3 : -1099511627776 ≤ b) (h4 : b ≤ 1099511627776) (h5 : -1099511627776 ≤ a + b) (h6 : a + b ≤ 1099511627776) : sumL [a, b] = a + b := by
  rw [sum_two, lim_in h1 h2, lim_in h3 h4, lim_in h5 h6]
theorem sum_mono (a : Int) {b c : Int} (h : b ≤ c) : sumL [a, b] ≤ sumL [a, c] := by
  rw [sum_two, sum_two]; exact lim_mono (by have := lim_mono h; omega)
theorem add2v {a b s : Int} (h : sumL [a, b] = s) (w : World) (t : TypeId) (n c : Nat) (hn : n = w.heap.size) :
    Calls Try.prog 14 #[.slice (some ⟨n, 0, none⟩) 2 c] (w.alloc (.cells #[.int .i64 a, .int .i64 b] t)) fun e w' => e = .returned (.int .i64 s) ∧ w.alloc (.cells #[.int .i64 a, .int .i64 b] t) = w' := by
  subst h; exact add_any _ _ _ _ _ (Ints.new2' w t a b n hn)
theorem add3v {a b c' s : Int} (h : sumL [a, b, c'] = s) (w : World) (t : TypeId) (n c : Nat) (hn : n = w.heap.size) :
    Calls Try.prog 14 #[.slice (some ⟨n, 0, none⟩) 3 c] (w.alloc (.cells #[.int .i64 a, .int .i64 b, .int .i64 c'] t)) fun e w' => e = .returned (.int .i64 s) ∧ w.alloc (.cells #[.int .i64 a, .int .i64 b, .int .i64 c'] t) = w' := by
  subst h; exact add_any _ _ _ _ _ (Ints.new3' w t a b c' n hn)
theorem add1v {a s : Int} (h : sumL [a] = s) (w : World) (t : TypeId) (n c : Nat) (hn : n = w.heap.size) :
    Calls Try.prog 14 #[.slice (some ⟨n, 0, none⟩) 1 c] (w.alloc (.cells #[.int .i64 a] t)) fun e w' => e = .returned (.int .i64 s) ∧ w.alloc (.cells #[.int .i64 a] t) = w' := by
  subst h; exact add_any _ _ _ _ _ (Ints.new1' w t a n hn)
theorem mulv {a n p : Int} (h : mulL a n = p) (w : World) : Calls Try.prog 17 #[.int .i64 a, .int .i64 n] w fun e w' => e = .returned (.int .i64 p) ∧ w = w' := by
  subst h; exact mul_any a n w
theorem subv {a n p : Int} (h : lim (lim a - lim n) = p) (w : World) : Calls Try.prog 16 #[.int .i64 a, .int .i64 n] w fun e w' => e = .returned (.int .i64 p) ∧ w = w' := by
  subst h; exact sub_any a n w
theorem clampv {a p : Int} (h : lim a = p) (w : World) : Calls Try.prog 11 #[.int .i64 a] w fun e w' => e = .returned (.int .i64 p) ∧ w = w' := by
  subst h; exact clamp_any a w
set_option maxRecDepth 100000 in
set_option maxHeartbeats 1000000 in
theorem within_1a (a b c s p d l s3 sac : Int) (w : World) (H1 : Hid (sumL [a, b] = s)) (H2 : Hid (sumL [b, a] = s)) (H3 : Hid (mulL a b = p)) (H4 : Hid (mulL b a = p)) (H5 : Hid (lim (lim a - lim b) = d)) (H6 : Hid (lim a = l)) (H7 : Hid (sumL [a] = l)) (H8 : Hid (mulL a 1 = l)) (H9 : Hid (mulL a 0 = 0))
    (H10 : Hid (sumL [a, b, c] = s3)) (H11 : Hid (sumL [a, c] = sac)) (H12 : Hid (mulL (a.tmod 1048576) (b.tmod 1048576) = a.tmod 1048576 * b.tmod 1048576)) (H13 : Hid (-1099511627776 ≤ b → b ≤ 1099511627776 → sumL [a, -b] = d))
    (bs : -1099511627776 ≤ s ∧ s ≤ 1099511627776) (bp : -1099511627776 ≤ p ∧ p ≤ 1099511627776) (bd : -1099511627776 ≤ d ∧ d ≤ 1099511627776) (bl : -1099511627776 ≤ l ∧ l ≤ 1099511627776) (b3 : -1099511627776 ≤ s3 ∧ s3 ≤ 1099511627776)
    (bx : -1099511627776 ≤ a.tmod 1048576 * b.tmod 1048576 ∧ a.tmod 1048576 * b.tmod 1048576 ≤ 1099511627776)
    (hbc : b ≤ c) (hm : s ≤ sac) (hb1 : -1099511627776 ≤ b) (hb2 : b ≤ 1099511627776) (ha1 : -1099511627776 ≤ a) (ha2 : a ≤ 1099511627776) (hs1 : -1099511627776 ≤ a + b) (hs2 : a + b ≤ 1099511627776) (hs : (s == a + b) = true) (hs' : (s != a + b) = false) :
    Calls Try.prog 5 #[.int .i64 a, .int .i64 b, .int .i64 c] w fun e w' => e = .returned (.bool true) ∧ Below w.heap.size w w' := by
  go_enter Try.func5, Try.ntmps5
  go_wp2_with (first
    | (go_at_call 11; ((with_reducible refine (clampv H6.out _).mono ?_); rintro e w' ⟨rfl, rfl⟩))
    | (go_at_call 16; ((with_reducible refine (subv H5.out _).mono ?_); rintro e w' ⟨rfl, rfl⟩))
    | (go_at_call 17; ((with_reducible refine (mulv H3.out _).mono ?_); rintro e w' ⟨rfl, rfl⟩))
    | (go_at_call 17; ((with_reducible refine (mulv H4.out _).mono ?_); rintro e w' ⟨rfl, rfl⟩))
    | (go_at_call 17; ((with_reducible refine (mulv H8.out _).mono ?_); rintro e w' ⟨rfl, rfl⟩))
    | (go_at_call 17; ((with_reducible refine (mulv H9.out _).mono ?_); rintro e w' ⟨rfl, rfl⟩))
    | (go_at_call 17; ((with_reducible refine (mulv H12.out _).mono ?_); rintro e w' ⟨rfl, rfl⟩))
    | (go_at_call 14; ((with_reducible refine (add2v H1.out _ _ _ _ (by simp)).mono ?_); rintro e w' ⟨rfl, rfl⟩))
    | (go_at_call 14; ((with_reducible refine (add2v H2.out _ _ _ _ (by simp)).mono ?_); rintro e w' ⟨rfl, rfl⟩))
    | (go_at_call 14; ((with_reducible refine (add2v H11.out _ _ _ _ (by simp)).mono ?_); rintro e w' ⟨rfl, rfl⟩))
    | (go_at_call 14; ((with_reducible refine (add2v (H13.out (by omega) (by omega)) _ _ _ _ (by simp)).mono ?_); rintro e w' ⟨rfl, rfl⟩))
    | (go_at_call 14; ((with_reducible refine (add3v H10.out _ _ _ _ (by simp)).mono ?_); rintro e w' ⟨rfl, rfl⟩))
    | (go_at_call 14; ((with_reducible refine (add1v H7.out _ _ _ _ (by simp)).mono ?_); rintro e w' ⟨rfl, rfl⟩))
    | (go_at_call 24; refine (within_yes _ _ (by omega) (by omega)).mono ?_; rintro e w' ⟨rfl, rfl⟩)
    | (go_at_call 24; refine (within_no _ _ (by omega)).mono ?_; rintro e w' ⟨rfl, rfl⟩)
    | (go_at_call 19; refine (awake_any _).mono ?_; rintro e w' ⟨rfl, hbw⟩))
  go_ret
  exact ⟨rfl, Below.trans (by go_grown) (hbw.mono (by go_size))⟩
set_option maxRecDepth 100000 in
set_option maxHeartbeats 1000000 in
theorem within_1b (a b c s p d l s3 sac : Int) (w : World) (H1 : Hid (sumL [a, b] = s)) (H2 : Hid (sumL [b, a] = s)) (H3 : Hid (mulL a b = p)) (H4 : Hid (mulL b a = p)) (H5 : Hid (lim (lim a - lim b) = d)) (H6 : Hid (lim a = l)) (H7 : Hid (sumL [a] = l)) (H8 : Hid (mulL a 1 = l)) (H9 : Hid (mulL a 0 = 0))
    (H10 : Hid (sumL [a, b, c] = s3)) (H11 : Hid (sumL [a, c] = sac)) (H12 : Hid (mulL (a.tmod 1048576) (b.tmod 1048576) = a.tmod 1048576 * b.tmod 1048576)) (H13 : Hid (-1099511627776 ≤ b → b ≤ 1099511627776 → sumL [a, -b] = d))
    (bs : -1099511627776 ≤ s ∧ s ≤ 1099511627776) (bp : -1099511627776 ≤ p ∧ p ≤ 1099511627776) (bd : -1099511627776 ≤ d ∧ d ≤ 1099511627776) (bl : -1099511627776 ≤ l ∧ l ≤ 1099511627776) (b3 : -1099511627776 ≤ s3 ∧ s3 ≤ 1099511627776)
    (bx : -1099511627776 ≤ a.tmod 1048576 * b.tmod 1048576 ∧ a.tmod 1048576 * b.tmod 1048576 ≤ 1099511627776)
    (hbc : b ≤ c) (hm : s ≤ sac) (hb1 : -1099511627776 ≤ b) (hb2 : b ≤ 1099511627776) (ha1 : -1099511627776 ≤ a) (ha2 : a ≤ 1099511627776) (hs1 : a + b < -1099511627776 ∨ 1099511627776 < a + b) :
    Calls Try.prog 5 #[.int .i64 a, .int .i64 b, .int .i64 c] w fun e w' => e = .returned (.bool true) ∧ Below w.heap.size w w' := by
  go_enter Try.func5, Try.ntmps5
  go_wp2_with (first
    | (go_at_call 11; ((with_reducible refine (clampv H6.out _).mono ?_); rintro e w' ⟨rfl, rfl⟩))
    | (go_at_call 16; ((with_reducible refine (subv H5.out _).mono ?_); rintro e w' ⟨rfl, rfl⟩))
    | (go_at_call 17; ((with_reducible refine (mulv H3.out _).mono ?_); rintro e w' ⟨rfl, rfl⟩))
    | (go_at_call 17; ((with_reducible refine (mulv H4.out _).mono ?_); rintro e w' ⟨rfl, rfl⟩))
    | (go_at_call 17; ((with_reducible refine (mulv H8.out _).mono ?_); rintro e w' ⟨rfl, rfl⟩))
    | (go_at_call 17; ((with_reducible refine (mulv H9.out _).mono ?_); rintro e w' ⟨rfl, rfl⟩))
    | (go_at_call 17; ((with_reducible refine (mulv H12.out _).mono ?_); rintro e w' ⟨rfl, rfl⟩))
    | (go_at_call 14; ((with_reducible refine (add2v H1.out _ _ _ _ (by simp)).mono ?_); rintro e w' ⟨rfl, rfl⟩))
    | (go_at_call 14; ((with_reducible refine (add2v H2.out _ _ _ _ (by simp)).mono ?_); rintro e w' ⟨rfl, rfl⟩))
    | (go_at_call 14; ((with_reducible refine (add2v H11.out _ _ _ _ (by simp)).mono ?_); rintro e w' ⟨rfl, rfl⟩))
    | (go_at_call 14; ((with_reducible refine (add2v (H13.out (by omega) (by omega)) _ _ _ _ (by simp)).mono ?_); rintro e w' ⟨rfl, rfl⟩))
    | (go_at_call 14; ((with_reducible refine (add3v H10.out _ _ _ _ (by simp)).mono ?_); rintro e w' ⟨rfl, rfl⟩))
    | (go_at_call 14; ((with_reducible refine (add1v H7.out _ _ _ _ (by simp)).mono ?_); rintro e w' ⟨rfl, rfl⟩))
    | (go_at_call 24; refine (within_yes _ _ (by omega) (by omega)).mono ?_; rintro e w' ⟨rfl, rfl⟩)
    | (go_at_call 24; refine (within_no _ _ (by omega)).mono ?_; rintro e w' ⟨rfl, rfl⟩)
    | (go_at_call 19; refine (awake_any _).mono ?_; rintro e w' ⟨rfl, hbw⟩))
  go_ret
  exact ⟨rfl, Below.trans (by go_grown) (hbw.mono (by go_size))⟩
set_option maxRecDepth 100000 in
set_option maxHeartbeats 1000000 in
theorem within_1c (a b c s p d l s3 sac : Int) (w : World) (H1 : Hid (sumL [a, b] = s)) (H2 : Hid (sumL [b, a] = s)) (H3 : Hid (mulL a b = p)) (H4 : Hid (mulL b a = p)) (H5 : Hid (lim (lim a - lim b) = d)) (H6 : Hid (lim a = l)) (H7 : Hid (sumL [a] = l)) (H8 : Hid (mulL a 1 = l)) (H9 : Hid (mulL a 0 = 0))
    (H10 : Hid (sumL [a, b, c] = s3)) (H11 : Hid (sumL [a, c] = sac)) (H12 : Hid (mulL (a.tmod 1048576) (b.tmod 1048576) = a.tmod 1048576 * b.tmod 1048576)) (H13 : Hid (-1099511627776 ≤ b → b ≤ 1099511627776 → sumL [a, -b] = d))
    (bs : -1099511627776 ≤ s ∧ s ≤ 1099511627776) (bp : -1099511627776 ≤ p ∧ p ≤ 1099511627776) (bd : -1099511627776 ≤ d ∧ d ≤ 1099511627776) (bl : -1099511627776 ≤ l ∧ l ≤ 1099511627776) (b3 : -1099511627776 ≤ s3 ∧ s3 ≤ 1099511627776)
    (bx : -1099511627776 ≤ a.tmod 1048576 * b.tmod 1048576 ∧ a.tmod 1048576 * b.tmod 1048576 ≤ 1099511627776)
    (hbc : b ≤ c) (hm : s ≤ sac) (hb1 : -1099511627776 ≤ b) (hb2 : b ≤ 1099511627776) (ha1 : a < -1099511627776 ∨ 1099511627776 < a) :
    Calls Try.prog 5 #[.int .i64 a, .int .i64 b, .int .i64 c] w fun e w' => e = .returned (.bool true) ∧ Below w.heap.size w w' := by
  go_enter Try.func5, Try.ntmps5
  go_wp2_with (first
    | (go_at_call 11; ((with_reducible refine (clampv H6.out _).mono ?_); rintro e w' ⟨rfl, rfl⟩))
    | (go_at_call 16; ((with_reducible refine (subv H5.out _).mono ?_); rintro e w' ⟨rfl, rfl⟩))
    | (go_at_call 17; ((with_reducible refine (mulv H3.out _).mono ?_); rintro e w' ⟨rfl, rfl⟩))
    | (go_at_call 17; ((with_reducible refine (mulv H4.out _).mono ?_); rintro e w' ⟨rfl, rfl⟩))
    | (go_at_call 17; ((with_reducible refine (mulv H8.out _).mono ?_); rintro e w' ⟨rfl, rfl⟩))
    | (go_at_call 17; ((with_reducible refine (mulv H9.out _).mono ?_); rintro e w' ⟨rfl, rfl⟩))
    | (go_at_call 17; ((with_reducible refine (mulv H12.out _).mono ?_); rintro e w' ⟨rfl, rfl⟩))
    | (go_at_call 14; ((with_reducible refine (add2v H1.out _ _ _ _ (by simp)).mono ?_); rintro e w' ⟨rfl, rfl⟩))
    | (go_at_call 14; ((with_reducible refine (add2v H2.out _ _ _ _ (by simp)).mono ?_); rintro e w' ⟨rfl, rfl⟩))
    | (go_at_call 14; ((with_reducible refine (add2v H11.out _ _ _ _ (by simp)).mono ?_); rintro e w' ⟨rfl, rfl⟩))
    | (go_at_call 14; ((with_reducible refine (add2v (H13.out (by omega) (by omega)) _ _ _ _ (by simp)).mono ?_); rintro e w' ⟨rfl, rfl⟩))
    | (go_at_call 14; ((with_reducible refine (add3v H10.out _ _ _ _ (by simp)).mono ?_); rintro e w' ⟨rfl, rfl⟩))
    | (go_at_call 14; ((with_reducible refine (add1v H7.out _ _ _ _ (by simp)).mono ?_); rintro e w' ⟨rfl, rfl⟩))
    | (go_at_call 24; refine (within_yes _ _ (by omega) (by omega)).mono ?_; rintro e w' ⟨rfl, rfl⟩)
    | (go_at_call 24; refine (within_no _ _ (by omega)).mono ?_; rintro e w' ⟨rfl, rfl⟩)
    | (go_at_call 19; refine (awake_any _).mono ?_; rintro e w' ⟨rfl, hbw⟩))
  go_ret
  exact ⟨rfl, Below.trans (by go_grown) (hbw.mono (by go_size))⟩
set_option maxRecDepth 100000 in
set_option maxHeartbeats 1000000 in
theorem within_1d (a b c s p d l s3 sac : Int) (w : World) (H1 : Hid (sumL [a, b] = s)) (H2 : Hid (sumL [b, a] = s)) (H3 : Hid (mulL a b = p)) (H4 : Hid (mulL b a = p)) (H5 : Hid (lim (lim a - lim b) = d)) (H6 : Hid (lim a = l)) (H7 : Hid (sumL [a] = l)) (H8 : Hid (mulL a 1 = l)) (H9 : Hid (mulL a 0 = 0))
    (H10 : Hid (sumL [a, b, c] = s3)) (H11 : Hid (sumL [a, c] = sac)) (H12 : Hid (mulL (a.tmod 1048576) (b.tmod 1048576) = a.tmod 1048576 * b.tmod 1048576)) (H13 : Hid (-1099511627776 ≤ b → b ≤ 1099511627776 → sumL [a, -b] = d))
    (bs : -1099511627776 ≤ s ∧ s ≤ 1099511627776) (bp : -1099511627776 ≤ p ∧ p ≤ 1099511627776) (bd : -1099511627776 ≤ d ∧ d ≤ 1099511627776) (bl : -1099511627776 ≤ l ∧ l ≤ 1099511627776) (b3 : -1099511627776 ≤ s3 ∧ s3 ≤ 1099511627776)
    (bx : -1099511627776 ≤ a.tmod 1048576 * b.tmod 1048576 ∧ a.tmod 1048576 * b.tmod 1048576 ≤ 1099511627776)
    (hbc : b ≤ c) (hm : s ≤ sac) (hb1 : b < -1099511627776 ∨ 1099511627776 < b) (ha1 : -1099511627776 ≤ a) (ha2 : a ≤ 1099511627776) :
    Calls Try.prog 5 #[.int .i64 a, .int .i64 b, .int .i64 c] w fun e w' => e = .returned (.bool true) ∧ Below w.heap.size w w' := by
  go_enter Try.func5, Try.ntmps5
  go_wp2_with (first
    | (go_at_call 11; ((with_reducible refine (clampv H6.out _).mono ?_); rintro e w' ⟨rfl, rfl⟩))
    | (go_at_call 16; ((with_reducible refine (subv H5.out _).mono ?_); rintro e w' ⟨rfl, rfl⟩))
    | (go_at_call 17; ((with_reducible refine (mulv H3.out _).mono ?_); rintro e w' ⟨rfl, rfl⟩))
    | (go_at_call 17; ((with_reducible refine (mulv H4.out _).mono ?_); rintro e w' ⟨rfl, rfl⟩))
    | (go_at_call 17; ((with_reducible refine (mulv H8.out _).mono ?_); rintro e w' ⟨rfl, rfl⟩))
    | (go_at_call 17; ((with_reducible refine (mulv H9.out _).mono ?_); rintro e w' ⟨rfl, rfl⟩))
    | (go_at_call 17; ((with_reducible refine (mulv H12.out _).mono ?_); rintro e w' ⟨rfl, rfl⟩))
    | (go_at_call 14; ((with_reducible refine (add2v H1.out _ _ _ _ (by simp)).mono ?_); rintro e w' ⟨rfl, rfl⟩))
    | (go_at_call 14; ((with_reducible refine (add2v H2.out _ _ _ _ (by simp)).mono ?_); rintro e w' ⟨rfl, rfl⟩))
    | (go_at_call 14; ((with_reducible refine (add2v H11.out _ _ _ _ (by simp)).mono ?_); rintro e w' ⟨rfl, rfl⟩))
    | (go_at_call 14; ((with_reducible refine (add2v (H13.out (by omega) (by omega)) _ _ _ _ (by simp)).mono ?_); rintro e w' ⟨rfl, rfl⟩))
    | (go_at_call 14; ((with_reducible refine (add3v H10.out _ _ _ _ (by simp)).mono ?_); rintro e w' ⟨rfl, rfl⟩))
    | (go_at_call 14; ((with_reducible refine (add1v H7.out _ _ _ _ (by simp)).mono ?_); rintro e w' ⟨rfl, rfl⟩))
    | (go_at_call 24; refine (within_yes _ _ (by omega) (by omega)).mono ?_; rintro e w' ⟨rfl, rfl⟩)
    | (go_at_call 24; refine (within_no _ _ (by omega)).mono ?_; rintro e w' ⟨rfl, rfl⟩)
    | (go_at_call 19; refine (awake_any _).mono ?_; rintro e w' ⟨rfl, hbw⟩))
  go_ret
  exact ⟨rfl, Below.trans (by go_grown) (hbw.mono (by go_size))⟩
set_option maxRecDepth 100000 in
set_option maxHeartbeats 1000000 in
theorem within_1e (a b c s p d l s3 sac : Int) (w : World) (H1 : Hid (sumL [a, b] = s)) (H2 : Hid (sumL [b, a] = s)) (H3 : Hid (mulL a b = p)) (H4 : Hid (mulL b a = p)) (H5 : Hid (lim (lim a - lim b) = d)) (H6 : Hid (lim a = l)) (H7 : Hid (sumL [a] = l)) (H8 : Hid (mulL a 1 = l)) (H9 : Hid (mulL a 0 = 0))
    (H10 : Hid (sumL [a, b, c] = s3)) (H11 : Hid (sumL [a, c] = sac)) (H12 : Hid (mulL (a.tmod 1048576) (b.tmod 1048576) = a.tmod 1048576 * b.tmod 1048576)) (H13 : Hid (-1099511627776 ≤ b → b ≤ 1099511627776 → sumL [a, -b] = d))
    (bs : -1099511627776 ≤ s ∧ s ≤ 1099511627776) (bp : -1099511627776 ≤ p ∧ p ≤ 1099511627776) (bd : -1099511627776 ≤ d ∧ d ≤ 1099511627776) (bl : -1099511627776 ≤ l ∧ l ≤ 1099511627776) (b3 : -1099511627776 ≤ s3 ∧ s3 ≤ 1099511627776)
    (bx : -1099511627776 ≤ a.tmod 1048576 * b.tmod 1048576 ∧ a.tmod 1048576 * b.tmod 1048576 ≤ 1099511627776)
    (hbc : b ≤ c) (hm : s ≤ sac) (hb1 : b < -1099511627776 ∨ 1099511627776 < b) (ha1 : a < -1099511627776 ∨ 1099511627776 < a) :
    Calls Try.prog 5 #[.int .i64 a, .int .i64 b, .int .i64 c] w fun e w' => e = .returned (.bool true) ∧ Below w.heap.size w w' := by
  go_enter Try.func5, Try.ntmps5
  go_wp2_with (first
    | (go_at_call 11; ((with_reducible refine (clampv H6.out _).mono ?_); rintro e w' ⟨rfl, rfl⟩))
    | (go_at_call 16; ((with_reducible refine (subv H5.out _).mono ?_); rintro e w' ⟨rfl, rfl⟩))
    | (go_at_call 17; ((with_reducible refine (mulv H3.out _).mono ?_); rintro e w' ⟨rfl, rfl⟩))
    | (go_at_call 17; ((with_reducible refine (mulv H4.out _).mono ?_); rintro e w' ⟨rfl, rfl⟩))
    | (go_at_call 17; ((with_reducible refine (mulv H8.out _).mono ?_); rintro e w' ⟨rfl, rfl⟩))
    | (go_at_call 17; ((with_reducible refine (mulv H9.out _).mono ?_); rintro e w' ⟨rfl, rfl⟩))
    | (go_at_call 17; ((with_reducible refine (mulv H12.out _).mono ?_); rintro e w' ⟨rfl, rfl⟩))
    | (go_at_call 14; ((with_reducible refine (add2v H1.out _ _ _ _ (by simp)).mono ?_); rintro e w' ⟨rfl, rfl⟩))
    | (go_at_call 14; ((with_reducible refine (add2v H2.out _ _ _ _ (by simp)).mono ?_); rintro e w' ⟨rfl, rfl⟩))
    | (go_at_call 14; ((with_reducible refine (add2v H11.out _ _ _ _ (by simp)).mono ?_); rintro e w' ⟨rfl, rfl⟩))
    | (go_at_call 14; ((with_reducible refine (add2v (H13.out (by omega) (by omega)) _ _ _ _ (by simp)).mono ?_); rintro e w' ⟨rfl, rfl⟩))
    | (go_at_call 14; ((with_reducible refine (add3v H10.out _ _ _ _ (by simp)).mono ?_); rintro e w' ⟨rfl, rfl⟩))
    | (go_at_call 14; ((with_reducible refine (add1v H7.out _ _ _ _ (by simp)).mono ?_); rintro e w' ⟨rfl, rfl⟩))
    | (go_at_call 24; refine (within_yes _ _ (by omega) (by omega)).mono ?_; rintro e w' ⟨rfl, rfl⟩)
    | (go_at_call 24; refine (within_no _ _ (by omega)).mono ?_; rintro e w' ⟨rfl, rfl⟩)
    | (go_at_call 19; refine (awake_any _).mono ?_; rintro e w' ⟨rfl, hbw⟩))
  go_ret
  exact ⟨rfl, Below.trans (by go_grown) (hbw.mono (by go_size))⟩
set_option maxRecDepth 100000 in
set_option maxHeartbeats 1000000 in
theorem within_2a (a b c s p d l s3 sac : Int) (w : World) (H1 : Hid (sumL [a, b] = s)) (H2 : Hid (sumL [b, a] = s)) (H3 : Hid (mulL a b = p)) (H4 : Hid (mulL b a = p)) (H5 : Hid (lim (lim a - lim b) = d)) (H6 : Hid (lim a = l)) (H7 : Hid (sumL [a] = l)) (H8 : Hid (mulL a 1 = l)) (H9 : Hid (mulL a 0 = 0))
    (H10 : Hid (sumL [a, b, c] = s3)) (H11 : Hid (sumL [a, c] = sac)) (H12 : Hid (mulL (a.tmod 1048576) (b.tmod 1048576) = a.tmod 1048576 * b.tmod 1048576)) (H13 : Hid (-1099511627776 ≤ b → b ≤ 1099511627776 → sumL [a, -b] = d))
    (bs : -1099511627776 ≤ s ∧ s ≤ 1099511627776) (bp : -1099511627776 ≤ p ∧ p ≤ 1099511627776) (bd : -1099511627776 ≤ d ∧ d ≤ 1099511627776) (bl : -1099511627776 ≤ l ∧ l ≤ 1099511627776) (b3 : -1099511627776 ≤ s3 ∧ s3 ≤ 1099511627776)
    (bx : -1099511627776 ≤ a.tmod 1048576 * b.tmod 1048576 ∧ a.tmod 1048576 * b.tmod 1048576 ≤ 1099511627776)
    (hbc : c < b) (hb1 : -1099511627776 ≤ b) (hb2 : b ≤ 1099511627776) (ha1 : -1099511627776 ≤ a) (ha2 : a ≤ 1099511627776) (hs1 : -1099511627776 ≤ a + b) (hs2 : a + b ≤ 1099511627776) (hs : (s == a + b) = true) (hs' : (s != a + b) = false) :
    Calls Try.prog 5 #[.int .i64 a, .int .i64 b, .int .i64 c] w fun e w' => e = .returned (.bool true) ∧ Below w.heap.size w w' := by
  go_enter Try.func5, Try.ntmps5
  go_wp2_with (first
    | (go_at_call 11; ((with_reducible refine (clampv H6.out _).mono ?_); rintro e w' ⟨rfl, rfl⟩))
    | (go_at_call 16; ((with_reducible refine (subv H5.out _).mono ?_); rintro e w' ⟨rfl, rfl⟩))
    | (go_at_call 17; ((with_reducible refine (mulv H3.out _).mono ?_); rintro e w' ⟨rfl, rfl⟩))
    | (go_at_call 17; ((with_reducible refine (mulv H4.out _).mono ?_); rintro e w' ⟨rfl, rfl⟩))
    | (go_at_call 17; ((with_reducible refine (mulv H8.out _).mono ?_); rintro e w' ⟨rfl, rfl⟩))
    | (go_at_call 17; ((with_reducible refine (mulv H9.out _).mono ?_); rintro e w' ⟨rfl, rfl⟩))
    | (go_at_call 17; ((with_reducible refine (mulv H12.out _).mono ?_); rintro e w' ⟨rfl, rfl⟩))
    | (go_at_call 14; ((with_reducible refine (add2v H1.out _ _ _ _ (by simp)).mono ?_); rintro e w' ⟨rfl, rfl⟩))
    | (go_at_call 14; ((with_reducible refine (add2v H2.out _ _ _ _ (by simp)).mono ?_); rintro e w' ⟨rfl, rfl⟩))
    | (go_at_call 14; ((with_reducible refine (add2v H11.out _ _ _ _ (by simp)).mono ?_); rintro e w' ⟨rfl, rfl⟩))
    | (go_at_call 14; ((with_reducible refine (add2v (H13.out (by omega) (by omega)) _ _ _ _ (by simp)).mono ?_); rintro e w' ⟨rfl, rfl⟩))
    | (go_at_call 14; ((with_reducible refine (add3v H10.out _ _ _ _ (by simp)).mono ?_); rintro e w' ⟨rfl, rfl⟩))
    | (go_at_call 14; ((with_reducible refine (add1v H7.out _ _ _ _ (by simp)).mono ?_); rintro e w' ⟨rfl, rfl⟩))
    | (go_at_call 24; refine (within_yes _ _ (by omega) (by omega)).mono ?_; rintro e w' ⟨rfl, rfl⟩)
    | (go_at_call 24; refine (within_no _ _ (by omega)).mono ?_; rintro e w' ⟨rfl, rfl⟩)
    | (go_at_call 19; refine (awake_any _).mono ?_; rintro e w' ⟨rfl, hbw⟩))
  go_ret
  exact ⟨rfl, Below.trans (by go_grown) (hbw.mono (by go_size))⟩
set_option maxRecDepth 100000 in
set_option maxHeartbeats 1000000 in
theorem within_2b (a b c s p d l s3 sac : Int) (w : World) (H1 : Hid (sumL [a, b] = s)) (H2 : Hid (sumL [b, a] = s)) (H3 : Hid (mulL a b = p)) (H4 : Hid (mulL b a = p)) (H5 : Hid (lim (lim a - lim b) = d)) (H6 : Hid (lim a = l)) (H7 : Hid (sumL [a] = l)) (H8 : Hid (mulL a 1 = l)) (H9 : Hid (mulL a 0 = 0))
    (H10 : Hid (sumL [a, b, c] = s3)) (H11 : Hid (sumL [a, c] = sac)) (H12 : Hid (mulL (a.tmod 1048576) (b.tmod 1048576) = a.tmod 1048576 * b.tmod 1048576)) (H13 : Hid (-1099511627776 ≤ b → b ≤ 1099511627776 → sumL [a, -b] = d))
    (bs : -1099511627776 ≤ s ∧ s ≤ 1099511627776) (bp : -1099511627776 ≤ p ∧ p ≤ 1099511627776) (bd : -1099511627776 ≤ d ∧ d ≤ 1099511627776) (bl : -1099511627776 ≤ l ∧ l ≤ 1099511627776) (b3 : -1099511627776 ≤ s3 ∧ s3 ≤ 1099511627776)
    (bx : -1099511627776 ≤ a.tmod 1048576 * b.tmod 1048576 ∧ a.tmod 1048576 * b.tmod 1048576 ≤ 1099511627776)
    (hbc : c < b) (hb1 : -1099511627776 ≤ b) (hb2 : b ≤ 1099511627776) (ha1 : -1099511627776 ≤ a) (ha2 : a ≤ 1099511627776) (hs1 : a + b < -1099511627776 ∨ 1099511627776 < a + b) :
    Calls Try.prog 5 #[.int .i64 a, .int .i64 b, .int .i64 c] w fun e w' => e = .returned (.bool true) ∧ Below w.heap.size w w' := by
  go_enter Try.func5, Try.ntmps5
  go_wp2_with (first
    | (go_at_call 11; ((with_reducible refine (clampv H6.out _).mono ?_); rintro e w' ⟨rfl, rfl⟩))
    | (go_at_call 16; ((with_reducible refine (subv H5.out _).mono ?_); rintro e w' ⟨rfl, rfl⟩))
    | (go_at_call 17; ((with_reducible refine (mulv H3.out _).mono ?_); rintro e w' ⟨rfl, rfl⟩))
    | (go_at_call 17; ((with_reducible refine (mulv H4.out _).mono ?_); rintro e w' ⟨rfl, rfl⟩))
    | (go_at_call 17; ((with_reducible refine (mulv H8.out _).mono ?_); rintro e w' ⟨rfl, rfl⟩))
    | (go_at_call 17; ((with_reducible refine (mulv H9.out _).mono ?_); rintro e w' ⟨rfl, rfl⟩))
    | (go_at_call 17; ((with_reducible refine (mulv H12.out _).mono ?_); rintro e w' ⟨rfl, rfl⟩))
    | (go_at_call 14; ((with_reducible refine (add2v H1.out _ _ _ _ (by simp)).mono ?_); rintro e w' ⟨rfl, rfl⟩))
    | (go_at_call 14; ((with_reducible refine (add2v H2.out _ _ _ _ (by simp)).mono ?_); rintro e w' ⟨rfl, rfl⟩))
    | (go_at_call 14; ((with_reducible refine (add2v H11.out _ _ _ _ (by simp)).mono ?_); rintro e w' ⟨rfl, rfl⟩))
    | (go_at_call 14; ((with_reducible refine (add2v (H13.out (by omega) (by omega)) _ _ _ _ (by simp)).mono ?_); rintro e w' ⟨rfl, rfl⟩))
    | (go_at_call 14; ((with_reducible refine (add3v H10.out _ _ _ _ (by simp)).mono ?_); rintro e w' ⟨rfl, rfl⟩))
    | (go_at_call 14; ((with_reducible refine (add1v H7.out _ _ _ _ (by simp)).mono ?_); rintro e w' ⟨rfl, rfl⟩))
    | (go_at_call 24; refine (within_yes _ _ (by omega) (by omega)).mono ?_; rintro e w' ⟨rfl, rfl⟩)
    | (go_at_call 24; refine (within_no _ _ (by omega)).mono ?_; rintro e w' ⟨rfl, rfl⟩)
    | (go_at_call 19; refine (awake_any _).mono ?_; rintro e w' ⟨rfl, hbw⟩))
  go_ret
  exact ⟨rfl, Below.trans (by go_grown) (hbw.mono (by go_size))⟩
set_option maxRecDepth 100000 in
set_option maxHeartbeats 1000000 in
theorem within_2c (a b c s p d l s3 sac : Int) (w : World) (H1 : Hid (sumL [a, b] = s)) (H2 : Hid (sumL [b, a] = s)) (H3 : Hid (mulL a b = p)) (H4 : Hid (mulL b a = p)) (H5 : Hid (lim (lim a - lim b) = d)) (H6 : Hid (lim a = l)) (H7 : Hid (sumL [a] = l)) (H8 : Hid (mulL a 1 = l)) (H9 : Hid (mulL a 0 = 0))
    (H10 : Hid (sumL [a, b, c] = s3)) (H11 : Hid (sumL [a, c] = sac)) (H12 : Hid (mulL (a.tmod 1048576) (b.tmod 1048576) = a.tmod 1048576 * b.tmod 1048576)) (H13 : Hid (-1099511627776 ≤ b → b ≤ 1099511627776 → sumL [a, -b] = d))
    (bs : -1099511627776 ≤ s ∧ s ≤ 1099511627776) (bp : -1099511627776 ≤ p ∧ p ≤ 1099511627776) (bd : -1099511627776 ≤ d ∧ d ≤ 1099511627776) (bl : -1099511627776 ≤ l ∧ l ≤ 1099511627776) (b3 : -1099511627776 ≤ s3 ∧ s3 ≤ 1099511627776)
    (bx : -1099511627776 ≤ a.tmod 1048576 * b.tmod 1048576 ∧ a.tmod 1048576 * b.tmod 1048576 ≤ 1099511627776)
    (hbc : c < b) (hb1 : -1099511627776 ≤ b) (hb2 : b ≤ 1099511627776) (ha1 : a < -1099511627776 ∨ 1099511627776 < a) :
    Calls Try.prog 5 #[.int .i64 a, .int .i64 b, .int .i64 c] w fun e w' => e = .returned (.bool true) ∧ Below w.heap.size w w' := by
  go_enter Try.func5, Try.ntmps5
  go_wp2_with (first
    | (go_at_call 11; ((with_reducible refine (clampv H6.out _).mono ?_); rintro e w' ⟨rfl, rfl⟩))
    | (go_at_call 16; ((with_reducible refine (subv H5.out _).mono ?_); rintro e w' ⟨rfl, rfl⟩))
    | (go_at_call 17; ((with_reducible refine (mulv H3.out _).mono ?_); rintro e w' ⟨rfl, rfl⟩))
    | (go_at_call 17; ((with_reducible refine (mulv H4.out _).mono ?_); rintro e w' ⟨rfl, rfl⟩))
    | (go_at_call 17; ((with_reducible refine (mulv H8.out _).mono ?_); rintro e w' ⟨rfl, rfl⟩))
    | (go_at_call 17; ((with_reducible refine (mulv H9.out _).mono ?_); rintro e w' ⟨rfl, rfl⟩))
    | (go_at_call 17; ((with_reducible refine (mulv H12.out _).mono ?_); rintro e w' ⟨rfl, rfl⟩))
    | (go_at_call 14; ((with_reducible refine (add2v H1.out _ _ _ _ (by simp)).mono ?_); rintro e w' ⟨rfl, rfl⟩))
    | (go_at_call 14; ((with_reducible refine (add2v H2.out _ _ _ _ (by simp)).mono ?_); rintro e w' ⟨rfl, rfl⟩))
    | (go_at_call 14; ((with_reducible refine (add2v H11.out _ _ _ _ (by simp)).mono ?_); rintro e w' ⟨rfl, rfl⟩))
    | (go_at_call 14; ((with_reducible refine (add2v (H13.out (by omega) (by omega)) _ _ _ _ (by simp)).mono ?_); rintro e w' ⟨rfl, rfl⟩))
    | (go_at_call 14; ((with_reducible refine (add3v H10.out _ _ _ _ (by simp)).mono ?_); rintro e w' ⟨rfl, rfl⟩))
    | (go_at_call 14; ((with_reducible refine (add1v H7.out _ _ _ _ (by simp)).mono ?_); rintro e w' ⟨rfl, rfl⟩))
    | (go_at_call 24; refine (within_yes _ _ (by omega) (by omega)).mono ?_; rintro e w' ⟨rfl, rfl⟩)
    | (go_at_call 24; refine (within_no _ _ (by omega)).mono ?_; rintro e w' ⟨rfl, rfl⟩)
    | (go_at_call 19; refine (awake_any _).mono ?_; rintro e w' ⟨rfl, hbw⟩))
  go_ret
  exact ⟨rfl, Below.trans (by go_grown) (hbw.mono (by go_size))⟩
set_option maxRecDepth 100000 in
set_option maxHeartbeats 1000000 in
theorem within_2d (a b c s p d l s3 sac : Int) (w : World) (H1 : Hid (sumL [a, b] = s)) (H2 : Hid (sumL [b, a] = s)) (H3 : Hid (mulL a b = p)) (H4 : Hid (mulL b a = p)) (H5 : Hid (lim (lim a - lim b) = d)) (H6 : Hid (lim a = l)) (H7 : Hid (sumL [a] = l)) (H8 : Hid (mulL a 1 = l)) (H9 : Hid (mulL a 0 = 0))
    (H10 : Hid (sumL [a, b, c] = s3)) (H11 : Hid (sumL [a, c] = sac)) (H12 : Hid (mulL (a.tmod 1048576) (b.tmod 1048576) = a.tmod 1048576 * b.tmod 1048576)) (H13 : Hid (-1099511627776 ≤ b → b ≤ 1099511627776 → sumL [a, -b] = d))
    (bs : -1099511627776 ≤ s ∧ s ≤ 1099511627776) (bp : -1099511627776 ≤ p ∧ p ≤ 1099511627776) (bd : -1099511627776 ≤ d ∧ d ≤ 1099511627776) (bl : -1099511627776 ≤ l ∧ l ≤ 1099511627776) (b3 : -1099511627776 ≤ s3 ∧ s3 ≤ 1099511627776)
    (bx : -1099511627776 ≤ a.tmod 1048576 * b.tmod 1048576 ∧ a.tmod 1048576 * b.tmod 1048576 ≤ 1099511627776)
    (hbc : c < b) (hb1 : b < -1099511627776 ∨ 1099511627776 < b) (ha1 : -1099511627776 ≤ a) (ha2 : a ≤ 1099511627776) :
    Calls Try.prog 5 #[.int .i64 a, .int .i64 b, .int .i64 c] w fun e w' => e = .returned (.bool true) ∧ Below w.heap.size w w' := by
  go_enter Try.func5, Try.ntmps5
  go_wp2_with (first
    | (go_at_call 11; ((with_reducible refine (clampv H6.out _).mono ?_); rintro e w' ⟨rfl, rfl⟩))
    | (go_at_call 16; ((with_reducible refine (subv H5.out _).mono ?_); rintro e w' ⟨rfl, rfl⟩))
    | (go_at_call 17; ((with_reducible refine (mulv H3.out _).mono ?_); rintro e w' ⟨rfl, rfl⟩))
    | (go_at_call 17; ((with_reducible refine (mulv H4.out _).mono ?_); rintro e w' ⟨rfl, rfl⟩))
    | (go_at_call 17; ((with_reducible refine (mulv H8.out _).mono ?_); rintro e w' ⟨rfl, rfl⟩))
    | (go_at_call 17; ((with_reducible refine (mulv H9.out _).mono ?_); rintro e w' ⟨rfl, rfl⟩))
    | (go_at_call 17; ((with_reducible refine (mulv H12.out _).mono ?_); rintro e w' ⟨rfl, rfl⟩))
    | (go_at_call 14; ((with_reducible refine (add2v H1.out _ _ _ _ (by simp)).mono ?_); rintro e w' ⟨rfl, rfl⟩))
    | (go_at_call 14; ((with_reducible refine (add2v H2.out _ _ _ _ (by simp)).mono ?_); rintro e w' ⟨rfl, rfl⟩))
    | (go_at_call 14; ((with_reducible refine (add2v H11.out _ _ _ _ (by simp)).mono ?_); rintro e w' ⟨rfl, rfl⟩))
    | (go_at_call 14; ((with_reducible refine (add2v (H13.out (by omega) (by omega)) _ _ _ _ (by simp)).mono ?_); rintro e w' ⟨rfl, rfl⟩))
    | (go_at_call 14; ((with_reducible refine (add3v H10.out _ _ _ _ (by simp)).mono ?_); rintro e w' ⟨rfl, rfl⟩))
    | (go_at_call 14; ((with_reducible refine (add1v H7.out _ _ _ _ (by simp)).mono ?_); rintro e w' ⟨rfl, rfl⟩))
    | (go_at_call 24; refine (within_yes _ _ (by omega) (by omega)).mono ?_; rintro e w' ⟨rfl, rfl⟩)
    | (go_at_call 24; refine (within_no _ _ (by omega)).mono ?_; rintro e w' ⟨rfl, rfl⟩)
    | (go_at_call 19; refine (awake_any _).mono ?_; rintro e w' ⟨rfl, hbw⟩))
  go_ret
  exact ⟨rfl, Below.trans (by go_grown) (hbw.mono (by go_size))⟩
set_option maxRecDepth 100000 in
set_option maxHeartbeats 1000000 in
theorem within_2e (a b c s p d l s3 sac : Int) (w : World) (H1 : Hid (sumL [a, b] = s)) (H2 : Hid (sumL [b, a] = s)) (H3 : Hid (mulL a b = p)) (H4 : Hid (mulL b a = p)) (H5 : Hid (lim (lim a - lim b) = d)) (H6 : Hid (lim a = l)) (H7 : Hid (sumL [a] = l)) (H8 : Hid (mulL a 1 = l)) (H9 : Hid (mulL a 0 = 0))
    (H10 : Hid (sumL [a, b, c] = s3)) (H11 : Hid (sumL [a, c] = sac)) (H12 : Hid (mulL (a.tmod 1048576) (b.tmod 1048576) = a.tmod 1048576 * b.tmod 1048576)) (H13 : Hid (-1099511627776 ≤ b → b ≤ 1099511627776 → sumL [a, -b] = d))
    (bs : -1099511627776 ≤ s ∧ s ≤ 1099511627776) (bp : -1099511627776 ≤ p ∧ p ≤ 1099511627776) (bd : -1099511627776 ≤ d ∧ d ≤ 1099511627776) (bl : -1099511627776 ≤ l ∧ l ≤ 1099511627776) (b3 : -1099511627776 ≤ s3 ∧ s3 ≤ 1099511627776)
    (bx : -1099511627776 ≤ a.tmod 1048576 * b.tmod 1048576 ∧ a.tmod 1048576 * b.tmod 1048576 ≤ 1099511627776)
    (hbc : c < b) (hb1 : b < -1099511627776 ∨ 1099511627776 < b) (ha1 : a < -1099511627776 ∨ 1099511627776 < a) :
    Calls Try.prog 5 #[.int .i64 a, .int .i64 b, .int .i64 c] w fun e w' => e = .returned (.bool true) ∧ Below w.heap.size w w' := by
  go_enter Try.func5, Try.ntmps5
  go_wp2_with (first
    | (go_at_call 11; ((with_reducible refine (clampv H6.out _).mono ?_); rintro e w' ⟨rfl, rfl⟩))
    | (go_at_call 16; ((with_reducible refine (subv H5.out _).mono ?_); rintro e w' ⟨rfl, rfl⟩))
    | (go_at_call 17; ((with_reducible refine (mulv H3.out _).mono ?_); rintro e w' ⟨rfl, rfl⟩))
    | (go_at_call 17; ((with_reducible refine (mulv H4.out _).mono ?_); rintro e w' ⟨rfl, rfl⟩))
    | (go_at_call 17; ((with_reducible refine (mulv H8.out _).mono ?_); rintro e w' ⟨rfl, rfl⟩))
    | (go_at_call 17; ((with_reducible refine (mulv H9.out _).mono ?_); rintro e w' ⟨rfl, rfl⟩))
    | (go_at_call 17; ((with_reducible refine (mulv H12.out _).mono ?_); rintro e w' ⟨rfl, rfl⟩))
    | (go_at_call 14; ((with_reducible refine (add2v H1.out _ _ _ _ (by simp)).mono ?_); rintro e w' ⟨rfl, rfl⟩))
    | (go_at_call 14; ((with_reducible refine (add2v H2.out _ _ _ _ (by simp)).mono ?_); rintro e w' ⟨rfl, rfl⟩))
    | (go_at_call 14; ((with_reducible refine (add2v H11.out _ _ _ _ (by simp)).mono ?_); rintro e w' ⟨rfl, rfl⟩))
    | (go_at_call 14; ((with_reducible refine (add2v (H13.out (by omega) (by omega)) _ _ _ _ (by simp)).mono ?_); rintro e w' ⟨rfl, rfl⟩))
    | (go_at_call 14; ((with_reducible refine (add3v H10.out _ _ _ _ (by simp)).mono ?_); rintro e w' ⟨rfl, rfl⟩))
    | (go_at_call 14; ((with_reducible refine (add1v H7.out _ _ _ _ (by simp)).mono ?_); rintro e w' ⟨rfl, rfl⟩))
    | (go_at_call 24; refine (within_yes _ _ (by omega) (by omega)).mono ?_; rintro e w' ⟨rfl, rfl⟩)
    | (go_at_call 24; refine (within_no _ _ (by omega)).mono ?_; rintro e w' ⟨rfl, rfl⟩)
    | (go_at_call 19; refine (awake_any _).mono ?_; rintro e w' ⟨rfl, hbw⟩))
  go_ret
  exact ⟨rfl, Below.trans (by go_grown) (hbw.mono (by go_size))⟩

theorem within_law (a : Int) (_ : -9223372036854775808 ≤ a ∧ a ≤ 9223372036854775807) (b : Int) (_ : -9223372036854775808 ≤ b ∧ b ≤ 9223372036854775807) (c : Int) (_ : -9223372036854775808 ≤ c ∧ c ≤ 9223372036854775807) (w : World) :
    Calls Try.prog 5 #[.int .i64 a, .int .i64 b, .int .i64 c] w fun e w' => e = .returned (.bool true) ∧ Below w.heap.size w w' := by
  have ix := tmod20_bd a
  have iy := tmod20_bd b
  have ip := prod20 ix iy
  have H2 : Hid (sumL [b, a] = sumL [a, b]) := by rw [sum_two, sum_two, Int.add_comm]; exact rfl
  have H8 : Hid (mulL a 1 = lim a) := by unfold mulL; rw [show lim 1 = 1 from rfl, Int.mul_one, lim_lim]; exact rfl
  have H9 : Hid (mulL a 0 = 0) := by unfold mulL; rw [show lim 0 = 0 from rfl, Int.mul_zero]; exact rfl
  have H12 : Hid (mulL (a.tmod 1048576) (b.tmod 1048576) = a.tmod 1048576 * b.tmod 1048576) := by
    unfold mulL; rw [lim_in (n := a.tmod 1048576) (by omega) (by omega), lim_in (n := b.tmod 1048576) (by omega) (by omega), lim_in ip.1 ip.2]; exact rfl
  have H13 : Hid (-1099511627776 ≤ b → b ≤ 1099511627776 → sumL [a, -b] = lim (lim a - lim b)) := sub_eq_add a b
  have hb0 : (-1099511627776 ≤ b ∧ b ≤ 1099511627776) ∨ (b < -1099511627776 ∨ 1099511627776 < b) := by omega
  have ha0 : (-1099511627776 ≤ a ∧ a ≤ 1099511627776) ∨ (a < -1099511627776 ∨ 1099511627776 < a) := by omega
  have hs0 : (-1099511627776 ≤ a + b ∧ a + b ≤ 1099511627776) ∨ (a + b < -1099511627776 ∨ 1099511627776 < a + b) := by omega
  have hc0 : b ≤ c ∨ c < b := by omega
  rcases hc0 with hc | hc <;> rcases hb0 with ⟨hb1, hb2⟩ | hb1 <;> rcases ha0 with ⟨ha1, ha2⟩ | ha1
  · rcases hs0 with ⟨hs1, hs2⟩ | hs1
    · have e := usual ha1 ha2 hb1 hb2 hs1 hs2
      exact within_1a a b c _ _ _ _ _ _ w rfl H2 rfl (mulL_comm b a) rfl rfl (sum_one a) H8 H9 rfl rfl H12 H13 (sumL_bd _) (mulL_bd _ _) (lim_bd _) (lim_bd _) (sumL_bd _) ip hc (sum_mono a hc) hb1 hb2 ha1 ha2 hs1 hs2 (by rw [e]; exact beq_self_eq_true _) (by rw [e]; exact bne_self_eq_false _)
    · exact within_1b a b c _ _ _ _ _ _ w rfl H2 rfl (mulL_comm b a) rfl rfl (sum_one a) H8 H9 rfl rfl H12 H13 (sumL_bd _) (mulL_bd _ _) (lim_bd _) (lim_bd _) (sumL_bd _) ip hc (sum_mono a hc) hb1 hb2 ha1 ha2 hs1
  · exact within_1c a b c _ _ _ _ _ _ w rfl H2 rfl (mulL_comm b a) rfl rfl (sum_one a) H8 H9 rfl rfl H12 H13 (sumL_bd _) (mulL_bd _ _) (lim_bd _) (lim_bd _) (sumL_bd _) ip hc (sum_mono a hc) hb1 hb2 ha1
  · exact within_1d a b c _ _ _ _ _ _ w rfl H2 rfl (mulL_comm b a) rfl rfl (sum_one a) H8 H9 rfl rfl H12 H13 (sumL_bd _) (mulL_bd _ _) (lim_bd _) (lim_bd _) (sumL_bd _) ip hc (sum_mono a hc) hb1 ha1 ha2
  · exact within_1e a b c _ _ _ _ _ _ w rfl H2 rfl (mulL_comm b a) rfl rfl (sum_one a) H8 H9 rfl rfl H12 H13 (sumL_bd _) (mulL_bd _ _) (lim_bd _) (lim_bd _) (sumL_bd _) ip hc (sum_mono a hc) hb1 ha1
  · rcases hs0 with ⟨hs1, hs2⟩ | hs1
    · have e := usual ha1 ha2 hb1 hb2 hs1 hs2
      exact within_2a a b c _ _ _ _ _ _ w rfl H2 rfl (mulL_comm b a) rfl rfl (sum_one a) H8 H9 rfl rfl H12 H13 (sumL_bd _) (mulL_bd _ _) (lim_bd _) (lim_bd _) (sumL_bd _) ip hc hb1 hb2 ha1 ha2 hs1 hs2 (by rw [e]; exact beq_self_eq_true _) (by rw [e]; exact bne_self_eq_false _)
    · exact within_2b a b c _ _ _ _ _ _ w rfl H2 rfl (mulL_comm b a) rfl rfl (sum_one a) H8 H9 rfl rfl H12 H13 (sumL_bd _) (mulL_bd _ _) (lim_bd _) (lim_bd _) (sumL_bd _) ip hc hb1 hb2 ha1 ha2 hs1
  · exact within_2c a b c _ _ _ _ _ _ w rfl H2 rfl (mulL_comm b a) rfl rfl (sum_one a) H8 H9 rfl rfl H12 H13 (sumL_bd _) (mulL_bd _ _) (lim_bd _) (lim_bd _) (sumL_bd _) ip hc hb1 hb2 ha1
  · exact within_2d a b c _ _ _ _ _ _ w rfl H2 rfl (mulL_comm b a) rfl rfl (sum_one a) H8 H9 rfl rfl H12 H13 (sumL_bd _) (mulL_bd _ _) (lim_bd _) (lim_bd _) (sumL_bd _) ip hc hb1 ha1 ha2
  · exact within_2e a b c _ _ _ _ _ _ w rfl H2 rfl (mulL_comm b a) rfl rfl (sum_one a) H8 H9 rfl rfl H12 H13 (sumL_bd _) (mulL_bd _ _) (lim_bd _) (lim_bd _) (sumL_bd _) ip hc hb1 ha1
end Go.Proofs.Ytgcofbakfjlkfaa
