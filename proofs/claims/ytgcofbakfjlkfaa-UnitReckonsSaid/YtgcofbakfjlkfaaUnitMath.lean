/- Plain numbers: lengths clamped, sums, products, parts. Nothing of the program stands here. -/
namespace Go.Proofs.Ytgcofbakfjlkfaa

def lim (n : Int) : Int := if 1099511627776 < n then 1099511627776 else if n < -1099511627776 then -1099511627776 else n
theorem lim_bd (n : Int) : -1099511627776 ≤ lim n ∧ lim n ≤ 1099511627776 := by unfold lim; omega
theorem lim_in {n : Int} (h1 : -1099511627776 ≤ n) (h2 : n ≤ 1099511627776) : lim n = n := by unfold lim; omega
theorem lim_hi {n : Int} (h : 1099511627776 < n) : lim n = 1099511627776 := by unfold lim; omega
theorem lim_lo {n : Int} (h : n < -1099511627776) : lim n = -1099511627776 := by unfold lim; omega
theorem lim_lim (n : Int) : lim (lim n) = lim n := lim_in (lim_bd n).1 (lim_bd n).2
theorem lim_neg (n : Int) : lim (-n) = -lim n := by unfold lim; omega
theorem lim_nonneg {n : Int} (h : 0 ≤ n) : 0 ≤ lim n := by unfold lim; omega
theorem lim_mono {a b : Int} (h : a ≤ b) : lim a ≤ lim b := by unfold lim; omega

/-- the sum, each number clamped ahead of it, and the sum behind it. -/
def sumL (l : List Int) : Int := l.foldl (fun s n => lim (s + lim n)) 0
theorem sumL_snoc (l : List Int) (n : Int) : sumL (l ++ [n]) = lim (sumL l + lim n) := by unfold sumL; rw [List.foldl_append]; rfl
theorem sumL_bd (l : List Int) : -1099511627776 ≤ sumL l ∧ sumL l ≤ 1099511627776 := by
  rcases List.eq_nil_or_concat l with rfl | ⟨m, x, rfl⟩
  · exact ⟨by decide, by decide⟩
  · rw [List.concat_eq_append, sumL_snoc]; exact lim_bd _

/-- the product of both, clamped. -/
def mulL (a n : Int) : Int := lim (lim a * lim n)
theorem mulL_comm (a n : Int) : mulL a n = mulL n a := by unfold mulL; rw [Int.mul_comm]

theorem abs_max (n : Int) : max n (-n) = (n.natAbs : Int) := by omega

theorem mul_fits {a n : Int} (h0 : a ≠ 0) (h : (n.natAbs : Int) ≤ 1099511627776 / (a.natAbs : Int)) : -1099511627776 ≤ a * n ∧ a * n ≤ 1099511627776 := by
  have hp : (0 : Int) < (a.natAbs : Int) := by omega
  have h1 : (n.natAbs : Int) * (a.natAbs : Int) ≤ 1099511627776 := by
    have := Int.mul_le_mul_of_nonneg_right h (Int.le_of_lt hp)
    have h2 := Int.ediv_mul_le 1099511627776 (show (a.natAbs : Int) ≠ 0 by omega)
    omega
  have h2 : ((a * n).natAbs : Int) = (n.natAbs : Int) * (a.natAbs : Int) := by
    rw [Int.natAbs_mul]; push_cast; rw [Int.mul_comm]
  omega
theorem mul_over {a n : Int} (h0 : a ≠ 0) (h : 1099511627776 / (a.natAbs : Int) < (n.natAbs : Int)) : (1099511627776 : Int) < ((a * n).natAbs : Int) := by
  have hp : (0 : Int) < (a.natAbs : Int) := by omega
  have h1 := Int.lt_mul_of_ediv_lt hp h
  have h2 : ((a * n).natAbs : Int) = (n.natAbs : Int) * (a.natAbs : Int) := by
    rw [Int.natAbs_mul]; push_cast; rw [Int.mul_comm]
  omega
theorem mul_sign {a n : Int} (h : (1099511627776 : Int) < ((a * n).natAbs : Int)) : (a < 0 ↔ n < 0) ↔ 1099511627776 < a * n := by
  rcases Int.lt_trichotomy a 0 with ha | ha | ha <;> rcases Int.lt_trichotomy n 0 with hn | hn | hn
  · have := Int.mul_pos_of_neg_of_neg ha hn; omega
  · subst hn; simp at h
  · have := Int.mul_neg_of_neg_of_pos ha hn; omega
  · subst ha; simp at h
  · subst ha; simp at h
  · subst ha; simp at h
  · have := Int.mul_neg_of_pos_of_neg ha hn; omega
  · subst hn; simp at h
  · have := Int.mul_pos ha hn; omega

/-- parts of b that reach a. -/
def partsN (a b : Int) : Int := if lim a < 0 ∨ lim b < 1 then 0 else (lim a + lim b - 1) / lim b
def partsB (a b : Int) : Bool := !(decide (lim a < 0) || decide (lim b < 1))

/-- whole pixels, and what is left. -/
def pixW (n : Int) : Int := lim n / 64
def pixR (n : Int) : Int := lim n % 64

/-- the least, the greatest one: 0 of none. -/
def leastL : List Int → Int
  | [] => 0
  | x :: r => r.foldl (fun b y => if y < b then y else b) x
def greatestL : List Int → Int
  | [] => 0
  | x :: r => r.foldl (fun b y => if b < y then y else b) x
theorem leastL_snoc (l : List Int) (x : Int) : leastL (l ++ [x]) = if l = [] ∨ x < leastL l then x else leastL l := by
  cases l with
  | nil => simp [leastL]
  | cons y r => simp [leastL, List.foldl_append]
theorem greatestL_snoc (l : List Int) (x : Int) : greatestL (l ++ [x]) = if l = [] ∨ greatestL l < x then x else greatestL l := by
  cases l with
  | nil => simp [greatestL]
  | cons y r => simp [greatestL, List.foldl_append]

theorem take_snoc_getD (l : List Int) (k : Nat) (h : k < l.length) : l.take (k + 1) = l.take k ++ [l[k]?.getD 0] := by
  rw [List.take_succ_eq_append_getElem h]; simp [h]

theorem tmod64_eq (m : Int) : m.tmod 64 = m % 64 - (if 0 ≤ m ∨ 64 ∣ m then 0 else 64) := by
  rw [Int.tmod_eq_emod]; split <;> rfl
theorem tmod64 (m : Int) : -64 < m.tmod 64 ∧ m.tmod 64 < 64 := by
  have h := tmod64_eq m
  split at h <;> omega
theorem tmod64_neg {m : Int} (h : m.tmod 64 < 0) : m.tmod 64 + 64 = m % 64 := by
  have e := tmod64_eq m
  split at e <;> omega
theorem tmod64_pos {m : Int} (h : 0 ≤ m.tmod 64) : m.tmod 64 = m % 64 := by
  have e := tmod64_eq m
  split at e <;> omega
theorem tdiv64_rest (m : Int) : (m - m % 64).tdiv 64 = m / 64 := by
  rw [Int.tdiv_eq_ediv_of_dvd (by omega)]; omega
theorem tdiv64_neg {m : Int} (h : m.tmod 64 < 0) : m.tdiv 64 - 1 = m / 64 := by
  have e := tmod64_neg h
  have k := Int.mul_tdiv_add_tmod m 64
  omega
theorem tdiv64_pos {m : Int} (h : 0 ≤ m.tmod 64) : m.tdiv 64 = m / 64 := by
  have e := tmod64_pos h
  have k := Int.mul_tdiv_add_tmod m 64
  omega
theorem pix_facts (n : Int) : pixW n * 64 + pixR n = lim n ∧ 0 ≤ pixR n ∧ pixR n < 64 ∧ -1099511627776 ≤ pixW n ∧ pixW n ≤ 1099511627776 := by
  have := lim_bd n
  unfold pixW pixR; omega
theorem parts_facts {a b : Int} (h1 : ¬ lim a < 0) (h2 : ¬ lim b < 1) : 0 ≤ partsN a b ∧ partsN a b ≤ 1099511627776 ∧ (partsN a b - 1) * lim b < lim a ∧ -1099511627776 ≤ (partsN a b - 1) * lim b ∧ lim a ≤ partsN a b * lim b ∧ partsN a b * lim b ≤ 2199023255552 ∧ partsN a b ≤ lim a := by
  have ha := lim_bd a
  have hb := lim_bd b
  have e : partsN a b = (lim a + lim b - 1) / lim b := by unfold partsN; rw [if_neg (by omega)]
  have k := Int.mul_ediv_add_emod (lim a + lim b - 1) (lim b)
  have m1 := Int.emod_nonneg (lim a + lim b - 1) (show lim b ≠ 0 by omega)
  have m2 := Int.emod_lt_of_pos (lim a + lim b - 1) (show 0 < lim b by omega)
  have q := Int.ediv_nonneg (show 0 ≤ lim a + lim b - 1 by omega) (show 0 ≤ lim b by omega)
  rw [← e] at k q
  rw [Int.mul_comm] at k
  have s1 : (partsN a b - 1) * lim b = partsN a b * lim b - lim b := by rw [Int.sub_mul, Int.one_mul]
  have q1 : 0 ≤ partsN a b * lim b := Int.mul_nonneg q (by omega)
  have q2 : partsN a b * 1 ≤ partsN a b * lim b := Int.mul_le_mul_of_nonneg_left (by omega) q
  have q3 : partsN a b ≤ lim a := by
    rw [e]
    rcases (show lim a < 1 ∨ 1 ≤ lim a by omega) with h | h
    · have h0 : lim a = 0 := by omega
      rw [h0, Int.zero_add, Int.ediv_eq_zero_of_lt (by omega) (by omega)]; exact Int.le_refl _
    · have : lim a + lim b - 1 ≤ lim a * lim b := by
        have h3 : 0 ≤ (lim a - 1) * (lim b - 1) := Int.mul_nonneg (by omega) (by omega)
        have h4 : (lim a - 1) * (lim b - 1) = lim a * lim b - lim a - lim b + 1 := by
          rw [Int.sub_mul, Int.mul_sub, Int.mul_one, Int.one_mul]; omega
        omega
      exact Int.le_trans (Int.ediv_le_ediv (by omega) this) (by rw [Int.mul_ediv_cancel _ (by omega)]; exact Int.le_refl _)
  refine ⟨q, by omega, by omega, by omega, by omega, by omega, q3⟩
end Go.Proofs.Ytgcofbakfjlkfaa
