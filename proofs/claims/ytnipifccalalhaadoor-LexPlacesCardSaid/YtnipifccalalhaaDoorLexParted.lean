import Derived.Test.YtnipifccalalhaaDoorLexMath2
/- Two scripts, one behind the other, with a LF between: how the document reads them. Nothing of the program stands here. -/
namespace Go.Proofs.YtnipifccalalhaaDoor
open Go
set_option linter.unusedVariables false
set_option linter.unusedSimpArgs false
/-- t is a, LF, b. -/
structure Parted (a b t : ByteArray) : Prop where
  size : t.size = a.size + 1 + b.size
  head : ∀ i, i < a.size → bAt t i = bAt a i
  lf : bAt t a.size = 10
  tail : ∀ i, i < b.size → bAt t (a.size + 1 + i) = bAt b i
section
variable {a b t : ByteArray} (h : Parted a b t)
include h
theorem Parted.inB_head {i : Nat} (hi : i < a.size) (lo hi' : Int) : inB t i lo hi' = inB a i lo hi' := by
  have hs := h.size
  rw [inB_at (by omega), inB_at hi, h.head i hi]
theorem Parted.inB_lf {lo hi' : Int} (hlo : 10 < lo) : inB t a.size lo hi' = false := inB_no (.inl (by rw [h.lf]; exact hlo))
theorem Parted.inB_tail (i : Nat) (lo hi' : Int) : inB t (a.size + 1 + i) lo hi' = inB b i lo hi' := by
  have hs := h.size
  by_cases hi : i < b.size
  · rw [inB_at (by omega), inB_at hi, h.tail i hi]
  · rw [inB_ge (by omega), inB_ge hi]
/-- up to LF. -/
theorem Parted.inB_le {i : Nat} (hi : i ≤ a.size) {lo hi' : Int} (hlo : 10 < lo) : inB t i lo hi' = inB a i lo hi' := by
  rcases Nat.lt_or_ge i a.size with k | k
  · exact h.inB_head k lo hi'
  · obtain rfl : i = a.size := by omega
    rw [h.inB_lf hlo, inB_ge (by omega)]
theorem Parted.moreB_head {i : Nat} (hi : i ≤ a.size) : ∀ n, moreB t i n = moreB a i n
  | 0 => rfl
  | n + 1 => by
    have ih := Parted.moreB_head hi n
    show (moreB t i n && inB t (i + n) 128 191) = (moreB a i n && inB a (i + n) 128 191)
    rcases Nat.lt_or_ge a.size (i + n) with k | k
    · have e1 : moreB t i n = false := moreB_no (j := a.size - i) (by omega) (by rw [show i + (a.size - i) = a.size by omega]; exact h.inB_lf (by decide))
      rw [← ih, e1]; rfl
    · rw [ih, h.inB_le k (by decide)]
theorem Parted.moreB_tail (i : Nat) : ∀ n, moreB t (a.size + 1 + i) n = moreB b i n
  | 0 => rfl
  | n + 1 => by
    show (moreB t (a.size + 1 + i) n && inB t (a.size + 1 + i + n) 128 191) = (moreB b i n && inB b (i + n) 128 191)
    rw [Parted.moreB_tail i n, Nat.add_assoc, h.inB_tail]
theorem Parted.two_head {k : Nat} (hk : k < a.size) {lo hi' : Int} (hlo : 10 < lo) (n : Nat) : (inB t (k + 1) lo hi' && moreB t (k + 2) n) = (inB a (k + 1) lo hi' && moreB a (k + 2) n) := by
  rw [h.inB_le (by omega) hlo]
  rcases Nat.lt_or_ge (k + 1) a.size with c | c
  · rw [h.moreB_head (by omega)]
  · rw [inB_ge (by omega)]; rfl
theorem Parted.sizeB_head {k : Nat} (hk : k < a.size) : sizeB t k = sizeB a k := by
  unfold sizeB
  simp only [h.inB_head hk, h.moreB_head (show k + 1 ≤ a.size by omega), Bool.and_assoc, h.two_head hk (show (10 : Int) < 160 by decide), h.two_head hk (show (10 : Int) < 128 by decide), h.two_head hk (show (10 : Int) < 144 by decide)]
theorem Parted.sizeB_tail (i : Nat) : sizeB t (a.size + 1 + i) = sizeB b i := by
  unfold sizeB
  simp only [h.inB_tail, Nat.add_assoc (a.size + 1) i, h.moreB_tail]
theorem Parted.digB_head {k : Nat} (hk : k ≤ a.size) : digB t k = digB a k := h.inB_le hk (by decide)
theorem Parted.digB_tail (i : Nat) : digB t (a.size + 1 + i) = digB b i := h.inB_tail i 48 57
theorem Parted.numF_head : ∀ (f f' : Nat) (n : Int) (e : Nat), e ≤ a.size → a.size ≤ e + f → t.size ≤ e + f' → numF t f' n e = numF a f n e := by
  intro f
  induction f with
  | zero =>
    intro f' n e he hf hf'
    have hd : digB a e = false := inB_ge (by omega) _ _
    rw [numF_end (by rw [h.digB_head he]; exact hd), numF_end hd]
  | succ f ih =>
    intro f' n e he hf hf'
    rcases hd : digB a e with _ | _
    · rw [numF_end (by rw [h.digB_head he]; exact hd), numF_end hd]
    · have hl := inB_lt hd
      have hs := h.size
      match f', hf' with
      | 0, hf' => omega
      | f' + 1, hf' =>
        rw [numF, h.digB_head he, hd, if_pos rfl, h.head e hl, numF, hd, if_pos rfl]
        exact ih f' _ (e + 1) (by omega) (by omega) (by omega)
theorem Parted.numB_head {k : Nat} (hk : k < a.size) : numB t k = numB a k := by
  have hs := h.size
  exact h.numF_head _ _ 0 k (by omega) (by omega) (by omega)
theorem Parted.numF_tail : ∀ (f f' : Nat) (n : Int) (e : Nat), b.size ≤ e + f → t.size ≤ (a.size + 1 + e) + f' → numF t f' n (a.size + 1 + e) = ((numF b f n e).1, a.size + 1 + (numF b f n e).2) := by
  intro f
  induction f with
  | zero =>
    intro f' n e hf hf'
    have hd : digB b e = false := inB_ge (by omega) _ _
    rw [numF_end (by rw [h.digB_tail]; exact hd), numF_end hd]
  | succ f ih =>
    intro f' n e hf hf'
    have hs := h.size
    rcases hd : digB b e with _ | _
    · rw [numF_end (by rw [h.digB_tail]; exact hd), numF_end hd]
    · have hl := inB_lt hd
      match f', hf' with
      | 0, hf' => omega
      | f' + 1, hf' =>
        rw [numF, h.digB_tail, hd, if_pos rfl, h.tail e hl, Nat.add_assoc (a.size + 1) e 1]
        rw [ih f' _ (e + 1) (by omega) (by omega)]
        rw [numF, hd, if_pos rfl]
theorem Parted.numB_tail (k : Nat) : numB t (a.size + 1 + k) = ((numB b k).1, a.size + 1 + (numB b k).2) := by
  have hs := h.size
  exact h.numF_tail _ _ 0 k (by omega) (by omega)
theorem Parted.runeP_head {k : Nat} (base : Int) : ∀ n, k + n ≤ a.size → runeP t k base n = runeP a k base n
  | 0, _ => rfl
  | 1, hn => by show bAt t k - base = bAt a k - base; rw [h.head k (by omega)]
  | n + 2, hn => by
    show 64 * runeP t k base (n + 1) + bAt t (k + (n + 1)) - 128 = 64 * runeP a k base (n + 1) + bAt a (k + (n + 1)) - 128
    rw [Parted.runeP_head base (n + 1) (by omega), h.head _ (by omega)]
theorem Parted.runeB_head {k n : Nat} (hn : k + n ≤ a.size) : runeB t k n = runeB a k n := by
  unfold runeB
  split
  · rename_i e; subst e; exact h.head k (by omega)
  · exact h.runeP_head _ n hn
theorem Parted.runeP_tail {k : Nat} (base : Int) : ∀ n, k + n ≤ b.size → runeP t (a.size + 1 + k) base n = runeP b k base n
  | 0, _ => rfl
  | 1, hn => by show bAt t (a.size + 1 + k) - base = bAt b k - base; rw [h.tail k (by omega)]
  | n + 2, hn => by
    show 64 * runeP t (a.size + 1 + k) base (n + 1) + bAt t (a.size + 1 + k + (n + 1)) - 128 = 64 * runeP b k base (n + 1) + bAt b (k + (n + 1)) - 128
    rw [Parted.runeP_tail base (n + 1) (by omega), Nat.add_assoc (a.size + 1), h.tail _ (by omega)]
theorem Parted.runeB_tail {k n : Nat} (hn : k + n ≤ b.size) : runeB t (a.size + 1 + k) n = runeB b k n := by
  unfold runeB
  split
  · rename_i e; subst e; exact h.tail k (by omega)
  · exact h.runeP_tail _ n hn
end
end Go.Proofs.YtnipifccalalhaaDoor
