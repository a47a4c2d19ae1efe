import Derived.Test.YtnipifccalalhaaDoorLexMath
/- Scripts as rows of bytes: characters, numbers, tokens, as the document reads them. Nothing of the program stands here. -/
namespace Go.Proofs.YtnipifccalalhaaDoor
open Go
set_option linter.unusedVariables false
set_option linter.unusedSimpArgs false
/-- the character of n bytes that begins at k, byte by byte. -/
def runeP (s : ByteArray) (k : Nat) (base : Int) : Nat → Int
  | 0 => 0
  | 1 => bAt s k - base
  | n + 2 => 64 * runeP s k base (n + 1) + bAt s (k + (n + 1)) - 128
def firstB (n : Nat) : Int := if n = 2 then 192 else if n = 3 then 224 else if n = 4 then 240 else 0
def runeB (s : ByteArray) (k n : Nat) : Int := if n = 1 then bAt s k else runeP s k (firstB n) n
theorem runeP_bd (s : ByteArray) (k : Nat) {base : Int} (hb : 0 ≤ base ∧ base ≤ 255) : ∀ n, n ≤ 4 → -67907775 ≤ runeP s k base n ∧ runeP s k base n ≤ 67907775
  | 0, _ => by unfold runeP; omega
  | 1, _ => by have := bAt_bd s k; unfold runeP; omega
  | 2, _ => by have := bAt_bd s k; have := bAt_bd s (k + (0 + 1)); simp only [runeP]; omega
  | 3, _ => by have := bAt_bd s k; have := bAt_bd s (k + (0 + 1)); have := bAt_bd s (k + (1 + 1)); simp only [runeP]; omega
  | 4, _ => by have := bAt_bd s k; have := bAt_bd s (k + (0 + 1)); have := bAt_bd s (k + (1 + 1)); have := bAt_bd s (k + (2 + 1)); simp only [runeP]; omega
  | n + 5, h => absurd h (by omega)
theorem runeP_succ (s : ByteArray) (k : Nat) (base : Int) {n : Nat} (h : 1 ≤ n) : runeP s k base (n + 1) = 64 * runeP s k base n + bAt s (k + n) - 128 := by
  match n, h with
  | n + 1, _ => rfl
theorem moreB_lt {s : ByteArray} {i : Nat} : ∀ {n : Nat}, 0 < n → moreB s i n = true → i + n ≤ s.size
  | 0, h, _ => absurd h (by decide)
  | n + 1, _, h => by
    unfold moreB at h
    simp only [Bool.and_eq_true] at h
    have := inB_lt h.2; omega
/-- a character's bytes are all there. -/
theorem sizeB_in {s : ByteArray} {k : Nat} (h : 0 < sizeB s k) : k + sizeB s k ≤ s.size := by
  unfold sizeB at h ⊢
  split
  · rename_i c; have := inB_lt c; omega
  · rename_i c0
    rw [if_neg c0] at h
    split
    · rename_i c; simp only [Bool.and_eq_true] at c; have := moreB_lt (by decide) c.2; omega
    · rename_i c1
      rw [if_neg c1] at h
      split
      · rename_i c
        simp only [Bool.or_eq_true, Bool.and_eq_true] at c
        rcases c with ((⟨_, c⟩ | ⟨_, c⟩) | ⟨_, c⟩) | ⟨_, c⟩ <;> (have := moreB_lt (by decide) c; omega)
      · rename_i c2
        rw [if_neg c2] at h
        split
        · rename_i c
          simp only [Bool.or_eq_true, Bool.and_eq_true] at c
          rcases c with (⟨_, c⟩ | ⟨_, c⟩) | ⟨_, c⟩ <;> (have := moreB_lt (by decide) c; omega)
        · rename_i c3; rw [if_neg c3] at h; exact absurd h (by decide)

/-! ### whether a text is well-formed -/
def textF (s : ByteArray) : Nat → Nat → Option Nat
  | 0, _ => none
  | f + 1, k => if k < s.size then (if sizeB s k = 0 then some k else textF s f (k + sizeB s k)) else none
/-- the first place at which no character begins. -/
def textB (s : ByteArray) : Option Nat := textF s (s.size + 1) 0
theorem textF_step {s : ByteArray} {f k : Nat} (h : k < s.size) (hf : s.size ≤ k + f) (hz : sizeB s k ≠ 0) : ∃ f', s.size ≤ (k + sizeB s k) + f' ∧ textF s f k = textF s f' (k + sizeB s k) := by
  match f, hf with
  | 0, hf => exact absurd h (by omega)
  | f + 1, hf => exact ⟨f, by omega, by rw [textF, if_pos h, if_neg hz]⟩
theorem textF_bad {s : ByteArray} {f k : Nat} (h : k < s.size) (hf : s.size ≤ k + f) (hz : sizeB s k = 0) : textF s f k = some k := by
  match f, hf with
  | 0, hf => exact absurd h (by omega)
  | f + 1, hf => rw [textF, if_pos h, if_pos hz]
theorem textF_end {s : ByteArray} {f k : Nat} (h : ¬ k < s.size) : textF s f k = none := by
  cases f with
  | zero => rfl
  | succ f => rw [textF, if_neg h]

/-! ### tokens -/
structure Tok where
  kind : Int
  sign : Int
  n : Int
  at_ : Int
  deriving DecidableEq
def digB (s : ByteArray) (k : Nat) : Bool := inB s k 48 57
/-- a number's digits, read on from e with n read so far. -/
def numF (s : ByteArray) : Nat → Int → Nat → Int × Nat
  | 0, n, e => (n, e)
  | f + 1, n, e => if digB s e then numF s f (min (10 * n + (bAt s e - 48)) 2199023255552) (e + 1) else (n, e)
def numB (s : ByteArray) (k : Nat) : Int × Nat := numF s (s.size + 1) 0 k
theorem numF_step {s : ByteArray} {f e : Nat} {n : Int} (h : digB s e = true) (hf : s.size ≤ e + f) : ∃ f', s.size ≤ (e + 1) + f' ∧ numF s f n e = numF s f' (min (10 * n + (bAt s e - 48)) 2199023255552) (e + 1) := by
  have hl := inB_lt h
  match f, hf with
  | 0, hf => omega
  | f + 1, hf => exact ⟨f, by omega, by rw [numF, if_pos h]⟩
theorem numF_end {s : ByteArray} {f e : Nat} {n : Int} (h : digB s e = false) : numF s f n e = (n, e) := by
  cases f with
  | zero => rfl
  | succ f => rw [numF, h]; rfl
def lexF (s : ByteArray) : Nat → Bool → Nat → List Tok → Option (List Tok) × Nat
  | 0, _, _, out => (some out, 0)
  | f + 1, c, k, out =>
    if k < s.size then
      if sizeB s k = 0 then (none, k)
      else if c then lexF s f (decide (bAt s k ≠ 10)) (k + sizeB s k) out
      else if bAt s k = 35 then lexF s f true (k + 1) out
      else if bAt s k = 32 ∨ bAt s k = 9 ∨ bAt s k = 10 then lexF s f false (k + 1) out
      else if digB s k then
        if 1099511627776 < (numB s k).1 ∨ (bAt s k = 48 ∧ k + 1 < (numB s k).2) then (none, k) else lexF s f false (numB s k).2 (out ++ [⟨2, 0, (numB s k).1, k⟩])
      else lexF s f false (k + sizeB s k) (out ++ [⟨1, runeB s k (sizeB s k), 0, k⟩])
    else (some out, 0)
/-- the document's reading: the tokens, or the place of the error. -/
def lexB (s : ByteArray) : Option (List Tok) × Nat := lexF s (s.size + 1) false 0 []
theorem lexF_end {s : ByteArray} {f k : Nat} {c : Bool} {out : List Tok} (h : ¬ k < s.size) : lexF s f c k out = (some out, 0) := by
  cases f with
  | zero => rfl
  | succ f => rw [lexF, if_neg h]
theorem lexF_open {s : ByteArray} {f k : Nat} {c : Bool} {out : List Tok} (h : k < s.size) (hf : s.size ≤ k + f) : ∃ f', f = f' + 1 ∧ s.size ≤ k + 1 + f' ∧ lexF s f c k out =
      if sizeB s k = 0 then (none, k)
      else if c then lexF s f' (decide (bAt s k ≠ 10)) (k + sizeB s k) out
      else if bAt s k = 35 then lexF s f' true (k + 1) out
      else if bAt s k = 32 ∨ bAt s k = 9 ∨ bAt s k = 10 then lexF s f' false (k + 1) out
      else if digB s k then
        if 1099511627776 < (numB s k).1 ∨ (bAt s k = 48 ∧ k + 1 < (numB s k).2) then (none, k) else lexF s f' false (numB s k).2 (out ++ [⟨2, 0, (numB s k).1, k⟩])
      else lexF s f' false (k + sizeB s k) (out ++ [⟨1, runeB s k (sizeB s k), 0, k⟩]) := by
  match f, hf with
  | 0, hf => exact absurd h (by omega)
  | f + 1, hf => exact ⟨f, rfl, by omega, by rw [lexF, if_pos h]⟩
/-- a number's end: behind its first digit. -/
theorem numF_le {s : ByteArray} : ∀ (f : Nat) (n : Int) (e : Nat), e ≤ (numF s f n e).2
  | 0, _, _ => Nat.le_refl _
  | f + 1, n, e => by
    rw [numF]; split
    · have := numF_le (s := s) f (min (10 * n + (bAt s e - 48)) 2199023255552) (e + 1); omega
    · exact Nat.le_refl _
theorem numB_gt {s : ByteArray} {k : Nat} (h : digB s k = true) : k + 1 ≤ (numB s k).2 := by
  unfold numB
  rw [numF, if_pos h]
  exact numF_le _ _ _
end Go.Proofs.YtnipifccalalhaaDoor
