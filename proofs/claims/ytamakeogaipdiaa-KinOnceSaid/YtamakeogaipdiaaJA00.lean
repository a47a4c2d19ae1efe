import Derived.Handy
import Derived.Lib.DecodeN
import Derived.WalkKit
import Derived.ProofKit
import Derived.OpenShut
import Derived.Lib.Hide
import Derived.Carry
import Derived.ReadAgain
import Derived.Deep.Draws
import Derived.OwnWalk
import Derived.Laws.OwnMore
import Derived.Deep.QuietTactic
/- Scripts as rows of bytes: the characters' table, as the document has it. Nothing of the program stands here. -/
namespace Go.Proofs.Ytamakeogaipdiaa
open Go
set_option linter.unusedVariables false
/-- byte i, as a number. -/
def bAt (s : ByteArray) (i : Nat) : Int := ((s.get! i).toNat : Int)
theorem bAt_bd (s : ByteArray) (i : Nat) : 0 ≤ bAt s i ∧ bAt s i ≤ 255 := by
  unfold bAt
  have := (s.get! i).toNat_lt
  omega
theorem bAt_get (s : ByteArray) (i : Nat) (h : i < s.size) : ((s[i]'h).toNat : Int) = bAt s i := by
  unfold bAt
  congr 2
  show s[i] = s.data[i]!
  rw [getElem!_pos s.data i h]
  rfl
/-- byte i is there, and is one from a to b. -/
def inB (s : ByteArray) (i : Nat) (a b : Int) : Bool := decide (i < s.size) && decide (a ≤ bAt s i) && decide (bAt s i ≤ b)
def moreB (s : ByteArray) (i : Nat) : Nat → Bool
  | 0 => true
  | n + 1 => moreB s i n && inB s (i + n) 128 191
/-- how many bytes the character has that begins at i; 0: none does. -/
def sizeB (s : ByteArray) (i : Nat) : Nat :=
  if inB s i 0 127 then 1
  else if inB s i 194 223 && moreB s (i + 1) 1 then 2
  else if inB s i 224 224 && inB s (i + 1) 160 191 && moreB s (i + 2) 1 || inB s i 225 236 && moreB s (i + 1) 2 || inB s i 237 237 && inB s (i + 1) 128 159 && moreB s (i + 2) 1 || inB s i 238 239 && moreB s (i + 1) 2 then 3
  else if inB s i 240 240 && inB s (i + 1) 144 191 && moreB s (i + 2) 2 || inB s i 241 243 && moreB s (i + 1) 3 || inB s i 244 244 && inB s (i + 1) 128 143 && moreB s (i + 2) 2 then 4
  else 0
theorem sizeB_le (s : ByteArray) (i : Nat) : sizeB s i ≤ 4 := by unfold sizeB; (repeat' split) <;> omega
theorem inB_lt {s : ByteArray} {i : Nat} {a b : Int} (h : inB s i a b = true) : i < s.size := by
  unfold inB at h; simp at h; exact h.1.1
theorem inB_ge {s : ByteArray} {i : Nat} (h : ¬ i < s.size) (a b : Int) : inB s i a b = false := by unfold inB; simp [h]
theorem inB_at {s : ByteArray} {i : Nat} (h : i < s.size) (a b : Int) : inB s i a b = (decide (a ≤ bAt s i) && decide (bAt s i ≤ b)) := by unfold inB; simp [h]
theorem inB_yes {s : ByteArray} {i : Nat} (h : i < s.size) {a b : Int} (h1 : a ≤ bAt s i) (h2 : bAt s i ≤ b) : inB s i a b = true := by unfold inB; simp [h, h1, h2]
theorem inB_no {s : ByteArray} {i : Nat} {a b : Int} (h : bAt s i < a ∨ b < bAt s i) : inB s i a b = false := by
  unfold inB
  rcases h with h | h
  · rw [decide_eq_false (show ¬ a ≤ bAt s i by omega)]; simp
  · rw [decide_eq_false (show ¬ bAt s i ≤ b by omega)]; simp
theorem moreB_no {s : ByteArray} {i : Nat} : ∀ {n j : Nat}, j < n → inB s (i + j) 128 191 = false → moreB s i n = false
  | 0, _, h, _ => absurd h (Nat.not_lt_zero _)
  | n + 1, j, h, hj => by
    unfold moreB
    by_cases e : j = n
    · subst e; rw [hj, Bool.and_false]
    · rw [moreB_no (n := n) (by omega) hj, Bool.false_and]
/-- which of the table's rows a first byte is of: of one at most. -/
theorem byte_classes (s : ByteArray) (k : Nat) :
    (inB s k 0 127 = false ∧ inB s k 194 223 = false ∧ inB s k 224 224 = false ∧ inB s k 225 236 = false ∧ inB s k 237 237 = false ∧ inB s k 238 239 = false ∧ inB s k 240 240 = false ∧ inB s k 241 243 = false ∧ inB s k 244 244 = false) ∨
    (inB s k 0 127 = true ∧ inB s k 194 223 = false ∧ inB s k 224 224 = false ∧ inB s k 225 236 = false ∧ inB s k 237 237 = false ∧ inB s k 238 239 = false ∧ inB s k 240 240 = false ∧ inB s k 241 243 = false ∧ inB s k 244 244 = false) ∨
    (inB s k 0 127 = false ∧ inB s k 194 223 = true ∧ inB s k 224 224 = false ∧ inB s k 225 236 = false ∧ inB s k 237 237 = false ∧ inB s k 238 239 = false ∧ inB s k 240 240 = false ∧ inB s k 241 243 = false ∧ inB s k 244 244 = false) ∨
    (inB s k 0 127 = false ∧ inB s k 194 223 = false ∧ inB s k 224 224 = true ∧ inB s k 225 236 = false ∧ inB s k 237 237 = false ∧ inB s k 238 239 = false ∧ inB s k 240 240 = false ∧ inB s k 241 243 = false ∧ inB s k 244 244 = false) ∨
    (inB s k 0 127 = false ∧ inB s k 194 223 = false ∧ inB s k 224 224 = false ∧ inB s k 225 236 = true ∧ inB s k 237 237 = false ∧ inB s k 238 239 = false ∧ inB s k 240 240 = false ∧ inB s k 241 243 = false ∧ inB s k 244 244 = false) ∨
    (inB s k 0 127 = false ∧ inB s k 194 223 = false ∧ inB s k 224 224 = false ∧ inB s k 225 236 = false ∧ inB s k 237 237 = true ∧ inB s k 238 239 = false ∧ inB s k 240 240 = false ∧ inB s k 241 243 = false ∧ inB s k 244 244 = false) ∨
    (inB s k 0 127 = false ∧ inB s k 194 223 = false ∧ inB s k 224 224 = false ∧ inB s k 225 236 = false ∧ inB s k 237 237 = false ∧ inB s k 238 239 = true ∧ inB s k 240 240 = false ∧ inB s k 241 243 = false ∧ inB s k 244 244 = false) ∨
    (inB s k 0 127 = false ∧ inB s k 194 223 = false ∧ inB s k 224 224 = false ∧ inB s k 225 236 = false ∧ inB s k 237 237 = false ∧ inB s k 238 239 = false ∧ inB s k 240 240 = true ∧ inB s k 241 243 = false ∧ inB s k 244 244 = false) ∨
    (inB s k 0 127 = false ∧ inB s k 194 223 = false ∧ inB s k 224 224 = false ∧ inB s k 225 236 = false ∧ inB s k 237 237 = false ∧ inB s k 238 239 = false ∧ inB s k 240 240 = false ∧ inB s k 241 243 = true ∧ inB s k 244 244 = false) ∨
    (inB s k 0 127 = false ∧ inB s k 194 223 = false ∧ inB s k 224 224 = false ∧ inB s k 225 236 = false ∧ inB s k 237 237 = false ∧ inB s k 238 239 = false ∧ inB s k 240 240 = false ∧ inB s k 241 243 = false ∧ inB s k 244 244 = true) := by
  have hb := bAt_bd s k
  by_cases hk : k < s.size
  · rcases (show (128 ≤ bAt s k ∧ bAt s k ≤ 193) ∨ 245 ≤ bAt s k ∨ bAt s k ≤ 127 ∨ (194 ≤ bAt s k ∧ bAt s k ≤ 223) ∨ bAt s k = 224 ∨ (225 ≤ bAt s k ∧ bAt s k ≤ 236) ∨ bAt s k = 237 ∨ (238 ≤ bAt s k ∧ bAt s k ≤ 239) ∨ bAt s k = 240 ∨ (241 ≤ bAt s k ∧ bAt s k ≤ 243) ∨ bAt s k = 244 by omega) with h | h | h | h | h | h | h | h | h | h | h
    · exact .inl (⟨inB_no (by omega), inB_no (by omega), inB_no (by omega), inB_no (by omega), inB_no (by omega), inB_no (by omega), inB_no (by omega), inB_no (by omega), inB_no (by omega)⟩)
    · exact .inl (⟨inB_no (by omega), inB_no (by omega), inB_no (by omega), inB_no (by omega), inB_no (by omega), inB_no (by omega), inB_no (by omega), inB_no (by omega), inB_no (by omega)⟩)
    · exact .inr (.inl (⟨inB_yes hk (by omega) (by omega), inB_no (by omega), inB_no (by omega), inB_no (by omega), inB_no (by omega), inB_no (by omega), inB_no (by omega), inB_no (by omega), inB_no (by omega)⟩))
    · exact .inr (.inr (.inl (⟨inB_no (by omega), inB_yes hk (by omega) (by omega), inB_no (by omega), inB_no (by omega), inB_no (by omega), inB_no (by omega), inB_no (by omega), inB_no (by omega), inB_no (by omega)⟩)))
    · exact .inr (.inr (.inr (.inl (⟨inB_no (by omega), inB_no (by omega), inB_yes hk (by omega) (by omega), inB_no (by omega), inB_no (by omega), inB_no (by omega), inB_no (by omega), inB_no (by omega), inB_no (by omega)⟩))))
    · exact .inr (.inr (.inr (.inr (.inl (⟨inB_no (by omega), inB_no (by omega), inB_no (by omega), inB_yes hk (by omega) (by omega), inB_no (by omega), inB_no (by omega), inB_no (by omega), inB_no (by omega), inB_no (by omega)⟩)))))
    · exact .inr (.inr (.inr (.inr (.inr (.inl (⟨inB_no (by omega), inB_no (by omega), inB_no (by omega), inB_no (by omega), inB_yes hk (by omega) (by omega), inB_no (by omega), inB_no (by omega), inB_no (by omega), inB_no (by omega)⟩))))))
    · exact .inr (.inr (.inr (.inr (.inr (.inr (.inl (⟨inB_no (by omega), inB_no (by omega), inB_no (by omega), inB_no (by omega), inB_no (by omega), inB_yes hk (by omega) (by omega), inB_no (by omega), inB_no (by omega), inB_no (by omega)⟩)))))))
    · exact .inr (.inr (.inr (.inr (.inr (.inr (.inr (.inl (⟨inB_no (by omega), inB_no (by omega), inB_no (by omega), inB_no (by omega), inB_no (by omega), inB_no (by omega), inB_yes hk (by omega) (by omega), inB_no (by omega), inB_no (by omega)⟩))))))))
    · exact .inr (.inr (.inr (.inr (.inr (.inr (.inr (.inr (.inl (⟨inB_no (by omega), inB_no (by omega), inB_no (by omega), inB_no (by omega), inB_no (by omega), inB_no (by omega), inB_no (by omega), inB_yes hk (by omega) (by omega), inB_no (by omega)⟩)))))))))
    · exact .inr (.inr (.inr (.inr (.inr (.inr (.inr (.inr (.inr (⟨inB_no (by omega), inB_no (by omega), inB_no (by omega), inB_no (by omega), inB_no (by omega), inB_no (by omega), inB_no (by omega), inB_no (by omega), inB_yes hk (by omega) (by omega)⟩)))))))))
  · exact .inl ⟨inB_ge hk _ _, inB_ge hk _ _, inB_ge hk _ _, inB_ge hk _ _, inB_ge hk _ _, inB_ge hk _ _, inB_ge hk _ _, inB_ge hk _ _, inB_ge hk _ _⟩
end Go.Proofs.Ytamakeogaipdiaa
/- Scripts as rows of bytes: characters, numbers, tokens, as the document reads them. Nothing of the program stands here. -/
namespace Go.Proofs.Ytamakeogaipdiaa
open Go
set_option linter.unusedVariables false
set_option linter.unusedSimpArgs false
/-- the character of n bytes that begins at k, byte by byte. -/
def runeP (s : ByteArray) (k : Nat) (base : Int) : Nat → Int
  | 0 => 0
  | 1 => bAt s k - base
  | n + 2 => 64 * runeP s k base (n + 1) + bAt s (k + (n + 1)) - 128
def firstB (n : Nat) : Int := if n = 2 then 192 else if n = 3 then 224 else if n = 4 then 240 else 0
def runeB (s : ByteArray) (k n : Nat) : Int := if n = 1 then bAt s k else runeP s k (firstB n) n
theorem runeP_bd (s : ByteArray) (k : Nat) {base : Int} (hb : 0 ≤ base ∧ base ≤ 255) : ∀ n, n ≤ 4 → -67907775 ≤ runeP s k base n ∧ runeP s k base n ≤ 67907775
  | 0, _ => by unfold runeP; omega
  | 1, _ => by have := bAt_bd s k; unfold runeP; omega
  | 2, _ => by have := bAt_bd s k; have := bAt_bd s (k + (0 + 1)); simp only [runeP]; omega
  | 3, _ => by have := bAt_bd s k; have := bAt_bd s (k + (0 + 1)); have := bAt_bd s (k + (1 + 1)); simp only [runeP]; omega
  | 4, _ => by have := bAt_bd s k; have := bAt_bd s (k + (0 + 1)); have := bAt_bd s (k + (1 + 1)); have := bAt_bd s (k + (2 + 1)); simp only [runeP]; omega
  | n + 5, h => absurd h (by omega)
theorem runeP_succ (s : ByteArray) (k : Nat) (base : Int) {n : Nat} (h : 1 ≤ n) : runeP s k base (n + 1) = 64 * runeP s k base n + bAt s (k + n) - 128 := by
  match n, h with
  | n + 1, _ => rfl
theorem moreB_lt {s : ByteArray} {i : Nat} : ∀ {n : Nat}, 0 < n → moreB s i n = true → i + n ≤ s.size
  | 0, h, _ => absurd h (by decide)
  | n + 1, _, h => by
    unfold moreB at h
    simp only [Bool.and_eq_true] at h
    have := inB_lt h.2; omega
/-- a character's bytes are all there. -/
theorem sizeB_in {s : ByteArray} {k : Nat} (h : 0 < sizeB s k) : k + sizeB s k ≤ s.size := by
  unfold sizeB at h ⊢
  split
  · rename_i c; have := inB_lt c; omega
  · rename_i c0
    rw [if_neg c0] at h
    split
    · rename_i c; simp only [Bool.and_eq_true] at c; have := moreB_lt (by decide) c.2; omega
    · rename_i c1
      rw [if_neg c1] at h
      split
      · rename_i c
        simp only [Bool.or_eq_true, Bool.and_eq_true] at c
        rcases c with ((⟨_, c⟩ | ⟨_, c⟩) | ⟨_, c⟩) | ⟨_, c⟩ <;> (have := moreB_lt (by decide) c; omega)
      · rename_i c2
        rw [if_neg c2] at h
        split
        · rename_i c
          simp only [Bool.or_eq_true, Bool.and_eq_true] at c
          rcases c with (⟨_, c⟩ | ⟨_, c⟩) | ⟨_, c⟩ <;> (have := moreB_lt (by decide) c; omega)
        · rename_i c3; rw [if_neg c3] at h; exact absurd h (by decide)

/-! ### whether a text is well-formed -/
def textF (s : ByteArray) : Nat → Nat → Option Nat
  | 0, _ => none
  | f + 1, k => if k < s.size then (if sizeB s k = 0 then some k else textF s f (k + sizeB s k)) else none
/-- the first place at which no character begins. -/
def textB (s : ByteArray) : Option Nat := textF s (s.size + 1) 0
theorem textF_step {s : ByteArray} {f k : Nat} (h : k < s.size) (hf : s.size ≤ k + f) (hz : sizeB s k ≠ 0) : ∃ f', s.size ≤ (k + sizeB s k) + f' ∧ textF s f k = textF s f' (k + sizeB s k) := by
  match f, hf with
  | 0, hf => exact absurd h (by omega)
  | f + 1, hf => exact ⟨f, by omega, by rw [textF, if_pos h, if_neg hz]⟩
theorem textF_bad {s : ByteArray} {f k : Nat} (h : k < s.size) (hf : s.size ≤ k + f) (hz : sizeB s k = 0) : textF s f k = some k := by
  match f, hf with
  | 0, hf => exact absurd h (by omega)
  | f + 1, hf => rw [textF, if_pos h, if_pos hz]
theorem textF_end {s : ByteArray} {f k : Nat} (h : ¬ k < s.size) : textF s f k = none := by
  cases f with
  | zero => rfl
  | succ f => rw [textF, if_neg h]

/-! ### tokens -/
structure Tok where
  kind : Int
  sign : Int
  n : Int
  at_ : Int
  deriving DecidableEq
def digB (s : ByteArray) (k : Nat) : Bool := inB s k 48 57
/-- a number's digits, read on from e with n read so far. -/
def numF (s : ByteArray) : Nat → Int → Nat → Int × Nat
  | 0, n, e => (n, e)
  | f + 1, n, e => if digB s e then numF s f (min (10 * n + (bAt s e - 48)) 2199023255552) (e + 1) else (n, e)
def numB (s : ByteArray) (k : Nat) : Int × Nat := numF s (s.size + 1) 0 k
theorem numF_step {s : ByteArray} {f e : Nat} {n : Int} (h : digB s e = true) (hf : s.size ≤ e + f) : ∃ f', s.size ≤ (e + 1) + f' ∧ numF s f n e = numF s f' (min (10 * n + (bAt s e - 48)) 2199023255552) (e + 1) := by
  have hl := inB_lt h
  match f, hf with
  | 0, hf => omega
  | f + 1, hf => exact ⟨f, by omega, by rw [numF, if_pos h]⟩
theorem numF_end {s : ByteArray} {f e : Nat} {n : Int} (h : digB s e = false) : numF s f n e = (n, e) := by
  cases f with
  | zero => rfl
  | succ f => rw [numF, h]; rfl
def lexF (s : ByteArray) : Nat → Bool → Nat → List Tok → Option (List Tok) × Nat
  | 0, _, _, out => (some out, 0)
  | f + 1, c, k, out =>
    if k < s.size then
      if sizeB s k = 0 then (none, k)
      else if c then lexF s f (decide (bAt s k ≠ 10)) (k + sizeB s k) out
      else if bAt s k = 35 then lexF s f true (k + 1) out
      else if bAt s k = 32 ∨ bAt s k = 9 ∨ bAt s k = 10 then lexF s f false (k + 1) out
      else if digB s k then
        if 1099511627776 < (numB s k).1 ∨ (bAt s k = 48 ∧ k + 1 < (numB s k).2) then (none, k) else lexF s f false (numB s k).2 (out ++ [⟨2, 0, (numB s k).1, k⟩])
      else lexF s f false (k + sizeB s k) (out ++ [⟨1, runeB s k (sizeB s k), 0, k⟩])
    else (some out, 0)
/-- the document's reading: the tokens, or the place of the error. -/
def lexB (s : ByteArray) : Option (List Tok) × Nat := lexF s (s.size + 1) false 0 []
theorem lexF_end {s : ByteArray} {f k : Nat} {c : Bool} {out : List Tok} (h : ¬ k < s.size) : lexF s f c k out = (some out, 0) := by
  cases f with
  | zero => rfl
  | succ f => rw [lexF, if_neg h]
theorem lexF_open {s : ByteArray} {f k : Nat} {c : Bool} {out : List Tok} (h : k < s.size) (hf : s.size ≤ k + f) : ∃ f', f = f' + 1 ∧ s.size ≤ k + 1 + f' ∧ lexF s f c k out =
      if sizeB s k = 0 then (none, k)
      else if c then lexF s f' (decide (bAt s k ≠ 10)) (k + sizeB s k) out
      else if bAt s k = 35 then lexF s f' true (k + 1) out
      else if bAt s k = 32 ∨ bAt s k = 9 ∨ bAt s k = 10 then lexF s f' false (k + 1) out
      else if digB s k then
        if 1099511627776 < (numB s k).1 ∨ (bAt s k = 48 ∧ k + 1 < (numB s k).2) then (none, k) else lexF s f' false (numB s k).2 (out ++ [⟨2, 0, (numB s k).1, k⟩])
      else lexF s f' false (k + sizeB s k) (out ++ [⟨1, runeB s k (sizeB s k), 0, k⟩]) := by
  match f, hf with
  | 0, hf => exact absurd h (by omega)
  | f + 1, hf => exact ⟨f, rfl, by omega, by rw [lexF, if_pos h]⟩
/-- a number's end: behind its first digit. -/
theorem numF_le {s : ByteArray} : ∀ (f : Nat) (n : Int) (e : Nat), e ≤ (numF s f n e).2
  | 0, _, _ => Nat.le_refl _
  | f + 1, n, e => by
    rw [numF]; split
    · have := numF_le (s := s) f (min (10 * n + (bAt s e - 48)) 2199023255552) (e + 1); omega
    · exact Nat.le_refl _
theorem numB_gt {s : ByteArray} {k : Nat} (h : digB s k = true) : k + 1 ≤ (numB s k).2 := by
  unfold numB
  rw [numF, if_pos h]
  exact numF_le _ _ _
end Go.Proofs.Ytamakeogaipdiaa
/- Two scripts, one behind the other, with a LF between: how the document reads them. Nothing of the program stands here. -/
namespace Go.Proofs.Ytamakeogaipdiaa
open Go
set_option linter.unusedVariables false
set_option linter.unusedSimpArgs false
/-- t is a, LF, b. -/
structure Parted (a b t : ByteArray) : Prop where
  size : t.size = a.size + 1 + b.size
  head : ∀ i, i < a.size → bAt t i = bAt a i
  lf : bAt t a.size = 10
  tail : ∀ i, i < b.size → bAt t (a.size + 1 + i) = bAt b i
section
variable {a b t : ByteArray} (h : Parted a b t)
include h
theorem Parted.inB_head {i : Nat} (hi : i < a.size) (lo hi' : Int) : inB t i lo hi' = inB a i lo hi' := by
  have hs := h.size
  rw [inB_at (by omega), inB_at hi, h.head i hi]
theorem Parted.inB_lf {lo hi' : Int} (hlo : 10 < lo) : inB t a.size lo hi' = false := inB_no (.inl (by rw [h.lf]; exact hlo))
theorem Parted.inB_tail (i : Nat) (lo hi' : Int) : inB t (a.size + 1 + i) lo hi' = inB b i lo hi' := by
  have hs := h.size
  by_cases hi : i < b.size
  · rw [inB_at (by omega), inB_at hi, h.tail i hi]
  · rw [inB_ge (by omega), inB_ge hi]
/-- up to LF. -/
theorem Parted.inB_le {i : Nat} (hi : i ≤ a.size) {lo hi' : Int} (hlo : 10 < lo) : inB t i lo hi' = inB a i lo hi' := by
  rcases Nat.lt_or_ge i a.size with k | k
  · exact h.inB_head k lo hi'
  · obtain rfl : i = a.size := by omega
    rw [h.inB_lf hlo, inB_ge (by omega)]
theorem Parted.moreB_head {i : Nat} (hi : i ≤ a.size) : ∀ n, moreB t i n = moreB a i n
  | 0 => rfl
  | n + 1 => by
    have ih := Parted.moreB_head hi n
    show (moreB t i n && inB t (i + n) 128 191) = (moreB a i n && inB a (i + n) 128 191)
    rcases Nat.lt_or_ge a.size (i + n) with k | k
    · have e1 : moreB t i n = false := moreB_no (j := a.size - i) (by omega) (by rw [show i + (a.size - i) = a.size by omega]; exact h.inB_lf (by decide))
      rw [← ih, e1]; rfl
    · rw [ih, h.inB_le k (by decide)]
theorem Parted.moreB_tail (i : Nat) : ∀ n, moreB t (a.size + 1 + i) n = moreB b i n
  | 0 => rfl
  | n + 1 => by
    show (moreB t (a.size + 1 + i) n && inB t (a.size + 1 + i + n) 128 191) = (moreB b i n && inB b (i + n) 128 191)
    rw [Parted.moreB_tail i n, Nat.add_assoc, h.inB_tail]
theorem Parted.two_head {k : Nat} (hk : k < a.size) {lo hi' : Int} (hlo : 10 < lo) (n : Nat) : (inB t (k + 1) lo hi' && moreB t (k + 2) n) = (inB a (k + 1) lo hi' && moreB a (k + 2) n) := by
  rw [h.inB_le (by omega) hlo]
  rcases Nat.lt_or_ge (k + 1) a.size with c | c
  · rw [h.moreB_head (by omega)]
  · rw [inB_ge (by omega)]; rfl
theorem Parted.sizeB_head {k : Nat} (hk : k < a.size) : sizeB t k = sizeB a k := by
  unfold sizeB
  simp only [h.inB_head hk, h.moreB_head (show k + 1 ≤ a.size by omega), Bool.and_assoc, h.two_head hk (show (10 : Int) < 160 by decide), h.two_head hk (show (10 : Int) < 128 by decide), h.two_head hk (show (10 : Int) < 144 by decide)]
theorem Parted.sizeB_tail (i : Nat) : sizeB t (a.size + 1 + i) = sizeB b i := by
  unfold sizeB
  simp only [h.inB_tail, Nat.add_assoc (a.size + 1) i, h.moreB_tail]
theorem Parted.digB_head {k : Nat} (hk : k ≤ a.size) : digB t k = digB a k := h.inB_le hk (by decide)
theorem Parted.digB_tail (i : Nat) : digB t (a.size + 1 + i) = digB b i := h.inB_tail i 48 57
theorem Parted.numF_head : ∀ (f f' : Nat) (n : Int) (e : Nat), e ≤ a.size → a.size ≤ e + f → t.size ≤ e + f' → numF t f' n e = numF a f n e := by
  intro f
  induction f with
  | zero =>
    intro f' n e he hf hf'
    have hd : digB a e = false := inB_ge (by omega) _ _
    rw [numF_end (by rw [h.digB_head he]; exact hd), numF_end hd]
  | succ f ih =>
    intro f' n e he hf hf'
    rcases hd : digB a e with _ | _
    · rw [numF_end (by rw [h.digB_head he]; exact hd), numF_end hd]
    · have hl := inB_lt hd
      have hs := h.size
      match f', hf' with
      | 0, hf' => omega
      | f' + 1, hf' =>
        rw [numF, h.digB_head he, hd, if_pos rfl, h.head e hl, numF, hd, if_pos rfl]
        exact ih f' _ (e + 1) (by omega) (by omega) (by omega)
theorem Parted.numB_head {k : Nat} (hk : k < a.size) : numB t k = numB a k := by
  have hs := h.size
  exact h.numF_head _ _ 0 k (by omega) (by omega) (by omega)
theorem Parted.numF_tail : ∀ (f f' : Nat) (n : Int) (e : Nat), b.size ≤ e + f → t.size ≤ (a.size + 1 + e) + f' → numF t f' n (a.size + 1 + e) = ((numF b f n e).1, a.size + 1 + (numF b f n e).2) := by
  intro f
  induction f with
  | zero =>
    intro f' n e hf hf'
    have hd : digB b e = false := inB_ge (by omega) _ _
    rw [numF_end (by rw [h.digB_tail]; exact hd), numF_end hd]
  | succ f ih =>
    intro f' n e hf hf'
    have hs := h.size
    rcases hd : digB b e with _ | _
    · rw [numF_end (by rw [h.digB_tail]; exact hd), numF_end hd]
    · have hl := inB_lt hd
      match f', hf' with
      | 0, hf' => omega
      | f' + 1, hf' =>
        rw [numF, h.digB_tail, hd, if_pos rfl, h.tail e hl, Nat.add_assoc (a.size + 1) e 1]
        rw [ih f' _ (e + 1) (by omega) (by omega)]
        rw [numF, hd, if_pos rfl]
theorem Parted.numB_tail (k : Nat) : numB t (a.size + 1 + k) = ((numB b k).1, a.size + 1 + (numB b k).2) := by
  have hs := h.size
  exact h.numF_tail _ _ 0 k (by omega) (by omega)
theorem Parted.runeP_head {k : Nat} (base : Int) : ∀ n, k + n ≤ a.size → runeP t k base n = runeP a k base n
  | 0, _ => rfl
  | 1, hn => by show bAt t k - base = bAt a k - base; rw [h.head k (by omega)]
  | n + 2, hn => by
    show 64 * runeP t k base (n + 1) + bAt t (k + (n + 1)) - 128 = 64 * runeP a k base (n + 1) + bAt a (k + (n + 1)) - 128
    rw [Parted.runeP_head base (n + 1) (by omega), h.head _ (by omega)]
theorem Parted.runeB_head {k n : Nat} (hn : k + n ≤ a.size) : runeB t k n = runeB a k n := by
  unfold runeB
  split
  · rename_i e; subst e; exact h.head k (by omega)
  · exact h.runeP_head _ n hn
theorem Parted.runeP_tail {k : Nat} (base : Int) : ∀ n, k + n ≤ b.size → runeP t (a.size + 1 + k) base n = runeP b k base n
  | 0, _ => rfl
  | 1, hn => by show bAt t (a.size + 1 + k) - base = bAt b k - base; rw [h.tail k (by omega)]
  | n + 2, hn => by
    show 64 * runeP t (a.size + 1 + k) base (n + 1) + bAt t (a.size + 1 + k + (n + 1)) - 128 = 64 * runeP b k base (n + 1) + bAt b (k + (n + 1)) - 128
    rw [Parted.runeP_tail base (n + 1) (by omega), Nat.add_assoc (a.size + 1), h.tail _ (by omega)]
theorem Parted.runeB_tail {k n : Nat} (hn : k + n ≤ b.size) : runeB t (a.size + 1 + k) n = runeB b k n := by
  unfold runeB
  split
  · rename_i e; subst e; exact h.tail k (by omega)
  · exact h.runeP_tail _ n hn
end
end Go.Proofs.Ytamakeogaipdiaa
/- Two scripts, one behind the other, with a LF between: their tokens. Nothing of the program stands here. -/
namespace Go.Proofs.Ytamakeogaipdiaa
open Go
set_option linter.unusedVariables false
set_option linter.unusedSimpArgs false
theorem numF_size {s : ByteArray} : ∀ (f : Nat) (n : Int) (e : Nat), e ≤ s.size → (numF s f n e).2 ≤ s.size
  | 0, _, _, h => h
  | f + 1, n, e, h => by
    rw [numF]; split
    · rename_i hd
      have := inB_lt hd
      exact numF_size f _ _ (by omega)
    · exact h
theorem numB_size {s : ByteArray} {k : Nat} (h : k ≤ s.size) : (numB s k).2 ≤ s.size := numF_size _ _ _ h
def shiftT (A : Nat) (x : Tok) : Tok := ⟨x.kind, x.sign, x.n, x.at_ + (A : Int)⟩
section
variable {a b t : ByteArray} (h : Parted a b t)
include h
theorem Parted.lexF_head : ∀ (f f' : Nat) (c : Bool) (k : Nat) (out : List Tok), k ≤ a.size → a.size ≤ k + f → t.size ≤ k + f' →
    (∀ p, lexF a f c k out = (none, p) → lexF t f' c k out = (none, p)) ∧ (∀ o q, lexF a f c k out = (some o, q) → ∃ f'', t.size ≤ a.size + 1 + f'' ∧ lexF t f' c k out = lexF t f'' false (a.size + 1) o) := by
  have hs := h.size
  have last : ∀ (f f' : Nat) (c : Bool) (k : Nat) (out : List Tok), k = a.size → t.size ≤ k + f' →
      (∀ p, lexF a f c k out = (none, p) → lexF t f' c k out = (none, p)) ∧ (∀ o q, lexF a f c k out = (some o, q) → ∃ f'', t.size ≤ a.size + 1 + f'' ∧ lexF t f' c k out = lexF t f'' false (a.size + 1) o) := by
    intro f f' c k out hk hf'
    subst hk
    rw [lexF_end (Nat.lt_irrefl _)]
    obtain ⟨f1, _, hf1, ho⟩ := lexF_open (c := c) (out := out) (show a.size < t.size by omega) hf'
    have hz : sizeB t a.size = 1 := by
      unfold sizeB
      rw [if_pos (inB_yes (by omega) (by rw [h.lf]; decide) (by rw [h.lf]; decide))]
    rw [hz, h.lf] at ho
    refine ⟨fun p e => by (injection e with e1 _; cases e1), fun o q e => ?_⟩
    injection e with e1 _
    injection e1 with e1
    subst e1
    refine ⟨f1, by omega, ?_⟩
    rw [ho]
    cases c <;> simp
  intro f
  induction f with
  | zero => intro f' c k out hk hf hf'; exact last 0 f' c k out (by omega) hf'
  | succ f ih =>
    intro f' c k out hk hf hf'
    rcases Nat.lt_or_ge k a.size with hlt | hge
    · obtain ⟨fa, hfa, hfa2, hoa⟩ := lexF_open (c := c) (out := out) hlt hf
      obtain ⟨ft, _, hft2, hot⟩ := lexF_open (c := c) (out := out) (show k < t.size by omega) hf'
      obtain rfl : fa = f := by omega
      rw [h.sizeB_head hlt, h.head k hlt, h.digB_head (by omega), h.numB_head hlt] at hot
      rw [hoa, hot]
      by_cases hz : sizeB a k = 0
      · rw [if_pos hz, if_pos hz]
        exact ⟨fun p e => e, fun o q e => by (injection e with e1 _; cases e1)⟩
      · rw [if_neg hz, if_neg hz]
        have hin := sizeB_in (s := a) (k := k) (by omega)
        rw [h.runeB_head hin]
        cases c with
        | true => rw [if_pos rfl, if_pos rfl]; exact ih ft _ _ _ (by omega) (by omega) (by omega)
        | false =>
          simp only [Bool.false_eq_true, if_false]
          by_cases c1 : bAt a k = 35
          · rw [if_pos c1, if_pos c1]; exact ih ft _ _ _ (by omega) (by omega) (by omega)
          · rw [if_neg c1, if_neg c1]
            by_cases c2 : bAt a k = 32 ∨ bAt a k = 9 ∨ bAt a k = 10
            · rw [if_pos c2, if_pos c2]; exact ih ft _ _ _ (by omega) (by omega) (by omega)
            · rw [if_neg c2, if_neg c2]
              cases hd : digB a k with
              | false => simp only [Bool.false_eq_true, if_false]; exact ih ft _ _ _ (by omega) (by omega) (by omega)
              | true =>
                simp only [if_true]
                have hg := numB_gt hd
                have hg2 := numB_size (s := a) (k := k) (by omega)
                by_cases c3 : 1099511627776 < (numB a k).1 ∨ (bAt a k = 48 ∧ k + 1 < (numB a k).2)
                · rw [if_pos c3, if_pos c3]
                  exact ⟨fun p e => e, fun o q e => by (injection e with e1 _; cases e1)⟩
                · rw [if_neg c3, if_neg c3]; exact ih ft _ _ _ (by omega) (by omega) (by omega)
    · exact last (f + 1) f' c k out (by omega) hf'
theorem Parted.lexF_tail : ∀ (f f' : Nat) (c : Bool) (k : Nat) (pre out : List Tok), b.size ≤ k + f → t.size ≤ a.size + 1 + k + f' →
    lexF t f' c (a.size + 1 + k) (pre ++ out.map (shiftT (a.size + 1))) = match lexF b f c k out with
      | (none, p) => (none, a.size + 1 + p)
      | (some o, q) => (some (pre ++ o.map (shiftT (a.size + 1))), q) := by
  have hs := h.size
  have snoc : ∀ (pre out : List Tok) (x : Tok), pre ++ out.map (shiftT (a.size + 1)) ++ [shiftT (a.size + 1) x] = pre ++ (out ++ [x]).map (shiftT (a.size + 1)) := fun pre out x => by simp
  intro f
  induction f with
  | zero =>
    intro f' c k pre out hf hf'
    rw [lexF_end (by omega), lexF_end (by omega)]
  | succ f ih =>
    intro f' c k pre out hf hf'
    by_cases hlt : k < b.size
    · obtain ⟨fa, hfa, hfa2, hoa⟩ := lexF_open (c := c) (out := out) hlt hf
      obtain ⟨ft, _, hft2, hot⟩ := lexF_open (c := c) (out := pre ++ out.map (shiftT (a.size + 1))) (show a.size + 1 + k < t.size by omega) hf'
      obtain rfl : fa = f := by omega
      rw [h.sizeB_tail, h.tail k hlt, h.digB_tail, h.numB_tail] at hot
      rw [hoa, hot]
      by_cases hz : sizeB b k = 0
      · rw [if_pos hz, if_pos hz]
      · rw [if_neg hz, if_neg hz]
        have hin := sizeB_in (s := b) (k := k) (by omega)
        rw [h.runeB_tail hin]
        simp only [Nat.add_assoc (a.size + 1) k]
        cases c with
        | true => rw [if_pos rfl, if_pos rfl]; exact ih ft _ _ _ _ (by omega) (by omega)
        | false =>
          simp only [Bool.false_eq_true, if_false]
          by_cases c1 : bAt b k = 35
          · rw [if_pos c1, if_pos c1]; exact ih ft _ _ _ _ (by omega) (by omega)
          · rw [if_neg c1, if_neg c1]
            by_cases c2 : bAt b k = 32 ∨ bAt b k = 9 ∨ bAt b k = 10
            · rw [if_pos c2, if_pos c2]; exact ih ft _ _ _ _ (by omega) (by omega)
            · rw [if_neg c2, if_neg c2]
              have hat : ((a.size + 1 + k : Nat) : Int) = (k : Int) + ((a.size + 1 : Nat) : Int) := by omega
              cases hd : digB b k with
              | false =>
                simp only [Bool.false_eq_true, if_false]
                rw [hat]
                have e := snoc pre out ⟨1, runeB b k (sizeB b k), 0, k⟩
                unfold shiftT at e
                simp only at e
                rw [show (⟨1, runeB b k (sizeB b k), 0, (k : Int) + ((a.size + 1 : Nat) : Int)⟩ : Tok) = shiftT (a.size + 1) ⟨1, runeB b k (sizeB b k), 0, k⟩ from rfl, snoc]
                exact ih ft _ _ _ _ (by omega) (by omega)
              | true =>
                simp only [if_true]
                have hg := numB_gt hd
                by_cases c3 : 1099511627776 < (numB b k).1 ∨ (bAt b k = 48 ∧ k + 1 < (numB b k).2)
                · rw [if_pos c3, if_pos (by omega)]
                · rw [if_neg c3, if_neg (by omega), hat]
                  rw [show (⟨2, 0, (numB b k).1, (k : Int) + ((a.size + 1 : Nat) : Int)⟩ : Tok) = shiftT (a.size + 1) ⟨2, 0, (numB b k).1, k⟩ from rfl, snoc]
                  exact ih ft _ _ _ _ (by omega) (by omega)
    · rw [lexF_end (by omega), lexF_end (by omega)]
/-- a script that may not be is refused there. -/
theorem Parted.lexB_bad {p : Nat} (ha : lexB a = (none, p)) : lexB t = (none, p) := by
  have hs := h.size
  exact (h.lexF_head (a.size + 1) (t.size + 1) false 0 [] (by omega) (by omega) (by omega)).1 p ha
/-- .. and one that may be: the tokens of both. -/
theorem Parted.lexB_both {o : List Tok} {q : Nat} (ha : lexB a = (some o, q)) : lexB t = match lexB b with
      | (none, p) => (none, a.size + 1 + p)
      | (some m, q) => (some (o ++ m.map (shiftT (a.size + 1))), q) := by
  have hs := h.size
  obtain ⟨f'', hf'', e⟩ := (h.lexF_head (a.size + 1) (t.size + 1) false 0 [] (by omega) (by omega) (by omega)).2 o q ha
  have e2 := h.lexF_tail (b.size + 1) f'' false 0 o [] (by omega) (by omega)
  simp only [List.map_nil, List.append_nil, Nat.add_zero] at e2
  exact e.trans e2
end
end Go.Proofs.Ytamakeogaipdiaa
/- A document's nodes as they are read among tokens. Nothing of the program stands here. -/
namespace Go.Proofs.Ytamakeogaipdiaa
open Go
set_option linter.unusedVariables false
set_option linter.unusedSimpArgs false
structure Sty where
  top : Int
  bottom : Int
  padTop : Int
  padBottom : Int
  inset : Int
  orphans : Int
  widows : Int
  head : Int
  before : Int
  after : Int
  inside : Int
  clear : Int
  deriving DecidableEq
def Sty.none : Sty := ⟨0, 0, 0, 0, 0, 0, 0, 0, 0, 0, 0, 0⟩
def Sty.plain : Sty := ⟨0, 0, 0, 0, 0, 2, 2, 0, 0, 0, 0, 0⟩
structure Nd where
  kind : Int
  size : Int
  sty : Sty
  line : Int
  space : Int
  words : List Int
  side : Int
  w : Int
  h : Int
  deriving DecidableEq
def maxN : Int := 1099511627776
/-- the sign c stands there. -/
def sgB (l : List Tok) (i : Nat) (c : Int) : Bool := match l[i]? with
  | some t => t.kind == 1 && t.sign == c
  | none => false
/-- a number from lo to hi stands there. -/
def nmB (l : List Tok) (i : Nat) (lo hi : Int) : Bool := match l[i]? with
  | some t => t.kind == 2 && decide (lo ≤ t.n) && decide (t.n ≤ hi)
  | none => false
def nAt (l : List Tok) (i : Nat) : Int := match l[i]? with
  | some t => t.n
  | none => 0
theorem sgB_lt {l : List Tok} {i : Nat} {c : Int} (h : sgB l i c = true) : i < l.length := by
  unfold sgB at h
  split at h
  · rename_i t ht; exact (List.getElem?_eq_some_iff.1 ht).1
  · exact absurd h (by simp)
theorem nmB_lt {l : List Tok} {i : Nat} {a b : Int} (h : nmB l i a b = true) : i < l.length := by
  unfold nmB at h
  split at h
  · rename_i t ht; exact (List.getElem?_eq_some_iff.1 ht).1
  · exact absurd h (by simp)
theorem nmB_bd {l : List Tok} {i : Nat} {a b : Int} (h : nmB l i a b = true) : a ≤ nAt l i ∧ nAt l i ≤ b := by
  unfold nmB at h
  unfold nAt
  split at h
  · rename_i t ht; simp only [Bool.and_eq_true, decide_eq_true_eq] at h; exact ⟨h.1.2, h.2⟩
  · exact absurd h (by simp)
theorem sgB_one {l : List Tok} {i : Nat} {c d : Int} (h : sgB l i c = true) (hd : c ≠ d) : sgB l i d = false := by
  unfold sgB at h ⊢
  split at h
  · simp only [Bool.and_eq_true, beq_iff_eq] at h
    simp only [h.1, h.2]
    simp [hd]
  · exact absurd h (by simp)
theorem sgB_num {l : List Tok} {i : Nat} {c a b : Int} (h : sgB l i c = true) : nmB l i a b = false := by
  unfold sgB at h
  unfold nmB
  split at h
  · simp only [Bool.and_eq_true, beq_iff_eq] at h
    simp [h.1]
  · exact absurd h (by simp)
/-! ### attributes -/
def lettersB : List Int := [109, 110, 112, 113, 105, 111, 119, 104, 66, 65, 73, 99]
def letterB (l : List Tok) (i : Nat) (told : List Int) : Int := match lettersB.find? (sgB l i) with
  | some c => if c ∈ told then 0 else c
  | none => 0
def limitB (c : Int) : Int × Int :=
  if c = 111 ∨ c = 119 ∨ c = 104 then (1, maxN) else if c = 66 ∨ c = 65 then (0, 4) else if c = 73 then (0, 1) else if c = 99 then (0, 3) else (0, maxN)
def withB (s : Sty) (c n : Int) : Sty :=
  if c = 109 then { s with top := n } else if c = 110 then { s with bottom := n } else if c = 112 then { s with padTop := n } else if c = 113 then { s with padBottom := n }
  else if c = 105 then { s with inset := n } else if c = 111 then { s with orphans := n } else if c = 119 then { s with widows := n } else if c = 104 then { s with head := n }
  else if c = 66 then { s with before := n } else if c = 65 then { s with after := n } else if c = 73 then { s with inside := n } else if c = 99 then { s with clear := n } else s
inductive Res (α : Type) where
  | ok (x : α) (b : Nat)
  | bad (p : Nat)
inductive Attrs (l : List Tok) : Nat → Sty → List Int → Res Sty → Prop
  | stop {i s told} : letterB l i told = 0 → Attrs l i s told (.ok s i)
  | bad {i s told} : letterB l i told ≠ 0 → nmB l (i + 1) (limitB (letterB l i told)).1 (limitB (letterB l i told)).2 = false → Attrs l i s told (.bad (i + 1))
  | step {i s told r} : letterB l i told ≠ 0 → nmB l (i + 1) (limitB (letterB l i told)).1 (limitB (letterB l i told)).2 = true →
      Attrs l (i + 2) (withB s (letterB l i told) (nAt l (i + 1))) (told ++ [letterB l i told]) r → Attrs l i s told r
theorem Attrs.det {l : List Tok} {i : Nat} {s : Sty} {told : List Int} {r r' : Res Sty} (h : Attrs l i s told r) (h' : Attrs l i s told r') : r = r' := by
  induction h with
  | stop h1 => cases h' with
    | stop _ => rfl
    | bad h2 _ => exact absurd h1 h2
    | step h2 _ _ => exact absurd h1 h2
  | bad h1 h2 => cases h' with
    | stop h3 => exact absurd h3 h1
    | bad _ _ => rfl
    | step _ h3 _ => rw [h2] at h3; exact absurd h3 (by simp)
  | step h1 h2 _ ih => cases h' with
    | stop h3 => exact absurd h3 h1
    | bad _ h3 => rw [h2] at h3; exact absurd h3 (by simp)
    | step _ _ h3 => exact ih h3
/-! ### words -/
inductive Words (l : List Tok) : Nat → List Int → List Int → Nat → Prop
  | stop {k out} : nmB l k 1 maxN = false → Words l k out out k
  | step {k out ws b} : nmB l k 1 maxN = true → Words l (k + 1) (out ++ [nAt l k]) ws b → Words l k out ws b
theorem Words.det {l : List Tok} {k : Nat} {out ws ws' : List Int} {b b' : Nat} (h : Words l k out ws b) (h' : Words l k out ws' b') : ws = ws' ∧ b = b' := by
  induction h with
  | stop h1 => cases h' with
    | stop _ => exact ⟨rfl, rfl⟩
    | step h2 _ => rw [h1] at h2; exact absurd h2 (by simp)
  | step h1 _ ih => cases h' with
    | stop h2 => rw [h1] at h2; exact absurd h2 (by simp)
    | step _ h2 => exact ih h2
theorem Words.le {l : List Tok} {k : Nat} {out ws : List Int} {b : Nat} (h : Words l k out ws b) : k ≤ b ∧ (k ≤ l.length → b ≤ l.length) := by
  induction h with
  | stop _ => exact ⟨Nat.le_refl _, fun h => h⟩
  | step h1 _ ih => have := nmB_lt h1; exact ⟨by omega, fun _ => ih.2 (by omega)⟩
/-! ### nodes -/
def blk (s : Sty) (inner : List Nd) : Nd := ⟨1, 1 + (inner.length : Int), s, 0, 0, [], 0, 0, 0⟩
def txt (line space : Int) (ws : List Int) : Nd := ⟨2, 1, .none, line, space, ws, 0, 0, 0⟩
def box_ (kind side w h : Int) : Nd := ⟨kind, 1, .none, 0, 0, [], side, w, h⟩
def opens (l : List Tok) (i : Nat) : Bool := sgB l i 91 || sgB l i 40 || sgB l i 123 || sgB l i 60
/-- width, height and a sign. -/
def boxR (l : List Tok) (i : Nat) (kind side : Int) (e : Int) : Res (List Nd) :=
  if nmB l i 1 maxN = false then .bad i else if nmB l (i + 1) 1 maxN = false then .bad (i + 1) else if sgB l (i + 2) e = false then .bad (i + 2) else .ok [box_ kind side (nAt l i) (nAt l (i + 1))] (i + 3)
/-- one node (false), or nodes behind those that have been read (true). -/
inductive Parse (l : List Tok) : Bool → Nat → List Nd → Res (List Nd) → Prop
  | stop {i out} : opens l i = false → Parse l true i out (.ok out i)
  | more {i out x b r} : opens l i = true → Parse l false i [] (.ok x b) → Parse l true b (out ++ x) r → Parse l true i out r
  | fail {i out p} : opens l i = true → Parse l false i [] (.bad p) → Parse l true i out (.bad p)
  | blockA {i p} : sgB l i 91 = true → Attrs l (i + 1) .plain [] (.bad p) → Parse l false i [] (.bad p)
  | blockN {i s a p} : sgB l i 91 = true → Attrs l (i + 1) .plain [] (.ok s a) → Parse l true a [] (.bad p) → Parse l false i [] (.bad p)
  | blockE {i s a inner b} : sgB l i 91 = true → Attrs l (i + 1) .plain [] (.ok s a) → Parse l true a [] (.ok inner b) → sgB l b 93 = false → Parse l false i [] (.bad b)
  | block {i s a inner b} : sgB l i 91 = true → Attrs l (i + 1) .plain [] (.ok s a) → Parse l true a [] (.ok inner b) → sgB l b 93 = true → Parse l false i [] (.ok (blk s inner :: inner) (b + 1))
  | textL {i} : sgB l i 40 = true → nmB l (i + 1) 1 maxN = false → Parse l false i [] (.bad (i + 1))
  | textS {i} : sgB l i 40 = true → nmB l (i + 1) 1 maxN = true → nmB l (i + 2) 0 maxN = false → Parse l false i [] (.bad (i + 2))
  | textW {i ws b} : sgB l i 40 = true → nmB l (i + 1) 1 maxN = true → nmB l (i + 2) 0 maxN = true → Words l (i + 3) [] ws b → (ws = [] ∨ sgB l b 41 = false) → Parse l false i [] (.bad b)
  | text {i ws b} : sgB l i 40 = true → nmB l (i + 1) 1 maxN = true → nmB l (i + 2) 0 maxN = true → Words l (i + 3) [] ws b → ws ≠ [] → sgB l b 41 = true → Parse l false i [] (.ok [txt (nAt l (i + 1)) (nAt l (i + 2)) ws] (b + 1))
  | mono {i} : sgB l i 123 = true → Parse l false i [] (boxR l (i + 1) 3 0 125)
  | left {i} : sgB l i 60 = true → sgB l (i + 1) 76 = true → Parse l false i [] (boxR l (i + 2) 4 1 62)
  | right {i} : sgB l i 60 = true → sgB l (i + 1) 82 = true → Parse l false i [] (boxR l (i + 2) 4 2 62)
  | side {i} : sgB l i 60 = true → sgB l (i + 1) 76 = false → sgB l (i + 1) 82 = false → Parse l false i [] (.bad (i + 1))
/-- what a script is read as, its tokens known. -/
inductive Read (l : List Tok) (len : Nat) : Option (List Nd) × Nat → Prop
  | ok {x} : Parse l true 0 [] (.ok x l.length) → Read l len (some x, 0)
  | rest {x b t} : Parse l true 0 [] (.ok x b) → l[b]? = some t → Read l len (none, t.at_.toNat)
  | bad {p t} : Parse l true 0 [] (.bad p) → l[p]? = some t → Read l len (none, t.at_.toNat)
  | short {p} : Parse l true 0 [] (.bad p) → l.length ≤ p → Read l len (none, len)
end Go.Proofs.Ytamakeogaipdiaa
/- A document's nodes as they are read among tokens: one way alone; where it ends; rows within rows. Nothing of the program stands here. -/
namespace Go.Proofs.Ytamakeogaipdiaa
open Go
set_option linter.unusedVariables false
set_option linter.unusedSimpArgs false
theorem sg_clash {l : List Tok} {i : Nat} {c d : Int} (h : sgB l i c = true) (h' : sgB l i d = true) (hd : c ≠ d) : False := by
  have := sgB_one h hd; rw [h'] at this; exact absurd this (by simp)
theorem bool_clash {b : Bool} (h : b = true) (h' : b = false) : False := by rw [h] at h'; exact absurd h' (by simp)
theorem Parse.det {l : List Tok} {t : Bool} {i : Nat} {out : List Nd} {r r' : Res (List Nd)} (h : Parse l t i out r) (h' : Parse l t i out r') : r = r' := by
  induction h generalizing r' with
  | stop h1 => cases h' with
    | stop _ => rfl
    | more h2 _ _ => exact (bool_clash h2 h1).elim
    | fail h2 _ => exact (bool_clash h2 h1).elim
  | more h1 _ _ ih1 ih2 => cases h' with
    | stop h2 => exact (bool_clash h1 h2).elim
    | more _ h3 h4 => have e := ih1 h3; injection e with e1 e2; subst e1 e2; exact ih2 h4
    | fail _ h3 => have e := ih1 h3; injection e
  | fail h1 _ ih => cases h' with
    | stop h2 => exact (bool_clash h1 h2).elim
    | more _ h3 _ => have e := ih h3; injection e
    | fail _ h3 => have e := ih h3; injection e with e; subst e; rfl
  | blockA g1 g2 => cases h' with
    | blockA _ k2 => have e := g2.det k2; injection e with e; subst e; rfl
    | blockN _ k2 _ => have e := g2.det k2; injection e
    | blockE _ k2 _ _ => have e := g2.det k2; injection e
    | block _ k2 _ _ => have e := g2.det k2; injection e
    | textL k _ => exact (sg_clash g1 k (by decide)).elim
    | textS k _ _ => exact (sg_clash g1 k (by decide)).elim
    | textW k _ _ _ _ => exact (sg_clash g1 k (by decide)).elim
    | text k _ _ _ _ _ => exact (sg_clash g1 k (by decide)).elim
    | mono k => exact (sg_clash g1 k (by decide)).elim
    | left k _ => exact (sg_clash g1 k (by decide)).elim
    | right k _ => exact (sg_clash g1 k (by decide)).elim
    | side k _ _ => exact (sg_clash g1 k (by decide)).elim
  | blockN g1 g2 _ ih => cases h' with
    | blockA _ k2 => have e := g2.det k2; injection e
    | blockN _ k2 k3 => have e := g2.det k2; injection e with e1 e2; subst e1 e2; exact ih k3
    | blockE _ k2 k3 _ => have e := g2.det k2; injection e with e1 e2; subst e1 e2; have e := ih k3; injection e
    | block _ k2 k3 _ => have e := g2.det k2; injection e with e1 e2; subst e1 e2; have e := ih k3; injection e
    | textL k _ => exact (sg_clash g1 k (by decide)).elim
    | textS k _ _ => exact (sg_clash g1 k (by decide)).elim
    | textW k _ _ _ _ => exact (sg_clash g1 k (by decide)).elim
    | text k _ _ _ _ _ => exact (sg_clash g1 k (by decide)).elim
    | mono k => exact (sg_clash g1 k (by decide)).elim
    | left k _ => exact (sg_clash g1 k (by decide)).elim
    | right k _ => exact (sg_clash g1 k (by decide)).elim
    | side k _ _ => exact (sg_clash g1 k (by decide)).elim
  | blockE g1 g2 _ g4 ih => cases h' with
    | blockA _ k2 => have e := g2.det k2; injection e
    | blockN _ k2 k3 => have e := g2.det k2; injection e with e1 e2; subst e1 e2; have e := ih k3; injection e
    | blockE _ k2 k3 _ => have e := g2.det k2; injection e with e1 e2; subst e1 e2; have e := ih k3; injection e with e1 e2; subst e1 e2; rfl
    | block _ k2 k3 k4 => have e := g2.det k2; injection e with e1 e2; subst e1 e2; have e := ih k3; injection e with e1 e2; subst e1 e2; exact (bool_clash k4 g4).elim
    | textL k _ => exact (sg_clash g1 k (by decide)).elim
    | textS k _ _ => exact (sg_clash g1 k (by decide)).elim
    | textW k _ _ _ _ => exact (sg_clash g1 k (by decide)).elim
    | text k _ _ _ _ _ => exact (sg_clash g1 k (by decide)).elim
    | mono k => exact (sg_clash g1 k (by decide)).elim
    | left k _ => exact (sg_clash g1 k (by decide)).elim
    | right k _ => exact (sg_clash g1 k (by decide)).elim
    | side k _ _ => exact (sg_clash g1 k (by decide)).elim
  | block g1 g2 _ g4 ih => cases h' with
    | blockA _ k2 => have e := g2.det k2; injection e
    | blockN _ k2 k3 => have e := g2.det k2; injection e with e1 e2; subst e1 e2; have e := ih k3; injection e
    | blockE _ k2 k3 k4 => have e := g2.det k2; injection e with e1 e2; subst e1 e2; have e := ih k3; injection e with e1 e2; subst e1 e2; exact (bool_clash g4 k4).elim
    | block _ k2 k3 k4 => have e := g2.det k2; injection e with e1 e2; subst e1 e2; have e := ih k3; injection e with e1 e2; subst e1 e2; rfl
    | textL k _ => exact (sg_clash g1 k (by decide)).elim
    | textS k _ _ => exact (sg_clash g1 k (by decide)).elim
    | textW k _ _ _ _ => exact (sg_clash g1 k (by decide)).elim
    | text k _ _ _ _ _ => exact (sg_clash g1 k (by decide)).elim
    | mono k => exact (sg_clash g1 k (by decide)).elim
    | left k _ => exact (sg_clash g1 k (by decide)).elim
    | right k _ => exact (sg_clash g1 k (by decide)).elim
    | side k _ _ => exact (sg_clash g1 k (by decide)).elim
  | textL g1 g2 => cases h' with
    | textL _ _ => rfl
    | textS _ k2 _ => exact (bool_clash k2 g2).elim
    | textW _ k2 _ _ _ => exact (bool_clash k2 g2).elim
    | text _ k2 _ _ _ _ => exact (bool_clash k2 g2).elim
    | blockA k _ => exact (sg_clash g1 k (by decide)).elim
    | blockN k _ _ => exact (sg_clash g1 k (by decide)).elim
    | blockE k _ _ _ => exact (sg_clash g1 k (by decide)).elim
    | block k _ _ _ => exact (sg_clash g1 k (by decide)).elim
    | mono k => exact (sg_clash g1 k (by decide)).elim
    | left k _ => exact (sg_clash g1 k (by decide)).elim
    | right k _ => exact (sg_clash g1 k (by decide)).elim
    | side k _ _ => exact (sg_clash g1 k (by decide)).elim
  | textS g1 g2 g3 => cases h' with
    | textL _ k2 => exact (bool_clash g2 k2).elim
    | textS _ _ _ => rfl
    | textW _ _ k3 _ _ => exact (bool_clash k3 g3).elim
    | text _ _ k3 _ _ _ => exact (bool_clash k3 g3).elim
    | blockA k _ => exact (sg_clash g1 k (by decide)).elim
    | blockN k _ _ => exact (sg_clash g1 k (by decide)).elim
    | blockE k _ _ _ => exact (sg_clash g1 k (by decide)).elim
    | block k _ _ _ => exact (sg_clash g1 k (by decide)).elim
    | mono k => exact (sg_clash g1 k (by decide)).elim
    | left k _ => exact (sg_clash g1 k (by decide)).elim
    | right k _ => exact (sg_clash g1 k (by decide)).elim
    | side k _ _ => exact (sg_clash g1 k (by decide)).elim
  | textW g1 g2 g3 g4 g5 => cases h' with
    | textL _ k2 => exact (bool_clash g2 k2).elim
    | textS _ _ k3 => exact (bool_clash g3 k3).elim
    | textW _ _ _ k4 _ => obtain ⟨e1, e2⟩ := g4.det k4; subst e1 e2; rfl
    | text _ _ _ k4 k5 k6 =>
      obtain ⟨e1, e2⟩ := g4.det k4
      subst e1 e2
      rcases g5 with g5 | g5
      · exact absurd g5 k5
      · exact (bool_clash k6 g5).elim
    | blockA k _ => exact (sg_clash g1 k (by decide)).elim
    | blockN k _ _ => exact (sg_clash g1 k (by decide)).elim
    | blockE k _ _ _ => exact (sg_clash g1 k (by decide)).elim
    | block k _ _ _ => exact (sg_clash g1 k (by decide)).elim
    | mono k => exact (sg_clash g1 k (by decide)).elim
    | left k _ => exact (sg_clash g1 k (by decide)).elim
    | right k _ => exact (sg_clash g1 k (by decide)).elim
    | side k _ _ => exact (sg_clash g1 k (by decide)).elim
  | text g1 g2 g3 g4 g5 g6 => cases h' with
    | textL _ k2 => exact (bool_clash g2 k2).elim
    | textS _ _ k3 => exact (bool_clash g3 k3).elim
    | textW _ _ _ k4 k5 =>
      obtain ⟨e1, e2⟩ := g4.det k4
      subst e1 e2
      rcases k5 with k5 | k5
      · exact absurd k5 g5
      · exact (bool_clash g6 k5).elim
    | text _ _ _ k4 _ _ => obtain ⟨e1, e2⟩ := g4.det k4; subst e1 e2; rfl
    | blockA k _ => exact (sg_clash g1 k (by decide)).elim
    | blockN k _ _ => exact (sg_clash g1 k (by decide)).elim
    | blockE k _ _ _ => exact (sg_clash g1 k (by decide)).elim
    | block k _ _ _ => exact (sg_clash g1 k (by decide)).elim
    | mono k => exact (sg_clash g1 k (by decide)).elim
    | left k _ => exact (sg_clash g1 k (by decide)).elim
    | right k _ => exact (sg_clash g1 k (by decide)).elim
    | side k _ _ => exact (sg_clash g1 k (by decide)).elim
  | mono g1 => cases h' with
    | blockA k _ => exact (sg_clash g1 k (by decide)).elim
    | blockN k _ _ => exact (sg_clash g1 k (by decide)).elim
    | blockE k _ _ _ => exact (sg_clash g1 k (by decide)).elim
    | block k _ _ _ => exact (sg_clash g1 k (by decide)).elim
    | textL k _ => exact (sg_clash g1 k (by decide)).elim
    | textS k _ _ => exact (sg_clash g1 k (by decide)).elim
    | textW k _ _ _ _ => exact (sg_clash g1 k (by decide)).elim
    | text k _ _ _ _ _ => exact (sg_clash g1 k (by decide)).elim
    | mono _ => rfl
    | left k _ => exact (sg_clash g1 k (by decide)).elim
    | right k _ => exact (sg_clash g1 k (by decide)).elim
    | side k _ _ => exact (sg_clash g1 k (by decide)).elim
  | left g1 g2 => cases h' with
    | blockA k _ => exact (sg_clash g1 k (by decide)).elim
    | blockN k _ _ => exact (sg_clash g1 k (by decide)).elim
    | blockE k _ _ _ => exact (sg_clash g1 k (by decide)).elim
    | block k _ _ _ => exact (sg_clash g1 k (by decide)).elim
    | textL k _ => exact (sg_clash g1 k (by decide)).elim
    | textS k _ _ => exact (sg_clash g1 k (by decide)).elim
    | textW k _ _ _ _ => exact (sg_clash g1 k (by decide)).elim
    | text k _ _ _ _ _ => exact (sg_clash g1 k (by decide)).elim
    | mono k => exact (sg_clash g1 k (by decide)).elim
    | left _ _ => rfl
    | right _ k => exact (sg_clash g2 k (by decide)).elim
    | side _ k _ => exact (bool_clash g2 k).elim
  | right g1 g2 => cases h' with
    | blockA k _ => exact (sg_clash g1 k (by decide)).elim
    | blockN k _ _ => exact (sg_clash g1 k (by decide)).elim
    | blockE k _ _ _ => exact (sg_clash g1 k (by decide)).elim
    | block k _ _ _ => exact (sg_clash g1 k (by decide)).elim
    | textL k _ => exact (sg_clash g1 k (by decide)).elim
    | textS k _ _ => exact (sg_clash g1 k (by decide)).elim
    | textW k _ _ _ _ => exact (sg_clash g1 k (by decide)).elim
    | text k _ _ _ _ _ => exact (sg_clash g1 k (by decide)).elim
    | mono k => exact (sg_clash g1 k (by decide)).elim
    | left _ k => exact (sg_clash g2 k (by decide)).elim
    | right _ _ => rfl
    | side _ _ k => exact (bool_clash g2 k).elim
  | side g1 g2 g3 => cases h' with
    | blockA k _ => exact (sg_clash g1 k (by decide)).elim
    | blockN k _ _ => exact (sg_clash g1 k (by decide)).elim
    | blockE k _ _ _ => exact (sg_clash g1 k (by decide)).elim
    | block k _ _ _ => exact (sg_clash g1 k (by decide)).elim
    | textL k _ => exact (sg_clash g1 k (by decide)).elim
    | textS k _ _ => exact (sg_clash g1 k (by decide)).elim
    | textW k _ _ _ _ => exact (sg_clash g1 k (by decide)).elim
    | text k _ _ _ _ _ => exact (sg_clash g1 k (by decide)).elim
    | mono k => exact (sg_clash g1 k (by decide)).elim
    | left _ k => exact (bool_clash k g2).elim
    | right _ k => exact (bool_clash k g3).elim
    | side _ _ _ => rfl
/-! ### where it ends -/
def Res.at_ {α : Type} : Res α → Nat
  | .ok _ b => b
  | .bad p => p
theorem letterB_sg {l : List Tok} {i : Nat} {told : List Int} (h : letterB l i told ≠ 0) : sgB l i (letterB l i told) = true ∧ letterB l i told ∈ lettersB ∧ letterB l i told ∉ told := by
  unfold letterB at h ⊢
  split at h
  · rename_i c hc
    split at h
    · exact absurd rfl h
    · rename_i hn
      simp only [if_neg hn]
      exact ⟨List.find?_some hc, List.mem_of_find?_eq_some hc, hn⟩
  · exact absurd rfl h
theorem Attrs.le {l : List Tok} {i : Nat} {s : Sty} {told : List Int} {r : Res Sty} (h : Attrs l i s told r) : i ≤ r.at_ ∧ (i ≤ l.length → r.at_ ≤ l.length) := by
  induction h with
  | stop _ => exact ⟨Nat.le_refl _, fun h => h⟩
  | bad h1 _ => have := sgB_lt (letterB_sg h1).1; exact ⟨Nat.le_succ _, fun _ => this⟩
  | step _ h2 _ ih => have := nmB_lt h2; exact ⟨by omega, fun _ => ih.2 (by omega)⟩
theorem boxR_le (l : List Tok) (i : Nat) (kind side e : Int) : i ≤ (boxR l i kind side e).at_ ∧ (i ≤ l.length → (boxR l i kind side e).at_ ≤ l.length) ∧ ∀ x b, boxR l i kind side e = .ok x b → i < b := by
  unfold boxR
  by_cases h1 : nmB l i 1 maxN = false
  · rw [if_pos h1]; exact ⟨Nat.le_refl _, fun h => h, fun x b h => by cases h⟩
  · rw [if_neg h1]
    have l1 := nmB_lt (by simpa using h1)
    by_cases h2 : nmB l (i + 1) 1 maxN = false
    · rw [if_pos h2]; exact ⟨Nat.le_succ _, fun _ => l1, fun x b h => by cases h⟩
    · rw [if_neg h2]
      have l2 := nmB_lt (by simpa using h2)
      by_cases h3 : sgB l (i + 2) e = false
      · rw [if_pos h3]; exact ⟨by show i ≤ i + 2; omega, fun _ => by show i + 2 ≤ _; omega, fun x b h => by cases h⟩
      · rw [if_neg h3]
        have l3 := sgB_lt (by simpa using h3)
        exact ⟨by show i ≤ i + 3; omega, fun _ => by show i + 3 ≤ _; omega, fun x b h => by cases h; omega⟩
theorem opens_lt {l : List Tok} {i : Nat} (h : opens l i = true) : i < l.length := by
  unfold opens at h
  simp only [Bool.or_eq_true] at h
  rcases h with ((h | h) | h) | h <;> exact sgB_lt h
theorem Parse.le {l : List Tok} {t : Bool} {i : Nat} {out : List Nd} {r : Res (List Nd)} (h : Parse l t i out r) : i ≤ r.at_ ∧ (i ≤ l.length → r.at_ ≤ l.length) ∧ (t = false → i < r.at_) := by
  induction h with
  | stop _ => exact ⟨Nat.le_refl _, fun h => h, fun h => by cases h⟩
  | more h1 _ _ ih1 ih2 => have := opens_lt h1; exact ⟨Nat.le_trans ih1.1 ih2.1, fun h => ih2.2.1 (ih1.2.1 h), fun h => by cases h⟩
  | fail h1 _ ih => exact ⟨ih.1, ih.2.1, fun h => by cases h⟩
  | blockA g1 g2 => have := sgB_lt g1; have := g2.le; simp only [Res.at_] at this ⊢; exact ⟨by omega, fun _ => this.2 (by omega), fun _ => by omega⟩
  | blockN g1 g2 _ ih => have := sgB_lt g1; have := g2.le; simp only [Res.at_] at this ih ⊢; exact ⟨by omega, fun _ => ih.2.1 (this.2 (by omega)), fun _ => by omega⟩
  | blockE g1 g2 _ _ ih => have := sgB_lt g1; have := g2.le; simp only [Res.at_] at this ih ⊢; exact ⟨by omega, fun _ => ih.2.1 (this.2 (by omega)), fun _ => by omega⟩
  | block g1 g2 _ g4 ih => have := sgB_lt g1; have := sgB_lt g4; have := g2.le; simp only [Res.at_] at this ih ⊢; exact ⟨by omega, fun _ => by omega, fun _ => by omega⟩
  | textL g1 _ => have := sgB_lt g1; simp only [Res.at_]; exact ⟨by omega, fun _ => by omega, fun _ => by omega⟩
  | textS g1 g2 _ => have := nmB_lt g2; simp only [Res.at_]; exact ⟨by omega, fun _ => by omega, fun _ => by omega⟩
  | textW g1 g2 g3 g4 _ => have := nmB_lt g3; have := g4.le; simp only [Res.at_]; exact ⟨by omega, fun _ => this.2 (by omega), fun _ => by omega⟩
  | text g1 g2 g3 g4 _ g6 => have := sgB_lt g6; have := g4.le; simp only [Res.at_]; exact ⟨by omega, fun _ => by omega, fun _ => by omega⟩
  | @mono i g1 => have := sgB_lt g1; have := boxR_le l (i + 1) 3 0 125; exact ⟨by omega, fun _ => this.2.1 (by omega), fun _ => by omega⟩
  | @left i g1 g2 => have := sgB_lt g2; have := boxR_le l (i + 2) 4 1 62; exact ⟨by omega, fun _ => this.2.1 (by omega), fun _ => by omega⟩
  | @right i g1 g2 => have := sgB_lt g2; have := boxR_le l (i + 2) 4 2 62; exact ⟨by omega, fun _ => this.2.1 (by omega), fun _ => by omega⟩
  | side g1 _ _ => have := sgB_lt g1; simp only [Res.at_]; exact ⟨by omega, fun _ => by omega, fun _ => by omega⟩
theorem Read.det {l : List Tok} {len : Nat} {r r' : Option (List Nd) × Nat} (h : Read l len r) (h' : Read l len r') : r = r' := by
  cases h with
  | ok h1 => cases h' with
    | ok k1 => have e := h1.det k1; injection e with e1 _; subst e1; rfl
    | rest k1 k2 => have e := h1.det k1; injection e with e1 e2; subst e2; have := (List.getElem?_eq_some_iff.1 k2).1; omega
    | bad k1 _ => have e := h1.det k1; injection e
    | short k1 _ => have e := h1.det k1; injection e
  | rest h1 h2 => cases h' with
    | ok k1 => have e := h1.det k1; injection e with e1 e2; subst e2; have := (List.getElem?_eq_some_iff.1 h2).1; omega
    | rest k1 k2 => have e := h1.det k1; injection e with e1 e2; subst e1 e2; rw [h2] at k2; injection k2 with k2; subst k2; rfl
    | bad k1 _ => have e := h1.det k1; injection e
    | short k1 _ => have e := h1.det k1; injection e
  | bad h1 h2 => cases h' with
    | ok k1 => have e := h1.det k1; injection e
    | rest k1 _ => have e := h1.det k1; injection e
    | bad k1 k2 => have e := h1.det k1; injection e with e; subst e; rw [h2] at k2; injection k2 with k2; subst k2; rfl
    | short k1 k2 => have e := h1.det k1; injection e with e; subst e; have := (List.getElem?_eq_some_iff.1 h2).1; omega
  | short h1 h2 => cases h' with
    | ok k1 => have e := h1.det k1; injection e
    | rest k1 _ => have e := h1.det k1; injection e
    | bad k1 k2 => have e := h1.det k1; injection e with e; subst e; have := (List.getElem?_eq_some_iff.1 k2).1; omega
    | short _ _ => rfl
end Go.Proofs.Ytamakeogaipdiaa
/- Words on memory, and the last step of every law's row. Nothing of the program stands here. -/
namespace Go.Proofs.Ytamakeogaipdiaa
open Go.ChangeShapes Go.WideShapes Go.ChangeAt Go.RowKit
set_option linter.unusedVariables false
set_option linter.unusedSimpArgs false

theorem ret_int {k : IntKind} {a b : Int} (h : a = b) : Ending.returned (.int k a) = .returned (.int k b) := by rw [h]
theorem ret_bool {a b : Bool} (h : a = b) : Ending.returned (.bool a) = .returned (.bool b) := by rw [h]
theorem ret_ib {k : IntKind} {a b : Int} {x y : Bool} (h : a = b ∧ x = y) : Ending.returned (.tuple #[.int k a, .bool x]) = .returned (.tuple #[.int k b, .bool y]) := by rw [h.1, h.2]
theorem ret_ii {k : IntKind} {a b x y : Int} (h : a = b ∧ x = y) : Ending.returned (.tuple #[.int k a, .int k x]) = .returned (.tuple #[.int k b, .int k y]) := by rw [h.1, h.2]

/-- what was told of a world's cells below a block number stays told in a later one. -/
theorem below_cell {B : Nat} {w w' : World} (h : Below B w w') {b o : Nat} (hb : b < B) : w'.cell? ⟨b, o, none⟩ = w.cell? ⟨b, o, none⟩ := h.cell (p := ⟨b, o, none⟩) hb
theorem below_drewN {B : Nat} {a w : World} (h : Below B a w) (n : Nat) : Below B a (w.drewN n) := ⟨h.os, h.tape, h.output, h.size, h.block⟩
theorem cell_lt {w : World} {a : Addr} {v : Value} (h : w.cell? a = some v) : a.block < w.heap.size := by
  rcases Nat.lt_or_ge a.block w.heap.size with h' | h'
  · exact h'
  · have e : w.heap[a.block]? = none := Array.getElem?_eq_none h'
    simp [World.cell?, e] at h

/-- the slice value '.slice A n c' holds these whole numbers. -/
def Ints (w : World) (A : Option Addr) (n : Nat) (zs : List Int) : Prop :=
  zs.length = n ∧ n ≤ 9223372036854775807 ∧ (0 < n → ∃ b off, A = some ⟨b, off, none⟩ ∧ b < w.heap.size ∧ ∀ k, k < n → w.cell? ⟨b, off + k, none⟩ = some (.int .i64 (zs[k]?.getD 0)))
theorem Ints.nil (w : World) (A : Option Addr) : Ints w A 0 [] := ⟨rfl, by decide, fun h => absurd h (by decide)⟩
theorem Ints.at_ {w : World} {A : Option Addr} {n : Nat} {zs : List Int} (h : Ints w A n zs) {k : Nat} (hk : k < n) :
    ∃ b off, A = some ⟨b, off, none⟩ ∧ w.cell? ⟨b, off + k, none⟩ = some (.int .i64 (zs[k]?.getD 0)) := by
  obtain ⟨b, off, e, _, hc⟩ := h.2.2 (by omega)
  exact ⟨b, off, e, hc k hk⟩
theorem Ints.below {w w' : World} {A : Option Addr} {n B : Nat} {zs : List Int} (h : Ints w A n zs) (hb : Below B w w') (hB : B = w.heap.size) : Ints w' A n zs :=
  ⟨h.1, h.2.1, fun hn => by
    obtain ⟨b, off, e, hl, hc⟩ := h.2.2 hn
    have := hb.size
    exact ⟨b, off, e, by omega, fun k hk => (below_cell hb (by omega)).trans (hc k hk)⟩⟩
/-- a literal's new row. -/
theorem Ints.new (w : World) (t : TypeId) (zs : List Int) (hz : zs.length ≤ 9223372036854775807) :
    Ints (w.alloc (.cells (zs.map (Value.int .i64)).toArray t)) (some ⟨w.heap.size, 0, none⟩) zs.length zs :=
  ⟨rfl, hz, fun _ => ⟨w.heap.size, 0, rfl, by simp, fun k hk => by
    rw [World.cell?_alloc_new]
    simp [hk]⟩⟩
theorem Ints.new3 (w : World) (t : TypeId) (a b c : Int) : Ints (w.alloc (.cells #[.int .i64 a, .int .i64 b, .int .i64 c] t)) (some ⟨w.heap.size, 0, none⟩) 3 [a, b, c] := Ints.new w t [a, b, c] (by simp)
theorem Ints.new2 (w : World) (t : TypeId) (a b : Int) : Ints (w.alloc (.cells #[.int .i64 a, .int .i64 b] t)) (some ⟨w.heap.size, 0, none⟩) 2 [a, b] := Ints.new w t [a, b] (by simp)
theorem Ints.new1 (w : World) (t : TypeId) (a : Int) : Ints (w.alloc (.cells #[.int .i64 a] t)) (some ⟨w.heap.size, 0, none⟩) 1 [a] := Ints.new w t [a] (by simp)
theorem Ints.new3' (w : World) (t : TypeId) (a b c : Int) (n : Nat) (h : n = w.heap.size) : Ints (w.alloc (.cells #[.int .i64 a, .int .i64 b, .int .i64 c] t)) (some ⟨n, 0, none⟩) 3 [a, b, c] := by subst h; exact Ints.new3 w t a b c
theorem Ints.new2' (w : World) (t : TypeId) (a b : Int) (n : Nat) (h : n = w.heap.size) : Ints (w.alloc (.cells #[.int .i64 a, .int .i64 b] t)) (some ⟨n, 0, none⟩) 2 [a, b] := by subst h; exact Ints.new2 w t a b
theorem Ints.new1' (w : World) (t : TypeId) (a : Int) (n : Nat) (h : n = w.heap.size) : Ints (w.alloc (.cells #[.int .i64 a] t)) (some ⟨n, 0, none⟩) 1 [a] := by subst h; exact Ints.new1 w t a

/-! ### a law's last step -/
section
variable {H : Type} {enc : TypeId × Value → H} {P : Program}
theorem all_stay (hl : laidOutB P = true) {W W' : World} (hb : Below W.heap.size W W') : ∀ (ts : List TypeId) (vs : List Value) (ds : List (DataW H)) (ps : List MemPlace),
    (∀ t ∈ ts, P.readableRec t = true ∧ t < P.types.size) → (∀ x ∈ ps, x.block < W.heap.size) → DataW.TrodAll enc P W 0 (fun _ => true) true ts vs ds ps →
    DataW.TrodAll enc P W' 0 (fun b => decide (b < W.heap.size)) true ts vs ds ps
  | [], vs, ds, ps, _, _, h => by
    obtain ⟨rfl, rfl, rfl⟩ := trodAll_nil h
    exact trodAll_mk0
  | t :: ts, vs, ds, ps, hr, hlt, h => by
    obtain ⟨v, vs1, d, ds1, a, b, rfl, rfl, rfl, h1, h2⟩ := trodAll_cons h
    exact trodAll_cons_mk (Below.trod hl (hr t (List.mem_cons_self ..)).1 (hr t (List.mem_cons_self ..)).2 h1 hb (fun x hx => hlt x (List.mem_append_left _ hx)))
      (all_stay hl hb ts vs1 ds1 b (fun t ht => hr t (List.mem_cons_of_mem _ ht)) (fun x hx => hlt x (List.mem_append_right _ hx)) h2)

/-- a law that answers true, and leaves all that was there as it was, does what its row says. -/
theorem law_post {f : Func} {s : ChangeSpec} {W W' : World} {args : Array Value} {ds : List (DataW H)} {before : List MemPlace} {tb : TypeId}
    (hl : laidOutB P = true) (hr : ∀ t ∈ f.params.toList, P.readableRec t = true ∧ t < P.types.size) (hrt : f.resultTypes = #[tb]) (hub : P.underlying tb = some .bool)
    (hv : s.vars = []) (hfn : s.fn H (ds ++ []) = { results := [.lit (.bool true)], args := ds })
    (hW : DataW.Whole enc P f.params.toList s.vars false W args.toList ds [] before) (hb : Below W.heap.size W W') :
    s.post enc P f false true false false W args (.bool true) W' := by
  have hlt : ∀ p ∈ before, p.block < W.heap.size := fun p hp => hW.lt p hp
  have hW' := hW
  obtain ⟨pa, pv, hA, hV, rfl, hz, _⟩ := hW
  rw [hv] at hV
  obtain ⟨_, rfl⟩ := trodVars_none hV
  have hst := all_stay (enc := enc) hl hb _ _ _ _ hr (fun x hx => hlt x (List.mem_append_left _ hx)) hA
  have hres : ∀ (b : Nat) (sp : Nat → Bool) (hd : Bool), DataW.TrodAll enc P W' b sp hd f.resultTypes.toList ((Value.bool true).resultList f.resultTypes.size) (s.fn H (ds ++ [])).results [] := by
    intro b sp hd
    rw [hfn, hrt]
    exact trodAll_cons_mk (shut_bool hub _) trodAll_mk0
  have hnone : ∀ sp : Nat → Bool, DataW.TrodVars enc P W' sp s.vars (s.fn H (ds ++ [])).vars [] := by
    intro sp
    rw [hfn, hv]
    exact rfl
  exact ⟨ds, [], _, [], pa, [], hW', hres _ _ _, by rw [hfn]; exact hst, hnone _, World.keptBut_mono (fun p hp => ⟨hp, by simpa using hp⟩) (hb.frame (· ∈ pa ++ [])), fun h => absurd h (by decide)⟩

/-- a slice of whole numbers that came in. -/
theorem open_intsA {W : World} {base : Nat} {t e : TypeId} {v : Value} {d : DataW H} {p : List MemPlace} (ht : P.underlying t = some (.slice e)) (he : P.underlying e = some (.int .i64)) (hc : P.cellsOf e = 1)
    (hv : Value.okWide P W .any base t v) (h : DataW.Trod enc P W 0 (fun _ => true) true t v d p) :
    ∃ A n c zs, v = .slice A n c ∧ n ≤ c ∧ c ≤ maxLen ∧ Ints W A n zs ∧ ∀ z ∈ zs, (Lit.int .i64 z).wf = true := by
  obtain ⟨A, n, c, rfl⟩ := okWide_slice ht hv
  obtain ⟨fuel, hf⟩ := h
  rcases open_ints ht he hc hf with ⟨hcs, _⟩ | ⟨a, len, cap, zs, hcs, _, hl, hm, hz, _, hcell, hw⟩
  · simp [Value.cells] at hcs
    obtain ⟨rfl, rfl, rfl⟩ := hcs
    exact ⟨_, _, _, [], rfl, Nat.le_refl _, by decide, Ints.nil _ _, by simp⟩
  · simp [Value.cells] at hcs
    obtain ⟨rfl, rfl, rfl⟩ := hcs
    simp only [if_true] at hz
    refine ⟨_, _, _, zs.take n, rfl, hl, hm, ⟨by rw [List.length_take]; omega, by unfold maxLen at hm; omega, fun hn => ?_⟩, fun z hz => hw z (List.mem_of_mem_take hz)⟩
    obtain ⟨b, off, spot⟩ := a
    have hspot : spot = none := by simpa [Addr.add] using World.cell?_spot (hcell 0 (by omega))
    subst hspot
    have hc0 : ∀ k, k < n → W.cell? ⟨b, off + k, none⟩ = some (.int .i64 ((zs.take n)[k]?.getD 0)) := by
      intro k hk
      rw [← add_plain, hcell k (by omega)]
      simp [hk]
    exact ⟨b, off, rfl, cell_lt (hc0 0 hn), hc0⟩
end
end Go.Proofs.Ytamakeogaipdiaa
/- Blocks of the call's own that hold a struct, one cell a field: what a world says of one, and how long it stays true. Worlds behind a world. Nothing of the program stands here. -/
namespace Go.Proofs.Ytamakeogaipdiaa
open Go.RowKit
set_option linter.unusedVariables false
set_option linter.unusedSimpArgs false

/-- block n holds the cells vs, none of them frozen. -/
def Box (w : World) (n : Nat) (vs : List Value) : Prop := n < w.heap.size ∧ (∀ o, w.frozen? ⟨n, o, none⟩ = false) ∧ ∀ (j : Nat) (v : Value), vs[j]? = some v → w.cell? ⟨n, j, none⟩ = some v
theorem Box.lt {w : World} {n : Nat} {vs : List Value} (h : Box w n vs) : n < w.heap.size := h.1
theorem Box.below {w w' : World} {n : Nat} {vs : List Value} (h : Box w n vs) (hb : Below w.heap.size w w') : Box w' n vs :=
  ⟨Nat.lt_of_lt_of_le h.1 hb.size, fun o => (hb.frozen (p := ⟨n, o, none⟩) h.1).trans (h.2.1 o), fun j v hv => (hb.cell (p := ⟨n, j, none⟩) h.1).trans (h.2.2 j v hv)⟩
theorem Box.belowB {B : Nat} {w w' : World} {n : Nat} {vs : List Value} (h : Box w n vs) (hb : Below B w w') (hn : n < B) : Box w' n vs :=
  ⟨Nat.lt_of_lt_of_le h.1 hb.size, fun o => (hb.frozen (p := ⟨n, o, none⟩) hn).trans (h.2.1 o), fun j v hv => (hb.cell (p := ⟨n, j, none⟩) hn).trans (h.2.2 j v hv)⟩
theorem Box.drew {w : World} {n : Nat} {vs : List Value} (h : Box w n vs) : Box w.drew n vs := ⟨h.1, h.2.1, h.2.2⟩
theorem Box.alloc {w : World} {n : Nat} {vs : List Value} (h : Box w n vs) (o : Obj) : Box (w.alloc o) n vs := h.below ((Below.refl _ _).alloc (Nat.le_refl _) o)
theorem Box.new (w : World) (vs : List Value) (t : TypeId) : Box (w.alloc (.cells vs.toArray t)) w.heap.size vs :=
  ⟨by simp, fun o => World.frozen?_alloc_new w vs.toArray t o, fun j v hv => by rw [World.cell?_alloc_new]; simpa using hv⟩
theorem Box.new2 (w : World) (a b : Value) (t : TypeId) : Box (w.alloc (.cells #[a, b] t)) w.heap.size [a, b] := Box.new w [a, b] t
theorem Box.new2' (w : World) (a b : Value) (t : TypeId) (n : Nat) (h : n = w.heap.size) : Box (w.alloc (.cells #[a, b] t)) n [a, b] := by subst h; exact Box.new w [a, b] t
theorem Box.set {w : World} {n : Nat} {vs : List Value} (h : Box w n vs) (j : Nat) (v : Value) (hj : j < vs.length) : Box (w.setCell ⟨n, j, none⟩ v) n (vs.set j v) := by
  refine ⟨by simpa using h.1, fun o => by rw [World.frozen?_setCell]; exact h.2.1 o, fun i u hu => ?_⟩
  by_cases e : j = i
  · subst e
    rw [List.getElem?_set_self hj] at hu
    injection hu with hu
    subst hu
    exact World.cell?_setCell_same _ _ _ (h.2.2 j vs[j] (List.getElem?_eq_getElem hj))
  · rw [List.getElem?_set_ne e] at hu
    rw [World.cell?_setCell_other _ _ _ _ (fun k => e (by injection k))]
    exact h.2.2 i u hu
theorem Box.set_other {w : World} {n m : Nat} {vs : List Value} (h : Box w n vs) (hm : m ≠ n) (j : Nat) (v : Value) : Box (w.setCell ⟨m, j, none⟩ v) n vs :=
  ⟨by simpa using h.1, fun o => by rw [World.frozen?_setCell]; exact h.2.1 o, fun i u hu => by
    rw [World.cell?_setCell_other _ _ _ _ (fun k => hm (by injection k))]; exact h.2.2 i u hu⟩
theorem Box.of1 {w : World} {n : Nat} {a : Value} (h : Box w n [a]) : w.cell? ⟨n, 0, none⟩ = some a ∧ w.frozen? ⟨n, 0, none⟩ = false ∧ n < w.heap.size :=
  ⟨h.2.2 0 _ rfl, h.2.1 _, h.1⟩
theorem Box.of2 {w : World} {n : Nat} {a b : Value} (h : Box w n [a, b]) : w.cell? ⟨n, 0, none⟩ = some a ∧ w.cell? ⟨n, 1, none⟩ = some b ∧ w.frozen? ⟨n, 0, none⟩ = false ∧ w.frozen? ⟨n, 1, none⟩ = false ∧ n < w.heap.size :=
  ⟨h.2.2 0 _ rfl, h.2.2 1 _ rfl, h.2.1 _, h.2.1 _, h.1⟩

theorem bcell {W w1 : World} (hb : Below W.heap.size W w1) : (∀ b o, b < W.heap.size → w1.cell? ⟨b, o, none⟩ = W.cell? ⟨b, o, none⟩) ∧ (∀ b o, b < W.heap.size → w1.frozen? ⟨b, o, none⟩ = W.frozen? ⟨b, o, none⟩) :=
  ⟨fun b o h => hb.cell (p := ⟨b, o, none⟩) h, fun b o h => hb.frozen (p := ⟨b, o, none⟩) h⟩
theorem below_then {W w1 w2 : World} (h : Below W.heap.size W w1) (hb : Below w1.heap.size w1 w2) : Below W.heap.size W w2 := h.trans (hb.mono h.size)

/-- a world behind W, in which all of W is as it was. -/
def On (W W' : World) : Prop := Below W.heap.size W W'
theorem On.refl (W : World) : On W W := Below.refl _ _
theorem On.drew {W W' : World} (h : On W W') : On W W'.drew := Below.drew h
theorem On.step {W w1 w2 : World} (h : On W w1) (hb : Below w1.heap.size w1 w2) : On W w2 := below_then h hb
theorem On.cell {W : World} {a : Addr} {v : Value} (h : W.cell? a = some v) : ∀ W', On W W' → W'.cell? a = some v := fun W' hW => (Below.cell hW (p := a) (cell_lt h)).trans h
theorem On.box {W : World} {n : Nat} {vs : List Value} (h : Box W n vs) : ∀ W', On W W' → Box W' n vs := fun W' hW => h.below hW
theorem On.of1 {W : World} {n : Nat} {a : Value} (h : Box W n [a]) : ∀ W', On W W' → W'.cell? ⟨n, 0, none⟩ = some a := On.cell (h.2.2 0 _ rfl)
theorem On.of2 {W : World} {n : Nat} {a b : Value} (h : Box W n [a, b]) : (∀ W', On W W' → W'.cell? ⟨n, 0, none⟩ = some a) ∧ (∀ W', On W W' → W'.cell? ⟨n, 1, none⟩ = some b) := ⟨On.cell (h.2.2 0 _ rfl), On.cell (h.2.2 1 _ rfl)⟩
end Go.Proofs.Ytamakeogaipdiaa
/- Slices whose elements are of one cell or more, and what append makes of a row of the call's own. Nothing of the program stands here. -/
namespace Go.Proofs.Ytamakeogaipdiaa
open Go.ChangeShapes Go.WideShapes Go.ChangeAt Go.RowKit
set_option linter.unusedVariables false
set_option linter.unusedSimpArgs false

/-- the slice value '.slice A n c' holds these cells, 'size' of them an element. -/
def Cells (w : World) (A : Option Addr) (n size : Nat) (xs : List Value) : Prop :=
  xs.length = n * size ∧ n ≤ 9223372036854775807 ∧ (0 < n → ∃ b off, A = some ⟨b, off, none⟩ ∧ b < w.heap.size ∧ ∀ j u, xs[j]? = some u → w.cell? ⟨b, off + j, none⟩ = some u)
theorem Cells.nil (w : World) (A : Option Addr) (size : Nat) : Cells w A 0 size [] := ⟨by simp, by decide, fun h => absurd h (by decide)⟩
theorem Cells.below {w w' : World} {A : Option Addr} {n size B : Nat} {xs : List Value} (h : Cells w A n size xs) (hb : Below B w w') (hB : B = w.heap.size) : Cells w' A n size xs :=
  ⟨h.1, h.2.1, fun hn => by
    obtain ⟨b, off, e, hl, hc⟩ := h.2.2 hn
    have := hb.size
    exact ⟨b, off, e, by omega, fun j u hu => (below_cell hb (by omega)).trans (hc j u hu)⟩⟩
theorem Cells.ints {w : World} {A : Option Addr} {n : Nat} {zs : List Int} (h : Cells w A n 1 (zs.map (Value.int .i64))) : Ints w A n zs := by
  obtain ⟨h1, h2, h3⟩ := h
  have hl : zs.length = n := by simpa using h1
  refine ⟨hl, h2, fun hn => ?_⟩
  obtain ⟨b, off, e, hb, hc⟩ := h3 hn
  exact ⟨b, off, e, hb, fun k hk => hc k _ (by rw [List.getElem?_map]; simp [show k < zs.length by omega])⟩
theorem Ints.cells {w : World} {A : Option Addr} {n : Nat} {zs : List Int} (h : Ints w A n zs) : Cells w A n 1 (zs.map (Value.int .i64)) := by
  obtain ⟨h1, h2, h3⟩ := h
  refine ⟨by simpa using h1, h2, fun hn => ?_⟩
  obtain ⟨b, off, e, hb, hc⟩ := h3 hn
  refine ⟨b, off, e, hb, fun j u hu => ?_⟩
  rw [List.getElem?_map] at hu
  rcases Nat.lt_or_ge j n with hj | hj
  · rw [hc j hj]
    have hj' : j < zs.length := by omega
    simp only [List.getElem?_eq_getElem hj', Option.map_some, Option.some.injEq] at hu
    simp [hj', hu]
  · rw [List.getElem?_eq_none (by omega)] at hu
    simp at hu
theorem ownsRow_cells {w : World} {base : Nat} {e : TypeId} {size : Nat} {A : Option Addr} {n c : Nat} {xs : List Value} (h : w.ownsRow base e size (.slice A n c) n xs) : Cells w A n size xs := by
  refine ⟨h.1, ?_, fun hn => ?_⟩
  · rcases h.2 with ⟨_, h0⟩ | ⟨g, cap, cur, _, _, _, hnc, hcm, _⟩
    · subst h0; decide
    · unfold maxLen at hcm; omega
  · rcases h.2 with ⟨_, h0⟩ | ⟨g, cap, cur, hv, _, hg, _, _, _, _⟩
    · omega
    · injection hv with hA
      subst hA
      have hlt : g < w.heap.size := by
        rcases Nat.lt_or_ge g w.heap.size with h' | h'
        · exact h'
        · rw [Array.getElem?_eq_none h'] at hg; cases hg
      refine ⟨g, 0, rfl, hlt, fun j u hu => ?_⟩
      have := h.cells (g := g) rfl j u hu
      rwa [add_plain] at this
theorem ownsRow_form {w : World} {base : Nat} {e : TypeId} {size : Nat} {v : Value} {n : Nat} {xs : List Value} (h : w.ownsRow base e size v n xs) : ∃ A c, v = .slice A n c := by
  rcases h.2 with ⟨rfl, rfl⟩ | ⟨g, cap, cur, rfl, _⟩
  · exact ⟨_, _, rfl⟩
  · exact ⟨_, _, rfl⟩

section
variable {P : Program} (w : World)
theorem run_append_zero (base : Nat) (t ty e : TypeId) (i : TypeInfo) (size : Nat) (ht : P.underlying t = some (.slice e)) (hi : P.info? e = some i)
    (v : Value) (n : Nat) (xs : List Value) (hown : w.ownsRow base e size v n xs) (A : Option Addr) (c : Nat) : (Builtin.append_ #[t, t] ty #[v, .slice A 0 c]).run P w = .ok v w := by
  rcases hown.2 with ⟨rfl, rfl⟩ | ⟨g, cap, cur, rfl, _, _, hnc, _⟩
  · cases A <;> simp [Builtin.append_, run_underlying ht, sizeOf, typeInfo, hi, Builtin.lenOf, Builtin.firstCells, loadCells, loadCellsFrom]
  · cases A <;> simp [Builtin.append_, run_underlying ht, sizeOf, typeInfo, hi, Builtin.lenOf, Builtin.firstCells, hnc, storeCells, loadCells, loadCellsFrom]
theorem run_append_cells (base : Nat) (t ty e : TypeId) (i : TypeInfo) (z : Value) (size bytes : Nat) (ht : P.underlying t = some (.slice e)) (hi : P.info? e = some i) (hz : i.zero = some z)
    (hsize : i.size = size) (hby : i.bytes = bytes) (hzs : z.cells.size = size) (hsz : 0 < size)
    (v : Value) (n : Nat) (xs : List Value) (hown : w.ownsRow base e size v n xs) (A : Option Addr) (m c : Nat) (news : List Value) (hc : Cells w A m size news) (h1 : ∀ u ∈ news, u.oneCell' = true)
    (h63 : n + m ≤ maxLen) (hbytes : (n + m) * bytes ≤ 140737488355328) (hbase : base ≤ w.heap.size) :
    ∃ A' c' w', (Builtin.append_ #[t, t] ty #[v, .slice A m c]).run P w = .ok (.slice A' (n + m) c') w' ∧ w'.ownsRow base e size (.slice A' (n + m) c') (n + m) (xs ++ news) ∧ w.grownBy w' v.ownBlock := by
  rcases Nat.eq_zero_or_pos m with rfl | hm
  · have hn : news = [] := List.eq_nil_of_length_eq_zero (by simpa using hc.1)
    subst hn
    obtain ⟨A', c', rfl⟩ := ownsRow_form hown
    exact ⟨A', c', w, run_append_zero w base t ty e i size ht hi _ n xs hown A c, by simpa using hown, ⟨rfl, rfl, rfl, Nat.le_refl _, fun _ _ _ => rfl⟩⟩
  · obtain ⟨b, off, rfl, _, hcell⟩ := hc.2.2 hm
    obtain ⟨v', w', hr, h2, h3, _⟩ := run_append_own (P := P) w base t ty e i z size bytes ht hi hz hsize hby hzs hsz v n xs hown ⟨b, off, none⟩ m c news hc.1 (fun j u hu => by rw [add_plain]; exact hcell j u hu) h1 h63 hbytes hbase
    obtain ⟨A', c', rfl⟩ := ownsRow_form h2
    exact ⟨A', c', w', hr, h2, h3⟩
theorem wpList_append_cells {ops : Array Oper} {rest : List Oper} {o : Oper} {a : Act} {Q : Exit → Act → World → Prop} (hgd : o.guard = none) (s x : Operand) (t : TypeId)
    (ho : o.op = .call { callee := .builtin .append, args := #[s, x], argTypes := #[t, t] })
    (base : Nat) (e : TypeId) (i : TypeInfo) (z : Value) (size bytes : Nat) (ht : P.underlying t = some (.slice e)) (hi : P.info? e = some i) (hz : i.zero = some z)
    (hsize : i.size = size) (hby : i.bytes = bytes) (hzs : z.cells.size = size) (hsz : 0 < size)
    (v : Value) (n : Nat) (xs : List Value) (hs : a.eval s = v) (hown : w.ownsRow base e size v n xs)
    (A : Option Addr) (m c : Nat) (news : List Value) (hx : a.eval x = .slice A m c) (hc : Cells w A m size news) (h1 : ∀ u ∈ news, u.oneCell' = true)
    (h63 : n + m ≤ maxLen) (hbytes : (n + m) * bytes ≤ 140737488355328) (hbase : base ≤ w.heap.size)
    (h : ∀ A' c' w', w'.ownsRow base e size (.slice A' (n + m) c') (n + m) (xs ++ news) → w.grownBy w' v.ownBlock → wpList P ops Q rest (a.put o.dst (.slice A' (n + m) c')) w') : wpList P ops Q (o :: rest) a w := by
  obtain ⟨A', c', w', hr, h2, h3⟩ := run_append_cells (P := P) w base t o.type e i z size bytes ht hi hz hsize hby hzs hsz v n xs hown A m c news hc h1 h63 hbytes hbase
  refine wpList_plain hgd fun _ hK => ?_
  unfold Oper.wp execOp
  simp only [ho, resolve, invoke, builtin, Sem.run_bind, Sem.run_pure, Result.andThen_ok, List.map_toArray, List.map_cons, List.map_nil, hs, hx, hr]
  exact hK _ _ (h A' c' w' h2 h3)
theorem step_append_cells {ops : Array Oper} {o : Oper} {a : Act} {K : Act → World → Prop} {Q : Exit → Act → World → Prop} {E : Prop} (hgd : o.guard = none) (s x : Operand) (t : TypeId)
    (ho : o.op = .call { callee := .builtin .append, args := #[s, x], argTypes := #[t, t] })
    (base : Nat) (e : TypeId) (i : TypeInfo) (z : Value) (size bytes : Nat) (ht : P.underlying t = some (.slice e)) (hi : P.info? e = some i) (hz : i.zero = some z)
    (hsize : i.size = size) (hby : i.bytes = bytes) (hzs : z.cells.size = size) (hsz : 0 < size)
    (v : Value) (n : Nat) (xs : List Value) (hs : a.eval s = v) (hown : w.ownsRow base e size v n xs)
    (A : Option Addr) (m c : Nat) (news : List Value) (hx : a.eval x = .slice A m c) (hc : Cells w A m size news) (h1 : ∀ u ∈ news, u.oneCell' = true)
    (h63 : n + m ≤ maxLen) (hbytes : (n + m) * bytes ≤ 140737488355328) (hbase : base ≤ w.heap.size)
    (h : ∀ A' c' w', w'.ownsRow base e size (.slice A' (n + m) c') (n + m) (xs ++ news) → w.grownBy w' v.ownBlock → K (a.put o.dst (.slice A' (n + m) c')) w') :
    if Region.wanted o (yielded ops a.tmps) = true then Oper.wp P o a w K Q else E := by
  obtain ⟨A', c', w', hr, h2, h3⟩ := run_append_cells (P := P) w base t o.type e i z size bytes ht hi hz hsize hby hzs hsz v n xs hown A m c news hc h1 h63 hbytes hbase
  have hw : Region.wanted o (yielded ops a.tmps) = true := by simp [Region.wanted, hgd]
  rw [if_pos hw]
  unfold Oper.wp execOp
  simp only [ho, resolve, invoke, builtin, Sem.run_bind, Sem.run_pure, Result.andThen_ok, List.map_toArray, List.map_cons, List.map_nil, hs, hx, hr]
  exact h _ _ _ h2 h3
end
end Go.Proofs.Ytamakeogaipdiaa
/- The model's way to read a character is the document's table. Nothing of the program stands here. -/
namespace Go.Proofs.Ytamakeogaipdiaa
open Go
set_option linter.unusedVariables false
set_option linter.unusedSimpArgs false
def sizeN (n b0 b1 b2 b3 : Nat) : Nat :=
  if b0 ≤ 127 then 1
  else if (194 ≤ b0 ∧ b0 ≤ 223) ∧ (1 < n ∧ 128 ≤ b1 ∧ b1 ≤ 191) then 2
  else if 224 ≤ b0 ∧ b0 ≤ 239 ∧ (1 < n ∧ 128 ≤ b1 ∧ b1 ≤ 191) ∧ (2 < n ∧ 128 ≤ b2 ∧ b2 ≤ 191) ∧ (b0 = 224 → 160 ≤ b1) ∧ (b0 = 237 → b1 ≤ 159) then 3
  else if 240 ≤ b0 ∧ b0 ≤ 244 ∧ (1 < n ∧ 128 ≤ b1 ∧ b1 ≤ 191) ∧ (2 < n ∧ 128 ≤ b2 ∧ b2 ≤ 191) ∧ (3 < n ∧ 128 ≤ b3 ∧ b3 ≤ 191) ∧ (b0 = 240 → 144 ≤ b1) ∧ (b0 = 244 → b1 ≤ 143) then 4
  else 0
def runeN (b0 b1 b2 b3 z : Nat) : Nat :=
  if z = 1 then b0 else if z = 2 then 64 * (b0 - 192) + (b1 - 128) else if z = 3 then 64 * (64 * (b0 - 224) + (b1 - 128)) + (b2 - 128) else 64 * (64 * (64 * (b0 - 240) + (b1 - 128)) + (b2 - 128)) + (b3 - 128)
set_option maxRecDepth 100000 in
set_option maxHeartbeats 8000000 in
theorem decodeN_size (n b0 b1 b2 b3 : Nat) (h0 : b0 < 256) (h1 : b1 < 256) (h2 : b2 < 256) (h3 : b3 < 256) :
    Go.Lib.decodeN n b0 b1 b2 b3 = if sizeN n b0 b1 b2 b3 = 0 then (65533, 1) else (runeN b0 b1 b2 b3 (sizeN n b0 b1 b2 b3), sizeN n b0 b1 b2 b3) := by
  unfold sizeN
  by_cases c1 : b0 ≤ 127
  · simp only [if_pos c1]
    unfold Go.Lib.decodeN runeN
    simp only [show b0 < 128 by omega, if_true]
    rfl
  simp only [if_neg c1]
  by_cases c2 : (194 ≤ b0 ∧ b0 ≤ 223) ∧ (1 < n ∧ 128 ≤ b1 ∧ b1 ≤ 191)
  · simp only [if_pos c2]
    unfold Go.Lib.decodeN runeN
    rw [if_neg (by omega), if_pos (by omega), if_pos (by omega)]
    simp only [show (2 : Nat) = 0 ↔ False by decide, show (2 : Nat) = 1 ↔ False by decide, if_false, if_true]
    apply Prod.ext <;> simp only <;> omega
  simp only [if_neg c2]
  by_cases c3 : 224 ≤ b0 ∧ b0 ≤ 239 ∧ (1 < n ∧ 128 ≤ b1 ∧ b1 ≤ 191) ∧ (2 < n ∧ 128 ≤ b2 ∧ b2 ≤ 191) ∧ (b0 = 224 → 160 ≤ b1) ∧ (b0 = 237 → b1 ≤ 159)
  · simp only [if_pos c3]
    obtain ⟨k1, k2, k3, k4, k5, k6⟩ := c3
    unfold Go.Lib.decodeN runeN
    rw [if_neg (by omega), if_neg (by omega), if_pos (by omega), if_pos (by omega)]
    simp only [show (3 : Nat) = 0 ↔ False by decide, show (3 : Nat) = 1 ↔ False by decide, show (3 : Nat) = 2 ↔ False by decide, if_false, if_true]
    apply Prod.ext <;> simp only <;> omega
  simp only [if_neg c3]
  by_cases c4 : 240 ≤ b0 ∧ b0 ≤ 244 ∧ (1 < n ∧ 128 ≤ b1 ∧ b1 ≤ 191) ∧ (2 < n ∧ 128 ≤ b2 ∧ b2 ≤ 191) ∧ (3 < n ∧ 128 ≤ b3 ∧ b3 ≤ 191) ∧ (b0 = 240 → 144 ≤ b1) ∧ (b0 = 244 → b1 ≤ 143)
  · simp only [if_pos c4]
    obtain ⟨k1, k2, k3, k4, k5, k6, k7⟩ := c4
    unfold Go.Lib.decodeN runeN
    rw [if_neg (by omega), if_neg (by omega), if_neg (by omega), if_pos (by omega), if_pos (by omega)]
    simp only [show (4 : Nat) = 0 ↔ False by decide, show (4 : Nat) = 1 ↔ False by decide, show (4 : Nat) = 2 ↔ False by decide, show (4 : Nat) = 3 ↔ False by decide, if_false]
    apply Prod.ext <;> simp only <;> omega
  simp only [if_neg c4, if_true]
  unfold Go.Lib.decodeN
  rw [if_neg (by omega)]
  split
  · rw [if_neg (by omega)]
  · split
    · rw [if_neg (by omega)]
    · split
      · rw [if_neg (by omega)]
      · rfl
theorem inB_iff {s : ByteArray} {i : Nat} {a b : Int} : inB s i a b = true ↔ i < s.size ∧ a ≤ bAt s i ∧ bAt s i ≤ b := by
  unfold inB; simp only [Bool.and_eq_true, decide_eq_true_eq, and_assoc]
theorem moreB_iff {s : ByteArray} {i : Nat} : ∀ {n : Nat}, moreB s i n = true ↔ ∀ j, j < n → inB s (i + j) 128 191 = true
  | 0 => by simp [moreB]
  | n + 1 => by
    unfold moreB
    rw [Bool.and_eq_true, moreB_iff (n := n)]
    constructor
    · rintro ⟨h1, h2⟩ j hj
      rcases (show j < n ∨ j = n by omega) with h | rfl
      · exact h1 j h
      · exact h2
    · intro h
      exact ⟨fun j hj => h j (by omega), h n (by omega)⟩
theorem more1 {s : ByteArray} {i : Nat} : moreB s i 1 = true ↔ inB s i 128 191 = true := by
  rw [moreB_iff]
  refine ⟨fun h => h 0 (by decide), fun h j hj => ?_⟩
  obtain rfl : j = 0 := by omega
  exact h
theorem more2 {s : ByteArray} {i : Nat} : moreB s i 2 = true ↔ inB s i 128 191 = true ∧ inB s (i + 1) 128 191 = true := by
  rw [moreB_iff]
  refine ⟨fun h => ⟨h 0 (by decide), h 1 (by decide)⟩, fun ⟨h, k⟩ j hj => ?_⟩
  rcases (show j = 0 ∨ j = 1 by omega) with rfl | rfl
  · exact h
  · exact k
theorem more3 {s : ByteArray} {i : Nat} : moreB s i 3 = true ↔ inB s i 128 191 = true ∧ inB s (i + 1) 128 191 = true ∧ inB s (i + 2) 128 191 = true := by
  rw [moreB_iff]
  refine ⟨fun h => ⟨h 0 (by decide), h 1 (by decide), h 2 (by decide)⟩, fun ⟨h, k, l⟩ j hj => ?_⟩
  rcases (show j = 0 ∨ j = 1 ∨ j = 2 by omega) with rfl | rfl | rfl
  · exact h
  · exact k
  · exact l
theorem sizeB_sizeN (s : ByteArray) (k : Nat) (hk : k < s.size) : sizeB s k = sizeN (s.size - k) (s.get! k).toNat (s.get! (k + 1)).toNat (s.get! (k + 2)).toNat (s.get! (k + 3)).toNat := by
  have e0 : bAt s k = ((s.get! k).toNat : Int) := rfl
  have e1 : bAt s (k + 1) = ((s.get! (k + 1)).toNat : Int) := rfl
  have e2 : bAt s (k + 2) = ((s.get! (k + 2)).toNat : Int) := rfl
  have e3 : bAt s (k + 3) = ((s.get! (k + 3)).toNat : Int) := rfl
  have n1 : k + 1 + 1 = k + 2 := rfl
  have n2 : k + 2 + 1 = k + 3 := rfl
  have n3 : k + 1 + 2 = k + 3 := rfl
  have m1 : (s.get! k).toNat < 256 := (s.get! k).toNat_lt
  unfold sizeB sizeN
  simp only [Bool.or_eq_true, Bool.and_eq_true, more1, more2, more3, inB_iff, n1, n2, n3, e0, e1, e2, e3]
  generalize (s.get! k).toNat = b0 at *
  generalize (s.get! (k + 1)).toNat = b1
  generalize (s.get! (k + 2)).toNat = b2
  generalize (s.get! (k + 3)).toNat = b3
  have i1 : (if k < s.size ∧ (0 : Int) ≤ (b0 : Int) ∧ (b0 : Int) ≤ 127 then (1 : Nat) else 0) = if b0 ≤ 127 then 1 else 0 := by
    by_cases c : b0 ≤ 127
    · rw [if_pos c, if_pos (by omega)]
    · rw [if_neg c, if_neg (by omega)]
  by_cases c1 : b0 ≤ 127
  · rw [if_pos (by omega), if_pos c1]
  rw [if_neg (by omega), if_neg c1]
  by_cases c2 : (194 ≤ b0 ∧ b0 ≤ 223) ∧ (1 < s.size - k ∧ 128 ≤ b1 ∧ b1 ≤ 191)
  · rw [if_pos c2, if_pos (by omega)]
  rw [if_neg c2, if_neg (by omega)]
  by_cases c3 : 224 ≤ b0 ∧ b0 ≤ 239 ∧ (1 < s.size - k ∧ 128 ≤ b1 ∧ b1 ≤ 191) ∧ (2 < s.size - k ∧ 128 ≤ b2 ∧ b2 ≤ 191) ∧ (b0 = 224 → 160 ≤ b1) ∧ (b0 = 237 → b1 ≤ 159)
  · rw [if_pos c3, if_pos (by omega)]
  rw [if_neg c3, if_neg (by omega)]
  by_cases c4 : 240 ≤ b0 ∧ b0 ≤ 244 ∧ (1 < s.size - k ∧ 128 ≤ b1 ∧ b1 ≤ 191) ∧ (2 < s.size - k ∧ 128 ≤ b2 ∧ b2 ≤ 191) ∧ (3 < s.size - k ∧ 128 ≤ b3 ∧ b3 ≤ 191) ∧ (b0 = 240 → 144 ≤ b1) ∧ (b0 = 244 → b1 ≤ 143)
  · rw [if_pos c4, if_pos (by omega)]
  rw [if_neg c4, if_neg (by omega)]
/-- the model's decode, in the document's words. -/
theorem decode_size (s : ByteArray) (k : Nat) (hk : k < s.size) : (sizeB s k = 0 → Utf8.decode s k = (65533, 1)) ∧ (sizeB s k ≠ 0 → Utf8.decode s k = ((runeB s k (sizeB s k)).toNat, sizeB s k) ∧ 0 ≤ runeB s k (sizeB s k)) := by
  have hd := Go.Lib.decode_at s k
  rw [decodeN_size _ _ _ _ _ (s.get! k).toNat_lt (s.get! (k + 1)).toNat_lt (s.get! (k + 2)).toNat_lt (s.get! (k + 3)).toNat_lt, ← sizeB_sizeN s k hk] at hd
  refine ⟨fun h => by rw [hd, if_pos h], fun h => ?_⟩
  rw [if_neg h] at hd
  rw [hd]
  have hz := sizeB_sizeN s k hk
  have e0 : bAt s k = ((s.get! k).toNat : Int) := rfl
  have e1 : bAt s (k + 1) = ((s.get! (k + 1)).toNat : Int) := rfl
  have e2 : bAt s (k + 2) = ((s.get! (k + 2)).toNat : Int) := rfl
  have e3 : bAt s (k + 3) = ((s.get! (k + 3)).toNat : Int) := rfl
  have key : runeB s k (sizeB s k) = (runeN (s.get! k).toNat (s.get! (k + 1)).toNat (s.get! (k + 2)).toNat (s.get! (k + 3)).toNat (sizeB s k) : Int) := by
    generalize hb0 : (s.get! k).toNat = b0 at *
    generalize hb1 : (s.get! (k + 1)).toNat = b1 at *
    generalize hb2 : (s.get! (k + 2)).toNat = b2 at *
    generalize hb3 : (s.get! (k + 3)).toNat = b3 at *
    unfold sizeN at hz
    unfold runeN
    split at hz
    · rw [hz]; show bAt s k = _; rw [e0]; rfl
    split at hz
    · rename_i c; rw [hz]; show 64 * (bAt s k - 192) + bAt s (k + 1) - 128 = _; rw [e0, e1]; simp only [show (2 : Nat) = 1 ↔ False by decide, if_false, if_true]; omega
    split at hz
    · rename_i c; rw [hz]; show 64 * (64 * (bAt s k - 224) + bAt s (k + 1) - 128) + bAt s (k + 2) - 128 = _; rw [e0, e1, e2]; simp only [show (3 : Nat) = 1 ↔ False by decide, show (3 : Nat) = 2 ↔ False by decide, if_false, if_true]; omega
    split at hz
    · rename_i c; rw [hz]; show 64 * (64 * (64 * (bAt s k - 240) + bAt s (k + 1) - 128) + bAt s (k + 2) - 128) + bAt s (k + 3) - 128 = _; rw [e0, e1, e2, e3]; simp only [show (4 : Nat) = 1 ↔ False by decide, show (4 : Nat) = 2 ↔ False by decide, show (4 : Nat) = 3 ↔ False by decide, if_false]; omega
    · exact absurd hz h
  refine ⟨?_, by rw [key]; omega⟩
  rw [key]
  simp
end Go.Proofs.Ytamakeogaipdiaa
/- Where the tokens of a script stand: in order, whole, with white and comments alone between them. Nothing of the program stands here. -/
namespace Go.Proofs.Ytamakeogaipdiaa
open Go
set_option linter.unusedVariables false
set_option linter.unusedSimpArgs false
/-- n bytes from i on, gone over as white and comments: whether a comment is open behind them; none: there is something else. -/
def nstF (s : ByteArray) : Nat → Nat → Bool → Option Bool
  | 0, _, c => some c
  | n + 1, i, c => if bAt s i = 10 then nstF s n (i + 1) false else if c then nstF s n (i + 1) true else if bAt s i = 35 then nstF s n (i + 1) true else if bAt s i = 32 ∨ bAt s i = 9 then nstF s n (i + 1) false else none
theorem nstF_add (s : ByteArray) : ∀ (n m i : Nat) (c : Bool), nstF s (n + m) i c = (nstF s n i c).bind fun c' => nstF s m (i + n) c'
  | 0, m, i, c => by rw [Nat.zero_add, nstF]; rfl
  | n + 1, m, i, c => by
    have ih := fun c => nstF_add s n m (i + 1) c
    rw [show n + 1 + m = (n + m) + 1 by omega, nstF, nstF]
    simp only [ih, show i + 1 + n = i + (n + 1) by omega]
    split
    · rfl
    · split
      · rfl
      · split
        · rfl
        · split <;> rfl
theorem nst_then {s : ByteArray} {e k z : Nat} {c c' : Bool} (he : e ≤ k) (h1 : nstF s (k - e) e false = some c) (h2 : nstF s z k c = some c') : nstF s (k + z - e) e false = some c' := by
  rw [show k + z - e = (k - e) + z by omega, nstF_add, h1]
  show nstF s z (e + (k - e)) c = _
  rw [show e + (k - e) = k by omega, h2]
/-- the bytes of a character of more than one byte are above 127. -/
theorem bytes_high {s : ByteArray} {k : Nat} (h2 : 2 ≤ sizeB s k) : ∀ j, j < sizeB s k → 128 ≤ bAt s (k + j) := by
  have hk : k < s.size := by have := sizeB_in (s := s) (k := k) (by omega); omega
  intro j hj
  have hz := sizeB_sizeN s k hk
  have e0 : bAt s k = ((s.get! k).toNat : Int) := rfl
  have e1 : bAt s (k + 1) = ((s.get! (k + 1)).toNat : Int) := rfl
  have e2 : bAt s (k + 2) = ((s.get! (k + 2)).toNat : Int) := rfl
  have e3 : bAt s (k + 3) = ((s.get! (k + 3)).toNat : Int) := rfl
  have hj4 := sizeB_le s k
  unfold sizeN at hz
  rcases (show j = 0 ∨ j = 1 ∨ j = 2 ∨ j = 3 by omega) with rfl | rfl | rfl | rfl
  all_goals
    (try simp only [Nat.add_zero])
    split at hz
    · omega
    split at hz
    · omega
    split at hz
    · omega
    split at hz
    · omega
    · omega
theorem byte_one {s : ByteArray} {k : Nat} (h : sizeB s k = 1) : bAt s k ≤ 127 := by
  have hk : k < s.size := by have := sizeB_in (s := s) (k := k) (by omega); omega
  have hz := sizeB_sizeN s k hk
  have e0 : bAt s k = ((s.get! k).toNat : Int) := rfl
  unfold sizeN at hz
  split at hz
  · omega
  split at hz
  · omega
  split at hz
  · omega
  split at hz
  · omega
  · omega
theorem nst_high (s : ByteArray) : ∀ (n i : Nat), (∀ j, j < n → bAt s (i + j) ≠ 10) → nstF s n i true = some true
  | 0, i, _ => rfl
  | n + 1, i, h => by
    rw [nstF, if_neg (show ¬ bAt s i = 10 from h 0 (by omega)), if_pos rfl]
    exact nst_high s n (i + 1) fun j hj => by rw [show i + 1 + j = i + (j + 1) by omega]; exact h (j + 1) (by omega)
/-- a character within a comment. -/
theorem nst_comment {s : ByteArray} {k : Nat} (hz : sizeB s k ≠ 0) : nstF s (sizeB s k) k true = some (decide (bAt s k ≠ 10)) := by
  rcases (show sizeB s k = 1 ∨ 2 ≤ sizeB s k by omega) with h | h
  · rw [h]
    by_cases c : bAt s k = 10
    · rw [nstF, if_pos c]; simp [nstF, c]
    · rw [nstF, if_neg c, if_pos rfl]; simp [nstF, c]
  · have hb := bytes_high h
    rw [nst_high s _ _ (fun j hj => by have := hb j hj; omega), decide_eq_true]
    have := hb 0 (by omega); rw [Nat.add_zero] at this; omega
theorem digB_numB_end (s : ByteArray) : ∀ (f : Nat) (n : Int) (e : Nat), s.size ≤ e + f → digB s (numF s f n e).2 = false
  | 0, n, e, h => inB_ge (by show ¬ e < s.size; omega) _ _
  | f + 1, n, e, h => by
    rw [numF]; split
    · exact digB_numB_end s f _ _ (by omega)
    · rename_i c; simpa using c
theorem numB_end (s : ByteArray) (k : Nat) : digB s (numB s k).2 = false := digB_numB_end s _ _ _ (by omega)
theorem numF_nonneg {s : ByteArray} : ∀ (f : Nat) (n : Int) (e : Nat), 0 ≤ n → 0 ≤ (numF s f n e).1
  | 0, _, _, h => h
  | f + 1, n, e, h => by
    rw [numF]; split
    · rename_i hd
      have hb := inB_iff.1 (show inB s e 48 57 = true from hd)
      exact numF_nonneg f _ _ (by omega)
    · exact h

/-- a token that stands at p. -/
def TokOk (s : ByteArray) (x : Tok) (p : Nat) : Prop :=
  x.at_ = (p : Int) ∧ p < s.size ∧ ((x.kind = 1 ∧ x.n = 0 ∧ sizeB s p ≠ 0 ∧ x.sign = runeB s p (sizeB s p)) ∨
    (x.kind = 2 ∧ x.sign = 0 ∧ digB s p = true ∧ x.n = (numB s p).1 ∧ x.n ≤ 1099511627776))
def endT (s : ByteArray) (x : Tok) (p : Nat) : Nat := if x.kind = 1 then p + sizeB s p else (numB s p).2
/-- tokens in order; behind the last one stands e; l: it is a number. -/
inductive Placed (s : ByteArray) : List Tok → Nat → Bool → Prop
  | nil : Placed s [] 0 false
  | snoc {out : List Tok} {e p : Nat} {l : Bool} {x : Tok} (h : Placed s out e l) (hx : TokOk s x p) (he : e ≤ p) (hn : (nstF s (p - e) e false).isSome = true) (ha : x.kind = 2 → l = true → e < p) : Placed s (out ++ [x]) (endT s x p) (decide (x.kind = 2))
theorem endT_size {s : ByteArray} {x : Tok} {p : Nat} (h : TokOk s x p) : p < endT s x p ∧ endT s x p ≤ s.size := by
  obtain ⟨_, hp, h | h⟩ := h
  · unfold endT; rw [if_pos h.1]
    have := sizeB_in (s := s) (k := p) (by have := h.2.2.1; omega)
    have := h.2.2.1
    omega
  · unfold endT; rw [if_neg (by rw [h.1]; decide)]
    exact ⟨numB_gt h.2.2.1, numB_size' h.2.2.1 hp⟩
where
  numB_size' {s : ByteArray} {p : Nat} (h : digB s p = true) (hp : p < s.size) : (numB s p).2 ≤ s.size := by
    unfold numB
    exact go _ _ _ (by omega)
  go {s : ByteArray} : ∀ (f : Nat) (n : Int) (e : Nat), e ≤ s.size → (numF s f n e).2 ≤ s.size
    | 0, _, _, h => h
    | f + 1, n, e, h => by
      rw [numF]; split
      · rename_i hd
        have := inB_lt hd
        exact go f _ _ (by omega)
      · exact h
theorem Placed.unique {s : ByteArray} {out : List Tok} {e e' : Nat} {l l' : Bool} (h : Placed s out e l) (h' : Placed s out e' l') : e = e' ∧ l = l' := by
  cases h with
  | nil =>
    generalize ho : ([] : List Tok) = o at h'
    cases h' with
    | nil => exact ⟨rfl, rfl⟩
    | snoc => simp at ho
  | @snoc out1 e1 p1 l1 x1 h1 hx1 he1 hn1 ha1 =>
    generalize ho : out1 ++ [x1] = o at h'
    cases h' with
    | nil => simp at ho
    | @snoc out2 e2 p2 l2 x2 h2 hx2 he2 hn2 ha2 =>
      obtain ⟨_, hx⟩ := List.append_inj' ho rfl
      injection hx with hx
      subst hx
      have : p1 = p2 := by have a := hx1.1; have b := hx2.1; omega
      subst this
      exact ⟨rfl, rfl⟩
theorem Placed.last {s : ByteArray} {out : List Tok} {x : Tok} {e : Nat} {l : Bool} (h : Placed s (out ++ [x]) e l) : ∃ e1 l1 p, Placed s out e1 l1 ∧ TokOk s x p ∧ e1 ≤ p ∧ (nstF s (p - e1) e1 false).isSome = true ∧ (x.kind = 2 → l1 = true → e1 < p) ∧ e = endT s x p ∧ l = decide (x.kind = 2) := by
  generalize ho : out ++ [x] = o at h
  cases h with
  | nil => simp at ho
  | @snoc out2 e2 p2 l2 x2 h2 hx2 he2 hn2 ha2 =>
    obtain ⟨h1, hx⟩ := List.append_inj' ho rfl
    injection hx with hx
    subst hx h1
    exact ⟨e2, l2, p2, h2, hx2, he2, hn2, ha2, rfl, rfl⟩
theorem Placed.take {s : ByteArray} : ∀ (n : Nat) {out : List Tok} {e : Nat} {l : Bool}, out.length = n → Placed s out e l → ∀ i, i ≤ n → ∃ e' l', Placed s (out.take i) e' l'
  | 0, out, e, l, hn, h, i, hi => by
    obtain rfl : i = 0 := by omega
    exact ⟨0, false, by rw [List.take_zero]; exact Placed.nil⟩
  | n + 1, out, e, l, hn, h, i, hi => by
    rcases (show i = n + 1 ∨ i ≤ n by omega) with rfl | hi2
    · exact ⟨e, l, by rw [List.take_of_length_le (by omega)]; exact h⟩
    · obtain ⟨o, x, rfl⟩ : ∃ o x, out = o ++ [x] := ⟨out.dropLast, out.getLast (by intro c; rw [c] at hn; cases hn), (List.dropLast_concat_getLast _).symm⟩
      obtain ⟨e1, l1, p, h1, _⟩ := h.last
      have hl : o.length = n := by simpa using hn
      rw [List.take_append_of_le_length (by omega)]
      exact Placed.take n hl h1 i hi2
theorem lexF_placed (s : ByteArray) : ∀ (f : Nat) (c : Bool) (k : Nat) (out : List Tok) (e : Nat) (l : Bool), k ≤ s.size → s.size ≤ k + f → Placed s out e l → e ≤ k → nstF s (k - e) e false = some c → (l = true → e = k → digB s k = false) →
    ∀ o q, lexF s f c k out = (some o, q) → ∃ e' l', Placed s o e' l' ∧ e' ≤ s.size ∧ (nstF s (s.size - e') e' false).isSome = true := by
  intro f
  induction f with
  | zero =>
    intro c k out e l hk hf hp he hn hl o q ho
    injection ho with h1 _
    injection h1 with h1
    subst h1
    obtain rfl : k = s.size := by omega
    exact ⟨e, l, hp, he, by rw [hn]; rfl⟩
  | succ f ih =>
    intro c k out e l hk hf hp he hn hl o q ho
    by_cases hlt : k < s.size
    · obtain ⟨f', hf', hf2, hop⟩ := lexF_open (c := c) (out := out) hlt hf
      obtain rfl : f' = f := by omega
      rw [hop] at ho
      by_cases hz : sizeB s k = 0
      · rw [if_pos hz] at ho; injection ho with h1 _; cases h1
      · rw [if_neg hz] at ho
        have hin := sizeB_in (s := s) (k := k) (by omega)
        cases c with
        | true =>
          rw [if_pos rfl] at ho
          exact ih _ _ _ e l (by omega) (by omega) hp (by omega) (nst_then he hn (nst_comment hz)) (fun _ q => by omega) o q ho
        | false =>
          simp only [Bool.false_eq_true, if_false] at ho
          by_cases c1 : bAt s k = 35
          · rw [if_pos c1] at ho
            exact ih _ _ _ e l (by omega) (by omega) hp (by omega) (nst_then he hn (by rw [nstF, if_neg (by omega), if_neg (by decide), if_pos c1]; rfl)) (fun _ q => by omega) o q ho
          · rw [if_neg c1] at ho
            by_cases c2 : bAt s k = 32 ∨ bAt s k = 9 ∨ bAt s k = 10
            · rw [if_pos c2] at ho
              refine ih _ _ _ e l (by omega) (by omega) hp (by omega) (nst_then he hn ?_) (fun _ q => by omega) o q ho
              rw [nstF]
              by_cases c3 : bAt s k = 10
              · rw [if_pos c3]; rfl
              · rw [if_neg c3, if_neg (by decide), if_neg c1, if_pos (by omega)]; rfl
            · rw [if_neg c2] at ho
              have nil0 : ∀ j, nstF s (j - j) j false = some false := fun j => by rw [Nat.sub_self]; rfl
              rcases hd : digB s k with _ | _
              · rw [hd] at ho
                simp only [Bool.false_eq_true, if_false] at ho
                have hx : TokOk s ⟨1, runeB s k (sizeB s k), 0, k⟩ k := ⟨rfl, hlt, .inl ⟨rfl, rfl, hz, rfl⟩⟩
                have hp2 := Placed.snoc hp hx he (by rw [hn]; rfl) (fun h => by cases h)
                have hee : endT s ⟨1, runeB s k (sizeB s k), 0, k⟩ k = k + sizeB s k := if_pos rfl
                rw [hee] at hp2
                exact ih _ _ _ _ _ (by omega) (by omega) hp2 (Nat.le_refl _) (nil0 _) (fun h => by simp at h) o q ho
              · rw [hd] at ho
                simp only [if_true] at ho
                by_cases c3 : 1099511627776 < (numB s k).1 ∨ (bAt s k = 48 ∧ k + 1 < (numB s k).2)
                · rw [if_pos c3] at ho; injection ho with h1 _; cases h1
                · rw [if_neg c3] at ho
                  have hx : TokOk s ⟨2, 0, (numB s k).1, k⟩ k := ⟨rfl, hlt, .inr ⟨rfl, rfl, hd, rfl, by show (numB s k).1 ≤ _; omega⟩⟩
                  have hes := endT_size hx
                  have hp2 := Placed.snoc hp hx he (by rw [hn]; rfl) (fun _ hl1 => by
                    rcases Nat.lt_or_ge e k with q1 | q1
                    · exact q1
                    · have := hl hl1 (by omega); rw [hd] at this; cases this)
                  have hee : endT s ⟨2, 0, (numB s k).1, k⟩ k = (numB s k).2 := if_neg (show ¬ (2 : Int) = 1 by decide)
                  rw [hee] at hp2 hes
                  exact ih _ _ _ _ _ (by omega) (by omega) hp2 (Nat.le_refl _) (nil0 _) (fun _ _ => numB_end s k) o q ho
    · rw [lexF_end hlt] at ho
      injection ho with h1 _
      injection h1 with h1
      subst h1
      obtain rfl : k = s.size := by omega
      exact ⟨e, l, hp, he, by rw [hn]; rfl⟩
theorem lexB_placed {s : ByteArray} {o : List Tok} {q : Nat} (h : lexB s = (some o, q)) : ∃ e l, Placed s o e l ∧ e ≤ s.size ∧ (nstF s (s.size - e) e false).isSome = true :=
  lexF_placed s _ _ _ _ 0 false (by omega) (by omega) Placed.nil (Nat.le_refl _) rfl (fun h => absurd h (by decide)) o q h
end Go.Proofs.Ytamakeogaipdiaa
/- Regions that draw their order, that only read, and whose callees read, draw and make memory: one walk, in the worlds behind W. Nothing of the program stands here. -/
namespace Go.Proofs.Ytamakeogaipdiaa
open Go.RowKit
set_option linter.unusedVariables false
set_option linter.unusedSimpArgs false
/-- a world behind W, as one thing. -/
structure OnW (W : World) where
  w : World
  h : On W w
instance (W : World) : Inhabited (OnW W) := ⟨⟨W, On.refl W⟩⟩
theorem wp_region_on {P : Program} {id : Nat} {Q : Exit → Act → World → Prop} {a : Act} {W : World} {l : List Oper} (hm : P.follows .mixedOrders = true) (hB : Region.lexB .any l.toArray = true)
    (h : wpQuiet P l.toArray (fun w' => ∃ p : OnW W, w' = p.w) (fun a' => ∀ w', (∃ p : OnW W, w' = p.w) → Q .normal a' w') l a) : (Code.region id l.toArray true).wp P Q a W :=
  wp_region_quiet (C := fun w' => ∃ p : OnW W, w' = p.w) hm hB ⟨⟨W.drew, (On.refl W).drew⟩, rfl⟩ (by simpa using h)
theorem OnW.cell {W : World} {a : Addr} {v : Value} (h : W.cell? a = some v) (p : OnW W) : p.w.cell? a = some v := On.cell h p.w p.h
theorem OnW.of1 {W : World} {n : Nat} {a : Value} (h : Box W n [a]) : ∀ p : OnW W, p.w.cell? ⟨n, 0, none⟩ = some a := fun p => OnW.cell (h.2.2 0 _ rfl) p
theorem OnW.of2 {W : World} {n : Nat} {a b : Value} (h : Box W n [a, b]) : (∀ p : OnW W, p.w.cell? ⟨n, 0, none⟩ = some a) ∧ (∀ p : OnW W, p.w.cell? ⟨n, 1, none⟩ = some b) := ⟨fun p => OnW.cell (h.2.2 0 _ rfl) p, fun p => OnW.cell (h.2.2 1 _ rfl) p⟩
/-- a callee's contract, met in a world behind W. -/
theorem Calls.on_of {P : Program} {f : FuncId} {args : Array Value} {W : World} {p : OnW W} {v : Value}
    (h : Calls P f args p.w fun e w' => e = .returned v ∧ Below p.w.heap.size p.w w') : Calls P f args p.w fun e w'' => e = .returned v ∧ ∃ q : OnW W, w'' = q.w :=
  h.mono fun _ w' ⟨he, hb⟩ => ⟨he, ⟨w', p.h.step hb⟩, rfl⟩
theorem On.alloc {W w : World} (h : On W w) (o : Obj) : On W (w.alloc o) := Below.alloc h h.size o
theorem On.set {W w : World} {n j : Nat} (h : On W w) (hn : W.heap.size ≤ n) (v : Value) : On W (w.setCell ⟨n, j, none⟩ v) := Below.setCell h hn v
end Go.Proofs.Ytamakeogaipdiaa
/- A document read among tokens by a function with fuel: for scripts that are written out. Nothing of the program stands here. -/
namespace Go.Proofs.Ytamakeogaipdiaa
open Go
set_option linter.unusedVariables false
set_option linter.unusedSimpArgs false
deriving instance DecidableEq for Res
def attrsF (l : List Tok) : Nat → Nat → Sty → List Int → Option (Res Sty)
  | 0, _, _, _ => none
  | f + 1, i, s, told =>
    if letterB l i told = 0 then some (.ok s i)
    else if nmB l (i + 1) (limitB (letterB l i told)).1 (limitB (letterB l i told)).2 = false then some (.bad (i + 1))
    else attrsF l f (i + 2) (withB s (letterB l i told) (nAt l (i + 1))) (told ++ [letterB l i told])
theorem attrsF_ok {l : List Tok} : ∀ {f i s told r}, attrsF l f i s told = some r → Attrs l i s told r
  | 0, _, _, _, _, h => by cases h
  | f + 1, i, s, told, r, h => by
    unfold attrsF at h
    split at h
    · rename_i h1; cases h; exact .stop h1
    · rename_i h1
      split at h
      · rename_i h2; cases h; exact .bad h1 h2
      · rename_i h2; exact .step h1 (by simpa using h2) (attrsF_ok h)
def wordsF (l : List Tok) : Nat → Nat → List Int → Option (List Int × Nat)
  | 0, _, _ => none
  | f + 1, k, out => if nmB l k 1 maxN = false then some (out, k) else wordsF l f (k + 1) (out ++ [nAt l k])
theorem wordsF_ok {l : List Tok} : ∀ {f k out ws b}, wordsF l f k out = some (ws, b) → Words l k out ws b
  | 0, _, _, _, _, h => by cases h
  | f + 1, k, out, ws, b, h => by
    unfold wordsF at h
    split at h
    · rename_i h1; cases h; exact .stop h1
    · rename_i h1; exact .step (by simpa using h1) (wordsF_ok h)
def parseF (l : List Tok) : Nat → Bool → Nat → List Nd → Option (Res (List Nd))
  | 0, _, _, _ => none
  | f + 1, true, i, out =>
    if opens l i = false then some (.ok out i)
    else match parseF l f false i [] with
      | some (.ok x b) => parseF l f true b (out ++ x)
      | some (.bad p) => some (.bad p)
      | none => none
  | f + 1, false, i, [] =>
    if sgB l i 91 = true then
      match attrsF l (f + 1) (i + 1) .plain [] with
      | some (.bad p) => some (.bad p)
      | some (.ok s a) => match parseF l f true a [] with
        | some (.bad p) => some (.bad p)
        | some (.ok inner b) => if sgB l b 93 = true then some (.ok (blk s inner :: inner) (b + 1)) else some (.bad b)
        | none => none
      | none => none
    else if sgB l i 40 = true then
      if nmB l (i + 1) 1 maxN = false then some (.bad (i + 1))
      else if nmB l (i + 2) 0 maxN = false then some (.bad (i + 2))
      else match wordsF l (f + 1) (i + 3) [] with
        | some (ws, b) => if ws = [] ∨ sgB l b 41 = false then some (.bad b) else some (.ok [txt (nAt l (i + 1)) (nAt l (i + 2)) ws] (b + 1))
        | none => none
    else if sgB l i 123 = true then some (boxR l (i + 1) 3 0 125)
    else if sgB l i 60 = true then
      if sgB l (i + 1) 76 = true then some (boxR l (i + 2) 4 1 62)
      else if sgB l (i + 1) 82 = true then some (boxR l (i + 2) 4 2 62)
      else some (.bad (i + 1))
    else none
  | _, false, _, _ :: _ => none
theorem parseF_ok {l : List Tok} : ∀ {f t i out r}, parseF l f t i out = some r → Parse l t i out r
  | 0, _, _, _, _, h => by unfold parseF at h; cases h
  | f + 1, true, i, out, r, h => by
    unfold parseF at h
    split at h
    · rename_i h1; cases h; exact .stop h1
    · rename_i h1
      have h1 : opens l i = true := by simpa using h1
      split at h
      · rename_i x b h2; exact .more h1 (parseF_ok h2) (parseF_ok h)
      · rename_i p h2; cases h; exact .fail h1 (parseF_ok h2)
      · cases h
  | f + 1, false, i, _ :: _, r, h => by unfold parseF at h; cases h
  | f + 1, false, i, [], r, h => by
    unfold parseF at h
    split at h
    · rename_i h1
      split at h
      · rename_i p h2; cases h; exact .blockA h1 (attrsF_ok h2)
      · rename_i s a h2
        split at h
        · rename_i p h3; cases h; exact .blockN h1 (attrsF_ok h2) (parseF_ok h3)
        · rename_i inner b h3
          split at h
          · rename_i h4; cases h; exact .block h1 (attrsF_ok h2) (parseF_ok h3) h4
          · rename_i h4; cases h; exact .blockE h1 (attrsF_ok h2) (parseF_ok h3) (by simpa using h4)
        · cases h
      · cases h
    · split at h
      · rename_i h1
        split at h
        · rename_i h2; cases h; exact .textL h1 h2
        · rename_i h2
          split at h
          · rename_i h3; cases h; exact .textS h1 (by simpa using h2) h3
          · rename_i h3
            split at h
            · rename_i ws b h4
              split at h
              · rename_i h5; cases h; exact .textW h1 (by simpa using h2) (by simpa using h3) (wordsF_ok h4) h5
              · rename_i h5
                cases h
                rw [not_or] at h5
                exact .text h1 (by simpa using h2) (by simpa using h3) (wordsF_ok h4) h5.1 (by simpa using h5.2)
            · cases h
      · split at h
        · rename_i h1; cases h; exact .mono h1
        · split at h
          · rename_i h1
            split at h
            · rename_i h2; cases h; exact .left h1 h2
            · rename_i h2
              split at h
              · rename_i h3; cases h; exact .right h1 h3
              · rename_i h3; cases h; exact .side h1 (by simpa using h2) (by simpa using h3)
          · cases h
/-- what a script that is written out is read as. -/
def readF (l : List Tok) (len : Nat) : Option (Option (List Nd) × Nat) :=
  match parseF l (2 * l.length + 2) true 0 [] with
  | some (.ok x b) => match l[b]? with
    | some t => some (none, t.at_.toNat)
    | none => if b = l.length then some (some x, 0) else none
  | some (.bad p) => match l[p]? with
    | some t => some (none, t.at_.toNat)
    | none => some (none, len)
  | none => none
theorem readF_ok {l : List Tok} {len : Nat} {r : Option (List Nd) × Nat} (h : readF l len = some r) : Read l len r := by
  unfold readF at h
  split at h
  · rename_i x b h1
    split at h
    · rename_i t h2; cases h; exact .rest (parseF_ok h1) h2
    · split at h
      · rename_i h3; cases h; subst h3; exact .ok (parseF_ok h1)
      · cases h
  · rename_i p h1
    split at h
    · rename_i t h2; cases h; exact .bad (parseF_ok h1) h2
    · rename_i h2; cases h; exact .short (parseF_ok h1) (by simpa using h2)
  · cases h
end Go.Proofs.Ytamakeogaipdiaa
/- What is read are rows within rows, and its numbers are such as a script tells. Nothing of the program stands here. -/
namespace Go.Proofs.Ytamakeogaipdiaa
open Go
set_option linter.unusedVariables false
set_option linter.unusedSimpArgs false
/-- rows within rows. -/
inductive Forest : List Nd → Prop
  | nil : Forest []
  | cons {x : Nd} {inner rest : List Nd} : x.size = 1 + (inner.length : Int) → (x.kind ≠ 1 → inner = []) → Forest inner → Forest rest → Forest (x :: (inner ++ rest))
theorem Forest.append {a b : List Nd} (h : Forest a) (k : Forest b) : Forest (a ++ b) := by
  induction h with
  | nil => exact k
  | cons h1 h2 h3 h4 _ ih => rw [List.cons_append, List.append_assoc]; exact .cons h1 h2 h3 ih
theorem Forest.one {x : Nd} (h : x.size = 1) : Forest [x] := by
  have := Forest.cons (x := x) (inner := []) (rest := []) (by simp [h]) (fun _ => rfl) .nil .nil
  simpa using this
def okN (n lo hi : Int) : Prop := lo ≤ n ∧ n ≤ hi
def Sty.fits (s : Sty) : Prop := (okN s.top 0 maxN ∧ okN s.bottom 0 maxN ∧ okN s.padTop 0 maxN ∧ okN s.padBottom 0 maxN ∧ okN s.inset 0 maxN ∧ okN s.orphans 1 maxN) ∧ okN s.widows 1 maxN ∧ okN s.head 0 maxN ∧ okN s.before 0 4 ∧ okN s.after 0 4 ∧ okN s.inside 0 1 ∧ okN s.clear 0 3
def Nd.fits (x : Nd) : Prop :=
  (x.kind = 1 ∧ x.sty.fits ∧ x.line = 0 ∧ x.space = 0 ∧ x.words = [] ∧ x.w = 0 ∧ x.h = 0 ∧ x.side = 0) ∨
  (x.kind = 2 ∧ x.sty = .none ∧ okN x.line 1 maxN ∧ okN x.space 0 maxN ∧ x.words ≠ [] ∧ (∀ n ∈ x.words, okN n 1 maxN) ∧ x.w = 0 ∧ x.h = 0 ∧ x.side = 0) ∨
  (x.kind = 3 ∧ x.sty = .none ∧ x.line = 0 ∧ x.space = 0 ∧ x.words = [] ∧ okN x.w 1 maxN ∧ okN x.h 1 maxN ∧ x.side = 0) ∨
  (x.kind = 4 ∧ x.sty = .none ∧ x.line = 0 ∧ x.space = 0 ∧ x.words = [] ∧ okN x.w 1 maxN ∧ okN x.h 1 maxN ∧ okN x.side 1 2)
theorem plain_fits : Sty.plain.fits := by unfold Sty.fits okN Sty.plain maxN; decide
theorem with_fits {s : Sty} (h : s.fits) {c n : Int} (hc : c ∈ lettersB) (hn : okN n (limitB c).1 (limitB c).2) : (withB s c n).fits := by
  obtain ⟨⟨h1, h2, h3, h4, h5, h6⟩, h7, h8, h9, h10, h11, h12⟩ := h
  simp only [lettersB, List.mem_cons, List.not_mem_nil, or_false] at hc
  have up : ∀ {lo}, 0 ≤ lo → okN n lo maxN → okN n 0 maxN := fun h k => ⟨by have := k.1; omega, k.2⟩
  rcases hc with rfl | rfl | rfl | rfl | rfl | rfl | rfl | rfl | rfl | rfl | rfl | rfl
  · exact ⟨⟨hn, h2, h3, h4, h5, h6⟩, h7, h8, h9, h10, h11, h12⟩
  · exact ⟨⟨h1, hn, h3, h4, h5, h6⟩, h7, h8, h9, h10, h11, h12⟩
  · exact ⟨⟨h1, h2, hn, h4, h5, h6⟩, h7, h8, h9, h10, h11, h12⟩
  · exact ⟨⟨h1, h2, h3, hn, h5, h6⟩, h7, h8, h9, h10, h11, h12⟩
  · exact ⟨⟨h1, h2, h3, h4, hn, h6⟩, h7, h8, h9, h10, h11, h12⟩
  · exact ⟨⟨h1, h2, h3, h4, h5, hn⟩, h7, h8, h9, h10, h11, h12⟩
  · exact ⟨⟨h1, h2, h3, h4, h5, h6⟩, hn, h8, h9, h10, h11, h12⟩
  · exact ⟨⟨h1, h2, h3, h4, h5, h6⟩, h7, up (lo := 1) (by decide) hn, h9, h10, h11, h12⟩
  · exact ⟨⟨h1, h2, h3, h4, h5, h6⟩, h7, h8, hn, h10, h11, h12⟩
  · exact ⟨⟨h1, h2, h3, h4, h5, h6⟩, h7, h8, h9, hn, h11, h12⟩
  · exact ⟨⟨h1, h2, h3, h4, h5, h6⟩, h7, h8, h9, h10, hn, h12⟩
  · exact ⟨⟨h1, h2, h3, h4, h5, h6⟩, h7, h8, h9, h10, h11, hn⟩
theorem Attrs.fits {l : List Tok} {i : Nat} {s : Sty} {told : List Int} {r : Res Sty} (h : Attrs l i s told r) : s.fits → ∀ s' a, r = .ok s' a → s'.fits := by
  induction h with
  | stop _ => intro hs s' a e; cases e; exact hs
  | bad _ _ => intro _ s' a e; cases e
  | step h1 h2 _ ih => intro hs s' a e; exact ih (with_fits hs (letterB_sg h1).2.1 (nmB_bd h2)) s' a e
theorem Words.fits {l : List Tok} {k : Nat} {out ws : List Int} {b : Nat} (h : Words l k out ws b) : (∀ n ∈ out, okN n 1 maxN) → ∀ n ∈ ws, okN n 1 maxN := by
  induction h with
  | stop _ => exact fun h => h
  | step h1 _ ih =>
    intro hs
    refine ih (fun n hn => ?_)
    rcases List.mem_append.1 hn with hn | hn
    · exact hs n hn
    · simp at hn; subst hn; exact nmB_bd h1
theorem boxR_ok {l : List Tok} {i : Nat} {kind side e : Int} {x : List Nd} {b : Nat} (h : boxR l i kind side e = .ok x b) : ∃ u v, x = [box_ kind side u v] ∧ okN u 1 maxN ∧ okN v 1 maxN := by
  unfold boxR at h
  split at h
  · cases h
  split at h
  · cases h
  split at h
  · cases h
  · rename_i h1 h2 _
    cases h
    exact ⟨_, _, rfl, nmB_bd (by simpa using h1), nmB_bd (by simpa using h2)⟩
theorem Parse.forest {l : List Tok} {t : Bool} {i : Nat} {out : List Nd} {r : Res (List Nd)} (h : Parse l t i out r) : Forest out → ∀ x b, r = .ok x b → Forest x := by
  induction h with
  | stop _ => intro hf x b e; cases e; exact hf
  | more _ _ _ ih1 ih2 => intro hf x b e; exact ih2 (hf.append (ih1 .nil _ _ rfl)) x b e
  | fail _ _ _ => intro _ x b e; cases e
  | blockA _ _ => intro _ x b e; cases e
  | blockN _ _ _ _ => intro _ x b e; cases e
  | blockE _ _ _ _ _ => intro _ x b e; cases e
  | @block i s a inner b0 _ _ _ _ ih =>
    intro _ x b e
    cases e
    have := Forest.cons (x := blk s inner) (inner := inner) (rest := []) rfl (fun h => absurd rfl h) (ih .nil _ _ rfl) .nil
    simpa using this
  | textL _ _ => intro _ x b e; cases e
  | textS _ _ _ => intro _ x b e; cases e
  | textW _ _ _ _ _ => intro _ x b e; cases e
  | text _ _ _ _ _ _ => intro _ x b e; cases e; exact .one rfl
  | mono _ => intro _ x b e; obtain ⟨u, v, rfl, _⟩ := boxR_ok e; exact .one rfl
  | left _ _ => intro _ x b e; obtain ⟨u, v, rfl, _⟩ := boxR_ok e; exact .one rfl
  | right _ _ => intro _ x b e; obtain ⟨u, v, rfl, _⟩ := boxR_ok e; exact .one rfl
  | side _ _ _ => intro _ x b e; cases e
theorem Parse.fits {l : List Tok} {t : Bool} {i : Nat} {out : List Nd} {r : Res (List Nd)} (h : Parse l t i out r) : (∀ x ∈ out, x.fits) → ∀ x b, r = .ok x b → ∀ y ∈ x, y.fits := by
  induction h with
  | stop _ => intro hf x b e; cases e; exact hf
  | more _ _ _ ih1 ih2 =>
    intro hf x b e
    refine ih2 (fun y hy => ?_) x b e
    rcases List.mem_append.1 hy with hy | hy
    · exact hf y hy
    · exact ih1 (fun _ h => by cases h) _ _ rfl y hy
  | fail _ _ _ => intro _ x b e; cases e
  | blockA _ _ => intro _ x b e; cases e
  | blockN _ _ _ _ => intro _ x b e; cases e
  | blockE _ _ _ _ _ => intro _ x b e; cases e
  | block _ g2 _ _ ih =>
    intro _ x b e
    cases e
    intro y hy
    rcases List.mem_cons.1 hy with rfl | hy
    · exact .inl ⟨rfl, g2.fits plain_fits _ _ rfl, rfl, rfl, rfl, rfl, rfl, rfl⟩
    · exact ih (fun _ h => by cases h) _ _ rfl y hy
  | textL _ _ => intro _ x b e; cases e
  | textS _ _ _ => intro _ x b e; cases e
  | textW _ _ _ _ _ => intro _ x b e; cases e
  | text _ g2 g3 g4 g5 _ =>
    intro _ x b e
    cases e
    intro y hy
    simp at hy
    subst hy
    exact .inr (.inl ⟨rfl, rfl, nmB_bd g2, nmB_bd g3, g5, g4.fits (fun _ h => by cases h), rfl, rfl, rfl⟩)
  | mono _ => intro _ x b e; obtain ⟨u, v, rfl, hu, hv⟩ := boxR_ok e; intro y hy; simp at hy; subst hy; exact .inr (.inr (.inl ⟨rfl, rfl, rfl, rfl, rfl, hu, hv, rfl⟩))
  | left _ _ => intro _ x b e; obtain ⟨u, v, rfl, hu, hv⟩ := boxR_ok e; intro y hy; simp at hy; subst hy; exact .inr (.inr (.inr ⟨rfl, rfl, rfl, rfl, rfl, hu, hv, by simp [box_], by simp [box_]⟩))
  | right _ _ => intro _ x b e; obtain ⟨u, v, rfl, hu, hv⟩ := boxR_ok e; intro y hy; simp at hy; subst hy; exact .inr (.inr (.inr ⟨rfl, rfl, rfl, rfl, rfl, hu, hv, by simp [box_], by simp [box_]⟩))
  | side _ _ _ => intro _ x b e; cases e
end Go.Proofs.Ytamakeogaipdiaa
