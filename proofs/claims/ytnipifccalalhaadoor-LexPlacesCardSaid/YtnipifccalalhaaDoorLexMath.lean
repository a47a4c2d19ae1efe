import Derived.Handy
import Derived.Lib.DecodeN
/- Scripts as rows of bytes: the characters' table, as the document has it. Nothing of the program stands here. -/
namespace Go.Proofs.YtnipifccalalhaaDoor
open Go
set_option linter.unusedVariables false
/-- byte i, as a number. -/
def bAt (s : ByteArray) (i : Nat) : Int := ((s.get! i).toNat : Int)
theorem bAt_bd (s : ByteArray) (i : Nat) : 0 ≤ bAt s i ∧ bAt s i ≤ 255 := by
  unfold bAt
  have := (s.get! i).toNat_lt
  omega
theorem bAt_get (s : ByteArray) (i : Nat) (h : i < s.size) : ((s[i]'h).toNat : Int) = bAt s i := by
  unfold bAt
  congr 2
  show s[i] = s.data[i]!
  rw [getElem!_pos s.data i h]
  rfl
/-- byte i is there, and is one from a to b. -/
def inB (s : ByteArray) (i : Nat) (a b : Int) : Bool := decide (i < s.size) && decide (a ≤ bAt s i) && decide (bAt s i ≤ b)
def moreB (s : ByteArray) (i : Nat) : Nat → Bool
  | 0 => true
  | n + 1 => moreB s i n && inB s (i + n) 128 191
/-- how many bytes the character has that begins at i; 0: none does. -/
def sizeB (s : ByteArray) (i : Nat) : Nat :=
  if inB s i 0 127 then 1
  else if inB s i 194 223 && moreB s (i + 1) 1 then 2
  else if inB s i 224 224 && inB s (i + 1) 160 191 && moreB s (i + 2) 1 || inB s i 225 236 && moreB s (i + 1) 2 || inB s i 237 237 && inB s (i + 1) 128 159 && moreB s (i + 2) 1 || inB s i 238 239 && moreB s (i + 1) 2 then 3
  else if inB s i 240 240 && inB s (i + 1) 144 191 && moreB s (i + 2) 2 || inB s i 241 243 && moreB s (i + 1) 3 || inB s i 244 244 && inB s (i + 1) 128 143 && moreB s (i + 2) 2 then 4
  else 0
theorem sizeB_le (s : ByteArray) (i : Nat) : sizeB s i ≤ 4 := by unfold sizeB; (repeat' split) <;> omega
theorem inB_lt {s : ByteArray} {i : Nat} {a b : Int} (h : inB s i a b = true) : i < s.size := by
  unfold inB at h; simp at h; exact h.1.1
theorem inB_ge {s : ByteArray} {i : Nat} (h : ¬ i < s.size) (a b : Int) : inB s i a b = false := by unfold inB; simp [h]
theorem inB_at {s : ByteArray} {i : Nat} (h : i < s.size) (a b : Int) : inB s i a b = (decide (a ≤ bAt s i) && decide (bAt s i ≤ b)) := by unfold inB; simp [h]
theorem inB_yes {s : ByteArray} {i : Nat} (h : i < s.size) {a b : Int} (h1 : a ≤ bAt s i) (h2 : bAt s i ≤ b) : inB s i a b = true := by unfold inB; simp [h, h1, h2]
theorem inB_no {s : ByteArray} {i : Nat} {a b : Int} (h : bAt s i < a ∨ b < bAt s i) : inB s i a b = false := by
  unfold inB
  rcases h with h | h
  · rw [decide_eq_false (show ¬ a ≤ bAt s i by omega)]; simp
  · rw [decide_eq_false (show ¬ bAt s i ≤ b by omega)]; simp
theorem moreB_no {s : ByteArray} {i : Nat} : ∀ {n j : Nat}, j < n → inB s (i + j) 128 191 = false → moreB s i n = false
  | 0, _, h, _ => absurd h (Nat.not_lt_zero _)
  | n + 1, j, h, hj => by
    unfold moreB
    by_cases e : j = n
    · subst e; rw [hj, Bool.and_false]
    · rw [moreB_no (n := n) (by omega) hj, Bool.false_and]
/-- which of the table's rows a first byte is of: of one at most. -/
theorem byte_classes (s : ByteArray) (k : Nat) :
    (inB s k 0 127 = false ∧ inB s k 194 223 = false ∧ inB s k 224 224 = false ∧ inB s k 225 236 = false ∧ inB s k 237 237 = false ∧ inB s k 238 239 = false ∧ inB s k 240 240 = false ∧ inB s k 241 243 = false ∧ inB s k 244 244 = false) ∨
    (inB s k 0 127 = true ∧ inB s k 194 223 = false ∧ inB s k 224 224 = false ∧ inB s k 225 236 = false ∧ inB s k 237 237 = false ∧ inB s k 238 239 = false ∧ inB s k 240 240 = false ∧ inB s k 241 243 = false ∧ inB s k 244 244 = false) ∨
    (inB s k 0 127 = false ∧ inB s k 194 223 = true ∧ inB s k 224 224 = false ∧ inB s k 225 236 = false ∧ inB s k 237 237 = false ∧ inB s k 238 239 = false ∧ inB s k 240 240 = false ∧ inB s k 241 243 = false ∧ inB s k 244 244 = false) ∨
    (inB s k 0 127 = false ∧ inB s k 194 223 = false ∧ inB s k 224 224 = true ∧ inB s k 225 236 = false ∧ inB s k 237 237 = false ∧ inB s k 238 239 = false ∧ inB s k 240 240 = false ∧ inB s k 241 243 = false ∧ inB s k 244 244 = false) ∨
    (inB s k 0 127 = false ∧ inB s k 194 223 = false ∧ inB s k 224 224 = false ∧ inB s k 225 236 = true ∧ inB s k 237 237 = false ∧ inB s k 238 239 = false ∧ inB s k 240 240 = false ∧ inB s k 241 243 = false ∧ inB s k 244 244 = false) ∨
    (inB s k 0 127 = false ∧ inB s k 194 223 = false ∧ inB s k 224 224 = false ∧ inB s k 225 236 = false ∧ inB s k 237 237 = true ∧ inB s k 238 239 = false ∧ inB s k 240 240 = false ∧ inB s k 241 243 = false ∧ inB s k 244 244 = false) ∨
    (inB s k 0 127 = false ∧ inB s k 194 223 = false ∧ inB s k 224 224 = false ∧ inB s k 225 236 = false ∧ inB s k 237 237 = false ∧ inB s k 238 239 = true ∧ inB s k 240 240 = false ∧ inB s k 241 243 = false ∧ inB s k 244 244 = false) ∨
    (inB s k 0 127 = false ∧ inB s k 194 223 = false ∧ inB s k 224 224 = false ∧ inB s k 225 236 = false ∧ inB s k 237 237 = false ∧ inB s k 238 239 = false ∧ inB s k 240 240 = true ∧ inB s k 241 243 = false ∧ inB s k 244 244 = false) ∨
    (inB s k 0 127 = false ∧ inB s k 194 223 = false ∧ inB s k 224 224 = false ∧ inB s k 225 236 = false ∧ inB s k 237 237 = false ∧ inB s k 238 239 = false ∧ inB s k 240 240 = false ∧ inB s k 241 243 = true ∧ inB s k 244 244 = false) ∨
    (inB s k 0 127 = false ∧ inB s k 194 223 = false ∧ inB s k 224 224 = false ∧ inB s k 225 236 = false ∧ inB s k 237 237 = false ∧ inB s k 238 239 = false ∧ inB s k 240 240 = false ∧ inB s k 241 243 = false ∧ inB s k 244 244 = true) := by
  have hb := bAt_bd s k
  by_cases hk : k < s.size
  · rcases (show (128 ≤ bAt s k ∧ bAt s k ≤ 193) ∨ 245 ≤ bAt s k ∨ bAt s k ≤ 127 ∨ (194 ≤ bAt s k ∧ bAt s k ≤ 223) ∨ bAt s k = 224 ∨ (225 ≤ bAt s k ∧ bAt s k ≤ 236) ∨ bAt s k = 237 ∨ (238 ≤ bAt s k ∧ bAt s k ≤ 239) ∨ bAt s k = 240 ∨ (241 ≤ bAt s k ∧ bAt s k ≤ 243) ∨ bAt s k = 244 by omega) with h | h | h | h | h | h | h | h | h | h | h
    · exact .inl (⟨inB_no (by omega), inB_no (by omega), inB_no (by omega), inB_no (by omega), inB_no (by omega), inB_no (by omega), inB_no (by omega), inB_no (by omega), inB_no (by omega)⟩)
    · exact .inl (⟨inB_no (by omega), inB_no (by omega), inB_no (by omega), inB_no (by omega), inB_no (by omega), inB_no (by omega), inB_no (by omega), inB_no (by omega), inB_no (by omega)⟩)
    · exact .inr (.inl (⟨inB_yes hk (by omega) (by omega), inB_no (by omega), inB_no (by omega), inB_no (by omega), inB_no (by omega), inB_no (by omega), inB_no (by omega), inB_no (by omega), inB_no (by omega)⟩))
    · exact .inr (.inr (.inl (⟨inB_no (by omega), inB_yes hk (by omega) (by omega), inB_no (by omega), inB_no (by omega), inB_no (by omega), inB_no (by omega), inB_no (by omega), inB_no (by omega), inB_no (by omega)⟩)))
    · exact .inr (.inr (.inr (.inl (⟨inB_no (by omega), inB_no (by omega), inB_yes hk (by omega) (by omega), inB_no (by omega), inB_no (by omega), inB_no (by omega), inB_no (by omega), inB_no (by omega), inB_no (by omega)⟩))))
    · exact .inr (.inr (.inr (.inr (.inl (⟨inB_no (by omega), inB_no (by omega), inB_no (by omega), inB_yes hk (by omega) (by omega), inB_no (by omega), inB_no (by omega), inB_no (by omega), inB_no (by omega), inB_no (by omega)⟩)))))
    · exact .inr (.inr (.inr (.inr (.inr (.inl (⟨inB_no (by omega), inB_no (by omega), inB_no (by omega), inB_no (by omega), inB_yes hk (by omega) (by omega), inB_no (by omega), inB_no (by omega), inB_no (by omega), inB_no (by omega)⟩))))))
    · exact .inr (.inr (.inr (.inr (.inr (.inr (.inl (⟨inB_no (by omega), inB_no (by omega), inB_no (by omega), inB_no (by omega), inB_no (by omega), inB_yes hk (by omega) (by omega), inB_no (by omega), inB_no (by omega), inB_no (by omega)⟩)))))))
    · exact .inr (.inr (.inr (.inr (.inr (.inr (.inr (.inl (⟨inB_no (by omega), inB_no (by omega), inB_no (by omega), inB_no (by omega), inB_no (by omega), inB_no (by omega), inB_yes hk (by omega) (by omega), inB_no (by omega), inB_no (by omega)⟩))))))))
    · exact .inr (.inr (.inr (.inr (.inr (.inr (.inr (.inr (.inl (⟨inB_no (by omega), inB_no (by omega), inB_no (by omega), inB_no (by omega), inB_no (by omega), inB_no (by omega), inB_no (by omega), inB_yes hk (by omega) (by omega), inB_no (by omega)⟩)))))))))
    · exact .inr (.inr (.inr (.inr (.inr (.inr (.inr (.inr (.inr (⟨inB_no (by omega), inB_no (by omega), inB_no (by omega), inB_no (by omega), inB_no (by omega), inB_no (by omega), inB_no (by omega), inB_no (by omega), inB_yes hk (by omega) (by omega)⟩)))))))))
  · exact .inl ⟨inB_ge hk _ _, inB_ge hk _ _, inB_ge hk _ _, inB_ge hk _ _, inB_ge hk _ _, inB_ge hk _ _, inB_ge hk _ _, inB_ge hk _ _, inB_ge hk _ _⟩
end Go.Proofs.YtnipifccalalhaaDoor
