import Derived.Test.YtnipifccalalhaaDoorLexMath2
import Derived.Lib.DecodeN
/- The model's way to read a character is the document's table. Nothing of the program stands here. -/
namespace Go.Proofs.YtnipifccalalhaaDoor
open Go
set_option linter.unusedVariables false
set_option linter.unusedSimpArgs false
def sizeN (n b0 b1 b2 b3 : Nat) : Nat :=
  if b0 ≤ 127 then 1
  else if (194 ≤ b0 ∧ b0 ≤ 223) ∧ (1 < n ∧ 128 ≤ b1 ∧ b1 ≤ 191) then 2
  else if 224 ≤ b0 ∧ b0 ≤ 239 ∧ (1 < n ∧ 128 ≤ b1 ∧ b1 ≤ 191) ∧ (2 < n ∧ 128 ≤ b2 ∧ b2 ≤ 191) ∧ (b0 = 224 → 160 ≤ b1) ∧ (b0 = 237 → b1 ≤ 159) then 3
  else if 240 ≤ b0 ∧ b0 ≤ 244 ∧ (1 < n ∧ 128 ≤ b1 ∧ b1 ≤ 191) ∧ (2 < n ∧ 128 ≤ b2 ∧ b2 ≤ 191) ∧ (3 < n ∧ 128 ≤ b3 ∧ b3 ≤ 191) ∧ (b0 = 240 → 144 ≤ b1) ∧ (b0 = 244 → b1 ≤ 143) then 4
  else 0
def runeN (b0 b1 b2 b3 z : Nat) : Nat :=
  if z = 1 then b0 else if z = 2 then 64 * (b0 - 192) + (b1 - 128) else if z = 3 then 64 * (64 * (b0 - 224) + (b1 - 128)) + (b2 - 128) else 64 * (64 * (64 * (b0 - 240) + (b1 - 128)) + (b2 - 128)) + (b3 - 128)
set_option maxRecDepth 100000 in
set_option maxHeartbeats 8000000 in
theorem decodeN_size (n b0 b1 b2 b3 : Nat) (h0 : b0 < 256) (h1 : b1 < 256) (h2 : b2 < 256) (h3 : b3 < 256) :
    Go.Lib.decodeN n b0 b1 b2 b3 = if sizeN n b0 b1 b2 b3 = 0 then (65533, 1) else (runeN b0 b1 b2 b3 (sizeN n b0 b1 b2 b3), sizeN n b0 b1 b2 b3) := by
  unfold sizeN
  by_cases c1 : b0 ≤ 127
  · simp only [if_pos c1]
    unfold Go.Lib.decodeN runeN
    simp only [show b0 < 128 by omega, if_true]
    rfl
  simp only [if_neg c1]
  by_cases c2 : (194 ≤ b0 ∧ b0 ≤ 223) ∧ (1 < n ∧ 128 ≤ b1 ∧ b1 ≤ 191)
  · simp only [if_pos c2]
    unfold Go.Lib.decodeN runeN
    rw [if_neg (by omega), if_pos (by omega), if_pos (by omega)]
    simp only [show (2 : Nat) = 0 ↔ False by decide, show (2 : Nat) = 1 ↔ False by decide, if_false, if_true]
    apply Prod.ext <;> simp only <;> omega
  simp only [if_neg c2]
  by_cases c3 : 224 ≤ b0 ∧ b0 ≤ 239 ∧ (1 < n ∧ 128 ≤ b1 ∧ b1 ≤ 191) ∧ (2 < n ∧ 128 ≤ b2 ∧ b2 ≤ 191) ∧ (b0 = 224 → 160 ≤ b1) ∧ (b0 = 237 → b1 ≤ 159)
  · simp only [if_pos c3]
    obtain ⟨k1, k2, k3, k4, k5, k6⟩ := c3
    unfold Go.Lib.decodeN runeN
    rw [if_neg (by omega), if_neg (by omega), if_pos (by omega), if_pos (by omega)]
    simp only [show (3 : Nat) = 0 ↔ False by decide, show (3 : Nat) = 1 ↔ False by decide, show (3 : Nat) = 2 ↔ False by decide, if_false, if_true]
    apply Prod.ext <;> simp only <;> omega
  simp only [if_neg c3]
  by_cases c4 : 240 ≤ b0 ∧ b0 ≤ 244 ∧ (1 < n ∧ 128 ≤ b1 ∧ b1 ≤ 191) ∧ (2 < n ∧ 128 ≤ b2 ∧ b2 ≤ 191) ∧ (3 < n ∧ 128 ≤ b3 ∧ b3 ≤ 191) ∧ (b0 = 240 → 144 ≤ b1) ∧ (b0 = 244 → b1 ≤ 143)
  · simp only [if_pos c4]
    obtain ⟨k1, k2, k3, k4, k5, k6, k7⟩ := c4
    unfold Go.Lib.decodeN runeN
    rw [if_neg (by omega), if_neg (by omega), if_neg (by omega), if_pos (by omega), if_pos (by omega)]
    simp only [show (4 : Nat) = 0 ↔ False by decide, show (4 : Nat) = 1 ↔ False by decide, show (4 : Nat) = 2 ↔ False by decide, show (4 : Nat) = 3 ↔ False by decide, if_false]
    apply Prod.ext <;> simp only <;> omega
  simp only [if_neg c4, if_true]
  unfold Go.Lib.decodeN
  rw [if_neg (by omega)]
  split
  · rw [if_neg (by omega)]
  · split
    · rw [if_neg (by omega)]
    · split
      · rw [if_neg (by omega)]
      · rfl
theorem inB_iff {s : ByteArray} {i : Nat} {a b : Int} : inB s i a b = true ↔ i < s.size ∧ a ≤ bAt s i ∧ bAt s i ≤ b := by
  unfold inB; simp only [Bool.and_eq_true, decide_eq_true_eq, and_assoc]
theorem moreB_iff {s : ByteArray} {i : Nat} : ∀ {n : Nat}, moreB s i n = true ↔ ∀ j, j < n → inB s (i + j) 128 191 = true
  | 0 => by simp [moreB]
  | n + 1 => by
    unfold moreB
    rw [Bool.and_eq_true, moreB_iff (n := n)]
    constructor
    · rintro ⟨h1, h2⟩ j hj
      rcases (show j < n ∨ j = n by omega) with h | rfl
      · exact h1 j h
      · exact h2
    · intro h
      exact ⟨fun j hj => h j (by omega), h n (by omega)⟩
theorem more1 {s : ByteArray} {i : Nat} : moreB s i 1 = true ↔ inB s i 128 191 = true := by
  rw [moreB_iff]
  refine ⟨fun h => h 0 (by decide), fun h j hj => ?_⟩
  obtain rfl : j = 0 := by omega
  exact h
theorem more2 {s : ByteArray} {i : Nat} : moreB s i 2 = true ↔ inB s i 128 191 = true ∧ inB s (i + 1) 128 191 = true := by
  rw [moreB_iff]
  refine ⟨fun h => ⟨h 0 (by decide), h 1 (by decide)⟩, fun ⟨h, k⟩ j hj => ?_⟩
  rcases (show j = 0 ∨ j = 1 by omega) with rfl | rfl
  · exact h
  · exact k
theorem more3 {s : ByteArray} {i : Nat} : moreB s i 3 = true ↔ inB s i 128 191 = true ∧ inB s (i + 1) 128 191 = true ∧ inB s (i + 2) 128 191 = true := by
  rw [moreB_iff]
  refine ⟨fun h => ⟨h 0 (by decide), h 1 (by decide), h 2 (by decide)⟩, fun ⟨h, k, l⟩ j hj => ?_⟩
  rcases (show j = 0 ∨ j = 1 ∨ j = 2 by omega) with rfl | rfl | rfl
  · exact h
  · exact k
  · exact l
theorem sizeB_sizeN (s : ByteArray) (k : Nat) (hk : k < s.size) : sizeB s k = sizeN (s.size - k) (s.get! k).toNat (s.get! (k + 1)).toNat (s.get! (k + 2)).toNat (s.get! (k + 3)).toNat := by
  have e0 : bAt s k = ((s.get! k).toNat : Int) := rfl
  have e1 : bAt s (k + 1) = ((s.get! (k + 1)).toNat : Int) := rfl
  have e2 : bAt s (k + 2) = ((s.get! (k + 2)).toNat : Int) := rfl
  have e3 : bAt s (k + 3) = ((s.get! (k + 3)).toNat : Int) := rfl
  have n1 : k + 1 + 1 = k + 2 := rfl
  have n2 : k + 2 + 1 = k + 3 := rfl
  have n3 : k + 1 + 2 = k + 3 := rfl
  have m1 : (s.get! k).toNat < 256 := (s.get! k).toNat_lt
  unfold sizeB sizeN
  simp only [Bool.or_eq_true, Bool.and_eq_true, more1, more2, more3, inB_iff, n1, n2, n3, e0, e1, e2, e3]
  generalize (s.get! k).toNat = b0 at *
  generalize (s.get! (k + 1)).toNat = b1
  generalize (s.get! (k + 2)).toNat = b2
  generalize (s.get! (k + 3)).toNat = b3
  have i1 : (if k < s.size ∧ (0 : Int) ≤ (b0 : Int) ∧ (b0 : Int) ≤ 127 then (1 : Nat) else 0) = if b0 ≤ 127 then 1 else 0 := by
    by_cases c : b0 ≤ 127
    · rw [if_pos c, if_pos (by omega)]
    · rw [if_neg c, if_neg (by omega)]
  by_cases c1 : b0 ≤ 127
  · rw [if_pos (by omega), if_pos c1]
  rw [if_neg (by omega), if_neg c1]
  by_cases c2 : (194 ≤ b0 ∧ b0 ≤ 223) ∧ (1 < s.size - k ∧ 128 ≤ b1 ∧ b1 ≤ 191)
  · rw [if_pos c2, if_pos (by omega)]
  rw [if_neg c2, if_neg (by omega)]
  by_cases c3 : 224 ≤ b0 ∧ b0 ≤ 239 ∧ (1 < s.size - k ∧ 128 ≤ b1 ∧ b1 ≤ 191) ∧ (2 < s.size - k ∧ 128 ≤ b2 ∧ b2 ≤ 191) ∧ (b0 = 224 → 160 ≤ b1) ∧ (b0 = 237 → b1 ≤ 159)
  · rw [if_pos c3, if_pos (by omega)]
  rw [if_neg c3, if_neg (by omega)]
  by_cases c4 : 240 ≤ b0 ∧ b0 ≤ 244 ∧ (1 < s.size - k ∧ 128 ≤ b1 ∧ b1 ≤ 191) ∧ (2 < s.size - k ∧ 128 ≤ b2 ∧ b2 ≤ 191) ∧ (3 < s.size - k ∧ 128 ≤ b3 ∧ b3 ≤ 191) ∧ (b0 = 240 → 144 ≤ b1) ∧ (b0 = 244 → b1 ≤ 143)
  · rw [if_pos c4, if_pos (by omega)]
  rw [if_neg c4, if_neg (by omega)]
/-- the model's decode, in the document's words. -/
theorem decode_size (s : ByteArray) (k : Nat) (hk : k < s.size) : (sizeB s k = 0 → Utf8.decode s k = (65533, 1)) ∧ (sizeB s k ≠ 0 → Utf8.decode s k = ((runeB s k (sizeB s k)).toNat, sizeB s k) ∧ 0 ≤ runeB s k (sizeB s k)) := by
  have hd := Go.Lib.decode_at s k
  rw [decodeN_size _ _ _ _ _ (s.get! k).toNat_lt (s.get! (k + 1)).toNat_lt (s.get! (k + 2)).toNat_lt (s.get! (k + 3)).toNat_lt, ← sizeB_sizeN s k hk] at hd
  refine ⟨fun h => by rw [hd, if_pos h], fun h => ?_⟩
  rw [if_neg h] at hd
  rw [hd]
  have hz := sizeB_sizeN s k hk
  have e0 : bAt s k = ((s.get! k).toNat : Int) := rfl
  have e1 : bAt s (k + 1) = ((s.get! (k + 1)).toNat : Int) := rfl
  have e2 : bAt s (k + 2) = ((s.get! (k + 2)).toNat : Int) := rfl
  have e3 : bAt s (k + 3) = ((s.get! (k + 3)).toNat : Int) := rfl
  have key : runeB s k (sizeB s k) = (runeN (s.get! k).toNat (s.get! (k + 1)).toNat (s.get! (k + 2)).toNat (s.get! (k + 3)).toNat (sizeB s k) : Int) := by
    generalize hb0 : (s.get! k).toNat = b0 at *
    generalize hb1 : (s.get! (k + 1)).toNat = b1 at *
    generalize hb2 : (s.get! (k + 2)).toNat = b2 at *
    generalize hb3 : (s.get! (k + 3)).toNat = b3 at *
    unfold sizeN at hz
    unfold runeN
    split at hz
    · rw [hz]; show bAt s k = _; rw [e0]; rfl
    split at hz
    · rename_i c; rw [hz]; show 64 * (bAt s k - 192) + bAt s (k + 1) - 128 = _; rw [e0, e1]; simp only [show (2 : Nat) = 1 ↔ False by decide, if_false, if_true]; omega
    split at hz
    · rename_i c; rw [hz]; show 64 * (64 * (bAt s k - 224) + bAt s (k + 1) - 128) + bAt s (k + 2) - 128 = _; rw [e0, e1, e2]; simp only [show (3 : Nat) = 1 ↔ False by decide, show (3 : Nat) = 2 ↔ False by decide, if_false, if_true]; omega
    split at hz
    · rename_i c; rw [hz]; show 64 * (64 * (64 * (bAt s k - 240) + bAt s (k + 1) - 128) + bAt s (k + 2) - 128) + bAt s (k + 3) - 128 = _; rw [e0, e1, e2, e3]; simp only [show (4 : Nat) = 1 ↔ False by decide, show (4 : Nat) = 2 ↔ False by decide, show (4 : Nat) = 3 ↔ False by decide, if_false]; omega
    · exact absurd hz h
  refine ⟨?_, by rw [key]; omega⟩
  rw [key]
  simp
end Go.Proofs.YtnipifccalalhaaDoor
