import Derived.Test.YtnipifccalalhaaDoorLexEncode
import Derived.Laws.RangeAny
/- A part of a script, as a script of its own: characters and numbers read there as they read in the whole. Nothing of the program stands here. -/
namespace Go.Proofs.YtnipifccalalhaaDoor
open Go
set_option linter.unusedVariables false
set_option linter.unusedSimpArgs false
/-- t is the part of s that begins at a. -/
structure Ext (s t : ByteArray) (a : Nat) : Prop where
  room : a + t.size ≤ s.size
  at_ : ∀ i, i < t.size → bAt t i = bAt s (a + i)
theorem ext_extract {s : ByteArray} {a b : Nat} (hab : a ≤ b) (hb : b ≤ s.size) : Ext s (s.extract a b) a :=
  ⟨by rw [ByteArray.size_extract]; omega, fun i hi => bAt_extract s a b i hb (by rw [ByteArray.size_extract] at hi; omega)⟩
theorem sizeN_short {n m b0 b1 b2 b3 c0 c1 c2 c3 : Nat} (h0 : c0 = b0) (h1 : 1 < m → c1 = b1) (h2 : 2 < m → c2 = b2) (h3 : 3 < m → c3 = b3) (hm : m ≤ n)
    (hz : sizeN n b0 b1 b2 b3 ≠ 0) (hle : sizeN n b0 b1 b2 b3 ≤ m) : sizeN m c0 c1 c2 c3 = sizeN n b0 b1 b2 b3 := by
  subst h0
  unfold sizeN at hz hle ⊢
  by_cases p1 : c0 ≤ 127
  · rw [if_pos p1, if_pos p1]
  rw [if_neg p1] at hz hle
  rw [if_neg p1, if_neg p1]
  by_cases p2 : (194 ≤ c0 ∧ c0 ≤ 223) ∧ (1 < n ∧ 128 ≤ b1 ∧ b1 ≤ 191)
  · rw [if_pos p2] at hle
    have := h1 (by omega)
    rw [if_pos p2, if_pos (by omega)]
  rw [if_neg p2] at hz hle
  have q2 : ¬ ((194 ≤ c0 ∧ c0 ≤ 223) ∧ (1 < m ∧ 128 ≤ c1 ∧ c1 ≤ 191)) := by
    intro q; have := h1 q.2.1; omega
  rw [if_neg p2, if_neg q2]
  by_cases p3 : 224 ≤ c0 ∧ c0 ≤ 239 ∧ (1 < n ∧ 128 ≤ b1 ∧ b1 ≤ 191) ∧ (2 < n ∧ 128 ≤ b2 ∧ b2 ≤ 191) ∧ (c0 = 224 → 160 ≤ b1) ∧ (c0 = 237 → b1 ≤ 159)
  · rw [if_pos p3] at hle
    have := h1 (by omega)
    have := h2 (by omega)
    rw [if_pos p3, if_pos (by omega)]
  rw [if_neg p3] at hz hle
  have q3 : ¬ (224 ≤ c0 ∧ c0 ≤ 239 ∧ (1 < m ∧ 128 ≤ c1 ∧ c1 ≤ 191) ∧ (2 < m ∧ 128 ≤ c2 ∧ c2 ≤ 191) ∧ (c0 = 224 → 160 ≤ c1) ∧ (c0 = 237 → c1 ≤ 159)) := by
    intro q; have := h1 q.2.2.1.1; have := h2 q.2.2.2.1.1; omega
  rw [if_neg p3, if_neg q3]
  by_cases p4 : 240 ≤ c0 ∧ c0 ≤ 244 ∧ (1 < n ∧ 128 ≤ b1 ∧ b1 ≤ 191) ∧ (2 < n ∧ 128 ≤ b2 ∧ b2 ≤ 191) ∧ (3 < n ∧ 128 ≤ b3 ∧ b3 ≤ 191) ∧ (c0 = 240 → 144 ≤ b1) ∧ (c0 = 244 → b1 ≤ 143)
  · rw [if_pos p4] at hle
    have := h1 (by omega)
    have := h2 (by omega)
    have := h3 (by omega)
    rw [if_pos p4, if_pos (by omega)]
  rw [if_neg p4] at hz
  exact absurd rfl hz
section
variable {s t : ByteArray} {a : Nat} (h : Ext s t a)
include h
theorem Ext.get {i : Nat} (hi : i < t.size) : (t.get! i).toNat = (s.get! (a + i)).toNat := by
  have := h.at_ i hi
  unfold bAt at this
  omega
theorem Ext.sizeB {k : Nat} (hz : sizeB s (a + k) ≠ 0) (hk : k + Go.Proofs.YtnipifccalalhaaDoor.sizeB s (a + k) ≤ t.size) : Go.Proofs.YtnipifccalalhaaDoor.sizeB t k = Go.Proofs.YtnipifccalalhaaDoor.sizeB s (a + k) := by
  have hr := h.room
  have h1 : a + k < s.size := by omega
  rw [sizeB_sizeN s (a + k) h1] at hz hk ⊢
  rw [sizeB_sizeN t k (by omega)]
  refine sizeN_short (h.get (by omega)) (fun q => ?_) (fun q => ?_) (fun q => ?_) (by omega) hz (by omega)
  · rw [h.get (by omega), Nat.add_assoc]
  · rw [h.get (by omega), Nat.add_assoc]
  · rw [h.get (by omega), Nat.add_assoc]
theorem Ext.runeP {k : Nat} (base : Int) : ∀ n, k + n ≤ t.size → Go.Proofs.YtnipifccalalhaaDoor.runeP t k base n = Go.Proofs.YtnipifccalalhaaDoor.runeP s (a + k) base n
  | 0, _ => rfl
  | 1, hn => by unfold Go.Proofs.YtnipifccalalhaaDoor.runeP; rw [h.at_ k (by omega)]
  | n + 2, hn => by
    rw [Go.Proofs.YtnipifccalalhaaDoor.runeP, Go.Proofs.YtnipifccalalhaaDoor.runeP, Ext.runeP base (n + 1) (by omega), h.at_ (k + (n + 1)) (by omega), Nat.add_assoc]
theorem Ext.runeB {k n : Nat} (hn : k + n ≤ t.size) (h0 : 0 < n) : Go.Proofs.YtnipifccalalhaaDoor.runeB t k n = Go.Proofs.YtnipifccalalhaaDoor.runeB s (a + k) n := by
  unfold Go.Proofs.YtnipifccalalhaaDoor.runeB
  rw [h.runeP _ n hn, h.at_ k (by omega)]
theorem Ext.digB {k : Nat} (hk : k < t.size) : Go.Proofs.YtnipifccalalhaaDoor.digB t k = Go.Proofs.YtnipifccalalhaaDoor.digB s (a + k) := by
  have hr := h.room
  unfold Go.Proofs.YtnipifccalalhaaDoor.digB
  rw [inB_at hk, inB_at (show a + k < s.size by omega), h.at_ k hk]
theorem Ext.numF (hend : Go.Proofs.YtnipifccalalhaaDoor.digB s (a + t.size) = false) : ∀ (f f' : Nat) (n : Int) (e : Nat), e ≤ t.size → t.size ≤ e + f → s.size ≤ a + e + f' → Go.Proofs.YtnipifccalalhaaDoor.numF s f' n (a + e) = ((Go.Proofs.YtnipifccalalhaaDoor.numF t f n e).1, a + (Go.Proofs.YtnipifccalalhaaDoor.numF t f n e).2) := by
  intro f
  have hr := h.room
  have hdig : ∀ e, e ≤ t.size → Go.Proofs.YtnipifccalalhaaDoor.digB t e = Go.Proofs.YtnipifccalalhaaDoor.digB s (a + e) := fun e he => by
    by_cases hlt : e < t.size
    · exact h.digB hlt
    · obtain rfl : e = t.size := by omega
      rw [hend]; exact inB_ge (by omega) _ _
  induction f with
  | zero =>
    intro f' n e he hf hf'
    have hd : Go.Proofs.YtnipifccalalhaaDoor.digB t e = false := inB_ge (by omega) _ _
    rw [numF_end (by rw [← hdig e he]; exact hd), numF_end hd]
  | succ f ih =>
    intro f' n e he hf hf'
    rcases hd : Go.Proofs.YtnipifccalalhaaDoor.digB t e with _ | _
    · rw [numF_end (by rw [← hdig e he]; exact hd), numF_end hd]
    · have hl := inB_lt hd
      match f', hf' with
      | 0, hf' => omega
      | f' + 1, hf' =>
        rw [Go.Proofs.YtnipifccalalhaaDoor.numF, ← hdig e he, hd, if_pos rfl, ← h.at_ e hl, Go.Proofs.YtnipifccalalhaaDoor.numF, hd, if_pos rfl]
        exact ih f' _ (e + 1) (by omega) (by omega) (by omega)
theorem Ext.numB (hend : Go.Proofs.YtnipifccalalhaaDoor.digB s (a + t.size) = false) {k : Nat} (hk : k ≤ t.size) : Go.Proofs.YtnipifccalalhaaDoor.numB s (a + k) = ((Go.Proofs.YtnipifccalalhaaDoor.numB t k).1, a + (Go.Proofs.YtnipifccalalhaaDoor.numB t k).2) := h.numF hend _ _ 0 k hk (by omega) (by omega)
end
/-- a row of digits alone: its end. -/
theorem numF_all {t : ByteArray} (hd : ∀ i, i < t.size → digB t i = true) : ∀ (f : Nat) (n : Int) (e : Nat), e ≤ t.size → t.size ≤ e + f → (numF t f n e).2 = t.size
  | 0, n, e, h1, h2 => by show e = t.size; omega
  | f + 1, n, e, h1, h2 => by
    by_cases hlt : e < t.size
    · rw [numF, hd e hlt, if_pos rfl]
      exact numF_all hd f _ (e + 1) (by omega) (by omega)
    · have he : digB t e = false := inB_ge hlt _ _
      rw [numF_end he]; show e = t.size; omega
/-- a character's first byte tells whether it is of one byte; then it is that byte. -/
theorem rune_byte {s : ByteArray} {k : Nat} (hz : sizeB s k ≠ 0) : (bAt s k ≤ 127 ∧ sizeB s k = 1 ∧ runeB s k (sizeB s k) = bAt s k) ∨ (128 ≤ bAt s k ∧ 2 ≤ sizeB s k ∧ 128 ≤ runeB s k (sizeB s k)) := by
  have hk : k < s.size := by have := sizeB_in (s := s) (k := k) (by omega); omega
  by_cases h1 : sizeB s k = 1
  · refine .inl ⟨byte_one h1, h1, by rw [h1]; rfl⟩
  · have h2 : 2 ≤ sizeB s k := by omega
    have hb := bytes_high h2 0 (by omega)
    rw [Nat.add_zero] at hb
    have hg := bAt_get s k hk
    have hd := decode_high s k hk (by omega)
    obtain ⟨e, hp⟩ := (decode_size s k hk).2 hz
    rw [e] at hd
    exact .inr ⟨hb, h2, by have := hd.1; simp only at this; omega⟩
end Go.Proofs.YtnipifccalalhaaDoor
