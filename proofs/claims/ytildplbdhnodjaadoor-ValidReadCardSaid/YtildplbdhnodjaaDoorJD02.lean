import Derived.Test.YtildplbdhnodjaaDoorJD01
import Derived.Laws.RangeAny
import Derived.Test.YtildplbdhnodjaaDoorJD00
import Derived.Handy
/- A character of a script, written as UTF-8 anew, is the bytes that stand there. Nothing of the program stands here. -/
namespace Go.Proofs.YtildplbdhnodjaaDoor
open Go
set_option linter.unusedVariables false
set_option linter.unusedSimpArgs false
theorem get_data (s : ByteArray) (i : Nat) (h : i < s.size) : s.data[i]? = some (s.get! i) := by
  have h2 : i < s.data.size := h
  rw [Array.getElem?_eq_getElem h2]
  show some _ = some (s.data[i]!)
  rw [getElem!_pos s.data i h2]
theorem extract_list (s : ByteArray) (p : Nat) : ∀ (z : Nat) (l : List UInt8), l.length = z → p + z ≤ s.size → (∀ j u, l[j]? = some u → s.get! (p + j) = u) → s.extract p (p + z) = ⟨l.toArray⟩ := by
  intro z l hl hz hu
  apply ByteArray.ext
  rw [ByteArray.data_extract]
  apply Array.ext'
  apply List.ext_getElem?
  intro j
  have hs : s.data.size = s.size := rfl
  rw [Array.getElem?_toList, Array.getElem?_extract]
  simp only [List.getElem?_toArray, Array.getElem?_toList]
  by_cases hj : j < z
  · have hl2 : l[j]? = some l[j] := List.getElem?_eq_getElem (by omega)
    rw [hl2, ← hu j _ hl2]
    rw [if_pos (by omega)]
    exact get_data s (p + j) (by omega)
  · rw [List.getElem?_eq_none (by omega), if_neg (by omega)]
theorem ofNat_get (s : ByteArray) (i n : Nat) (h : n = (s.get! i).toNat) : s.get! i = UInt8.ofNat n := by
  subst h; simp
theorem encode_rune {s : ByteArray} {p : Nat} (hz : sizeB s p ≠ 0) : Utf8.encode (runeB s p (sizeB s p)) = s.extract p (p + sizeB s p) := by
  have hin := sizeB_in (s := s) (k := p) (by omega)
  have hk : p < s.size := by omega
  have hs := sizeB_sizeN s p hk
  have e0 : bAt s p = ((s.get! p).toNat : Int) := rfl
  have e1 : bAt s (p + 1) = ((s.get! (p + 1)).toNat : Int) := rfl
  have e2 : bAt s (p + 2) = ((s.get! (p + 2)).toNat : Int) := rfl
  have e3 : bAt s (p + 3) = ((s.get! (p + 3)).toNat : Int) := rfl
  have g0 := ofNat_get s p
  have g1 := ofNat_get s (p + 1)
  have g2 := ofNat_get s (p + 2)
  have g3 := ofNat_get s (p + 3)
  generalize hb0 : (s.get! p).toNat = b0 at *
  generalize hb1 : (s.get! (p + 1)).toNat = b1 at *
  generalize hb2 : (s.get! (p + 2)).toNat = b2 at *
  generalize hb3 : (s.get! (p + 3)).toNat = b3 at *
  unfold sizeN at hs
  split at hs
  · rename_i c
    have hr : runeB s p (sizeB s p) = (b0 : Int) := by rw [hs]; show bAt s p = _; rw [e0]
    rw [hs] at hin
    rw [hr, hs]
    rw [extract_list s p 1 [UInt8.ofNat b0] rfl hin (fun j u hj => by
      match j, hj with
      | 0, hj => exact (g0 b0 rfl).trans (Option.some.inj hj))]
    unfold Utf8.encode
    have v : Utf8.valid (b0 : Int) = true := by unfold Utf8.valid; simp; omega
    simp only [v, if_true, Int.toNat_natCast, show b0 < 128 by omega]
  split at hs
  · rename_i c1 c
    have hr : runeB s p (sizeB s p) = ((64 * (b0 - 192) + (b1 - 128) : Nat) : Int) := by rw [hs]; show 64 * (bAt s p - 192) + bAt s (p + 1) - 128 = _; rw [e0, e1]; omega
    rw [hs] at hin
    rw [hr, hs]
    generalize hc : 64 * (b0 - 192) + (b1 - 128) = cc
    rw [extract_list s p 2 [UInt8.ofNat (192 + cc / 64), UInt8.ofNat (128 + cc % 64)] rfl hin (fun j u hj => by
      match j, hj with
      | 0, hj => exact (g0 _ (by omega)).trans (Option.some.inj hj)
      | 1, hj => exact (g1 _ (by omega)).trans (Option.some.inj hj))]
    unfold Utf8.encode
    have v : Utf8.valid (cc : Int) = true := by unfold Utf8.valid; simp; omega
    simp only [v, if_true, Int.toNat_natCast, show ¬ cc < 128 by omega, show cc < 2048 by omega, if_false]
  split at hs
  · rename_i c1 c2 c
    have hr : runeB s p (sizeB s p) = ((64 * (64 * (b0 - 224) + (b1 - 128)) + (b2 - 128) : Nat) : Int) := by rw [hs]; show 64 * (64 * (bAt s p - 224) + bAt s (p + 1) - 128) + bAt s (p + 2) - 128 = _; rw [e0, e1, e2]; omega
    rw [hs] at hin
    rw [hr, hs]
    generalize hc : 64 * (64 * (b0 - 224) + (b1 - 128)) + (b2 - 128) = cc
    rw [extract_list s p 3 [UInt8.ofNat (224 + cc / 4096), UInt8.ofNat (128 + cc / 64 % 64), UInt8.ofNat (128 + cc % 64)] rfl hin (fun j u hj => by
      match j, hj with
      | 0, hj => exact (g0 _ (by omega)).trans (Option.some.inj hj)
      | 1, hj => exact (g1 _ (by omega)).trans (Option.some.inj hj)
      | 2, hj => exact (g2 _ (by omega)).trans (Option.some.inj hj))]
    unfold Utf8.encode
    have v : Utf8.valid (cc : Int) = true := by unfold Utf8.valid; simp; omega
    simp only [v, if_true, Int.toNat_natCast, show ¬ cc < 128 by omega, show ¬ cc < 2048 by omega, show cc < 65536 by omega, if_false]
  split at hs
  · rename_i c1 c2 c3 c
    have hr : runeB s p (sizeB s p) = ((64 * (64 * (64 * (b0 - 240) + (b1 - 128)) + (b2 - 128)) + (b3 - 128) : Nat) : Int) := by rw [hs]; show 64 * (64 * (64 * (bAt s p - 240) + bAt s (p + 1) - 128) + bAt s (p + 2) - 128) + bAt s (p + 3) - 128 = _; rw [e0, e1, e2, e3]; omega
    rw [hs] at hin
    rw [hr, hs]
    generalize hc : 64 * (64 * (64 * (b0 - 240) + (b1 - 128)) + (b2 - 128)) + (b3 - 128) = cc
    rw [extract_list s p 4 [UInt8.ofNat (240 + cc / 262144), UInt8.ofNat (128 + cc / 4096 % 64), UInt8.ofNat (128 + cc / 64 % 64), UInt8.ofNat (128 + cc % 64)] rfl hin (fun j u hj => by
      match j, hj with
      | 0, hj => exact (g0 _ (by omega)).trans (Option.some.inj hj)
      | 1, hj => exact (g1 _ (by omega)).trans (Option.some.inj hj)
      | 2, hj => exact (g2 _ (by omega)).trans (Option.some.inj hj)
      | 3, hj => exact (g3 _ (by omega)).trans (Option.some.inj hj))]
    unfold Utf8.encode
    have v : Utf8.valid (cc : Int) = true := by unfold Utf8.valid; simp; omega
    simp only [v, if_true, Int.toNat_natCast, show ¬ cc < 128 by omega, show ¬ cc < 2048 by omega, show ¬ cc < 65536 by omega, if_false]
  · exact absurd hs hz
theorem bAt_extract (s : ByteArray) (i j k : Nat) (hj : j ≤ s.size) (hk : i + k < j) : bAt (s.extract i j) k = bAt s (i + k) := by
  unfold bAt
  congr 2
  show (s.extract i j).data[k]! = s.data[i + k]!
  have hs : s.data.size = s.size := rfl
  rw [getElem!_def, getElem!_def, ByteArray.data_extract, Array.getElem?_extract, if_pos (by omega)]
theorem nstF_extract (s : ByteArray) (i j : Nat) (hj : j ≤ s.size) : ∀ (n k : Nat) (c : Bool), i + k + n ≤ j → nstF (s.extract i j) n k c = nstF s n (i + k) c
  | 0, k, c, _ => rfl
  | n + 1, k, c, h => by
    have ih := fun c => nstF_extract s i j hj n (k + 1) c (by omega)
    rw [nstF, nstF, bAt_extract s i j k hj (by omega)]
    simp only [ih, show i + (k + 1) = i + k + 1 by omega]
end Go.Proofs.YtildplbdhnodjaaDoor
/- A part of a script, as a script of its own: characters and numbers read there as they read in the whole. Nothing of the program stands here. -/
namespace Go.Proofs.YtildplbdhnodjaaDoor
open Go
set_option linter.unusedVariables false
set_option linter.unusedSimpArgs false
/-- t is the part of s that begins at a. -/
structure Ext (s t : ByteArray) (a : Nat) : Prop where
  room : a + t.size ≤ s.size
  at_ : ∀ i, i < t.size → bAt t i = bAt s (a + i)
theorem ext_extract {s : ByteArray} {a b : Nat} (hab : a ≤ b) (hb : b ≤ s.size) : Ext s (s.extract a b) a :=
  ⟨by rw [ByteArray.size_extract]; omega, fun i hi => bAt_extract s a b i hb (by rw [ByteArray.size_extract] at hi; omega)⟩
theorem sizeN_short {n m b0 b1 b2 b3 c0 c1 c2 c3 : Nat} (h0 : c0 = b0) (h1 : 1 < m → c1 = b1) (h2 : 2 < m → c2 = b2) (h3 : 3 < m → c3 = b3) (hm : m ≤ n)
    (hz : sizeN n b0 b1 b2 b3 ≠ 0) (hle : sizeN n b0 b1 b2 b3 ≤ m) : sizeN m c0 c1 c2 c3 = sizeN n b0 b1 b2 b3 := by
  subst h0
  unfold sizeN at hz hle ⊢
  by_cases p1 : c0 ≤ 127
  · rw [if_pos p1, if_pos p1]
  rw [if_neg p1] at hz hle
  rw [if_neg p1, if_neg p1]
  by_cases p2 : (194 ≤ c0 ∧ c0 ≤ 223) ∧ (1 < n ∧ 128 ≤ b1 ∧ b1 ≤ 191)
  · rw [if_pos p2] at hle
    have := h1 (by omega)
    rw [if_pos p2, if_pos (by omega)]
  rw [if_neg p2] at hz hle
  have q2 : ¬ ((194 ≤ c0 ∧ c0 ≤ 223) ∧ (1 < m ∧ 128 ≤ c1 ∧ c1 ≤ 191)) := by
    intro q; have := h1 q.2.1; omega
  rw [if_neg p2, if_neg q2]
  by_cases p3 : 224 ≤ c0 ∧ c0 ≤ 239 ∧ (1 < n ∧ 128 ≤ b1 ∧ b1 ≤ 191) ∧ (2 < n ∧ 128 ≤ b2 ∧ b2 ≤ 191) ∧ (c0 = 224 → 160 ≤ b1) ∧ (c0 = 237 → b1 ≤ 159)
  · rw [if_pos p3] at hle
    have := h1 (by omega)
    have := h2 (by omega)
    rw [if_pos p3, if_pos (by omega)]
  rw [if_neg p3] at hz hle
  have q3 : ¬ (224 ≤ c0 ∧ c0 ≤ 239 ∧ (1 < m ∧ 128 ≤ c1 ∧ c1 ≤ 191) ∧ (2 < m ∧ 128 ≤ c2 ∧ c2 ≤ 191) ∧ (c0 = 224 → 160 ≤ c1) ∧ (c0 = 237 → c1 ≤ 159)) := by
    intro q; have := h1 q.2.2.1.1; have := h2 q.2.2.2.1.1; omega
  rw [if_neg p3, if_neg q3]
  by_cases p4 : 240 ≤ c0 ∧ c0 ≤ 244 ∧ (1 < n ∧ 128 ≤ b1 ∧ b1 ≤ 191) ∧ (2 < n ∧ 128 ≤ b2 ∧ b2 ≤ 191) ∧ (3 < n ∧ 128 ≤ b3 ∧ b3 ≤ 191) ∧ (c0 = 240 → 144 ≤ b1) ∧ (c0 = 244 → b1 ≤ 143)
  · rw [if_pos p4] at hle
    have := h1 (by omega)
    have := h2 (by omega)
    have := h3 (by omega)
    rw [if_pos p4, if_pos (by omega)]
  rw [if_neg p4] at hz
  exact absurd rfl hz
section
variable {s t : ByteArray} {a : Nat} (h : Ext s t a)
include h
theorem Ext.get {i : Nat} (hi : i < t.size) : (t.get! i).toNat = (s.get! (a + i)).toNat := by
  have := h.at_ i hi
  unfold bAt at this
  omega
theorem Ext.sizeB {k : Nat} (hz : sizeB s (a + k) ≠ 0) (hk : k + Go.Proofs.YtildplbdhnodjaaDoor.sizeB s (a + k) ≤ t.size) : Go.Proofs.YtildplbdhnodjaaDoor.sizeB t k = Go.Proofs.YtildplbdhnodjaaDoor.sizeB s (a + k) := by
  have hr := h.room
  have h1 : a + k < s.size := by omega
  rw [sizeB_sizeN s (a + k) h1] at hz hk ⊢
  rw [sizeB_sizeN t k (by omega)]
  refine sizeN_short (h.get (by omega)) (fun q => ?_) (fun q => ?_) (fun q => ?_) (by omega) hz (by omega)
  · rw [h.get (by omega), Nat.add_assoc]
  · rw [h.get (by omega), Nat.add_assoc]
  · rw [h.get (by omega), Nat.add_assoc]
theorem Ext.runeP {k : Nat} (base : Int) : ∀ n, k + n ≤ t.size → Go.Proofs.YtildplbdhnodjaaDoor.runeP t k base n = Go.Proofs.YtildplbdhnodjaaDoor.runeP s (a + k) base n
  | 0, _ => rfl
  | 1, hn => by unfold Go.Proofs.YtildplbdhnodjaaDoor.runeP; rw [h.at_ k (by omega)]
  | n + 2, hn => by
    rw [Go.Proofs.YtildplbdhnodjaaDoor.runeP, Go.Proofs.YtildplbdhnodjaaDoor.runeP, Ext.runeP base (n + 1) (by omega), h.at_ (k + (n + 1)) (by omega), Nat.add_assoc]
theorem Ext.runeB {k n : Nat} (hn : k + n ≤ t.size) (h0 : 0 < n) : Go.Proofs.YtildplbdhnodjaaDoor.runeB t k n = Go.Proofs.YtildplbdhnodjaaDoor.runeB s (a + k) n := by
  unfold Go.Proofs.YtildplbdhnodjaaDoor.runeB
  rw [h.runeP _ n hn, h.at_ k (by omega)]
theorem Ext.digB {k : Nat} (hk : k < t.size) : Go.Proofs.YtildplbdhnodjaaDoor.digB t k = Go.Proofs.YtildplbdhnodjaaDoor.digB s (a + k) := by
  have hr := h.room
  unfold Go.Proofs.YtildplbdhnodjaaDoor.digB
  rw [inB_at hk, inB_at (show a + k < s.size by omega), h.at_ k hk]
theorem Ext.numF (hend : Go.Proofs.YtildplbdhnodjaaDoor.digB s (a + t.size) = false) : ∀ (f f' : Nat) (n : Int) (e : Nat), e ≤ t.size → t.size ≤ e + f → s.size ≤ a + e + f' → Go.Proofs.YtildplbdhnodjaaDoor.numF s f' n (a + e) = ((Go.Proofs.YtildplbdhnodjaaDoor.numF t f n e).1, a + (Go.Proofs.YtildplbdhnodjaaDoor.numF t f n e).2) := by
  intro f
  have hr := h.room
  have hdig : ∀ e, e ≤ t.size → Go.Proofs.YtildplbdhnodjaaDoor.digB t e = Go.Proofs.YtildplbdhnodjaaDoor.digB s (a + e) := fun e he => by
    by_cases hlt : e < t.size
    · exact h.digB hlt
    · obtain rfl : e = t.size := by omega
      rw [hend]; exact inB_ge (by omega) _ _
  induction f with
  | zero =>
    intro f' n e he hf hf'
    have hd : Go.Proofs.YtildplbdhnodjaaDoor.digB t e = false := inB_ge (by omega) _ _
    rw [numF_end (by rw [← hdig e he]; exact hd), numF_end hd]
  | succ f ih =>
    intro f' n e he hf hf'
    rcases hd : Go.Proofs.YtildplbdhnodjaaDoor.digB t e with _ | _
    · rw [numF_end (by rw [← hdig e he]; exact hd), numF_end hd]
    · have hl := inB_lt hd
      match f', hf' with
      | 0, hf' => omega
      | f' + 1, hf' =>
        rw [Go.Proofs.YtildplbdhnodjaaDoor.numF, ← hdig e he, hd, if_pos rfl, ← h.at_ e hl, Go.Proofs.YtildplbdhnodjaaDoor.numF, hd, if_pos rfl]
        exact ih f' _ (e + 1) (by omega) (by omega) (by omega)
theorem Ext.numB (hend : Go.Proofs.YtildplbdhnodjaaDoor.digB s (a + t.size) = false) {k : Nat} (hk : k ≤ t.size) : Go.Proofs.YtildplbdhnodjaaDoor.numB s (a + k) = ((Go.Proofs.YtildplbdhnodjaaDoor.numB t k).1, a + (Go.Proofs.YtildplbdhnodjaaDoor.numB t k).2) := h.numF hend _ _ 0 k hk (by omega) (by omega)
end
/-- a row of digits alone: its end. -/
theorem numF_all {t : ByteArray} (hd : ∀ i, i < t.size → digB t i = true) : ∀ (f : Nat) (n : Int) (e : Nat), e ≤ t.size → t.size ≤ e + f → (numF t f n e).2 = t.size
  | 0, n, e, h1, h2 => by show e = t.size; omega
  | f + 1, n, e, h1, h2 => by
    by_cases hlt : e < t.size
    · rw [numF, hd e hlt, if_pos rfl]
      exact numF_all hd f _ (e + 1) (by omega) (by omega)
    · have he : digB t e = false := inB_ge hlt _ _
      rw [numF_end he]; show e = t.size; omega
/-- a character's first byte tells whether it is of one byte; then it is that byte. -/
theorem rune_byte {s : ByteArray} {k : Nat} (hz : sizeB s k ≠ 0) : (bAt s k ≤ 127 ∧ sizeB s k = 1 ∧ runeB s k (sizeB s k) = bAt s k) ∨ (128 ≤ bAt s k ∧ 2 ≤ sizeB s k ∧ 128 ≤ runeB s k (sizeB s k)) := by
  have hk : k < s.size := by have := sizeB_in (s := s) (k := k) (by omega); omega
  by_cases h1 : sizeB s k = 1
  · refine .inl ⟨byte_one h1, h1, by rw [h1]; rfl⟩
  · have h2 : 2 ≤ sizeB s k := by omega
    have hb := bytes_high h2 0 (by omega)
    rw [Nat.add_zero] at hb
    have hg := bAt_get s k hk
    have hd := decode_high s k hk (by omega)
    obtain ⟨e, hp⟩ := (decode_size s k hk).2 hz
    rw [e] at hd
    exact .inr ⟨hb, h2, by have := hd.1; simp only at this; omega⟩
end Go.Proofs.YtildplbdhnodjaaDoor
/- A script, LF, and another one, as bytes. Nothing of the program stands here. -/
namespace Go.Proofs.YtildplbdhnodjaaDoor
open Go
set_option linter.unusedVariables false
set_option linter.unusedSimpArgs false
theorem bAt_left (x y : ByteArray) (i : Nat) (h : i < x.size) : bAt (x ++ y) i = bAt x i := by
  unfold bAt
  congr 2
  show (x ++ y).data[i]! = x.data[i]!
  rw [ByteArray.data_append, getElem!_def, getElem!_def, Array.getElem?_append_left h]
theorem bAt_right (x y : ByteArray) (i : Nat) : bAt (x ++ y) (x.size + i) = bAt y i := by
  unfold bAt
  congr 2
  show (x ++ y).data[x.size + i]! = y.data[i]!
  have hs : x.data.size = x.size := rfl
  rw [ByteArray.data_append, getElem!_def, getElem!_def, Array.getElem?_append_right (by omega), hs, Nat.add_sub_cancel_left]
theorem parted_append (a b : ByteArray) : Parted a b (a ++ ⟨#[10]⟩ ++ b) := by
  have h1 : (a ++ (⟨#[10]⟩ : ByteArray)).size = a.size + 1 := by rw [ByteArray.size_append]; rfl
  refine ⟨by rw [ByteArray.size_append, h1], fun i hi => ?_, ?_, fun i hi => ?_⟩
  · rw [bAt_left _ _ _ (by rw [h1]; omega), bAt_left _ _ _ hi]
  · rw [bAt_left _ _ _ (by rw [h1]; omega)]
    have := bAt_right a ⟨#[10]⟩ 0
    rw [Nat.add_zero] at this
    rw [this]; rfl
  · have := bAt_right (a ++ ⟨#[10]⟩) b i
    rw [h1] at this
    exact this
/-- each token stands somewhere. -/
theorem tok_stands {s : ByteArray} {o : List Tok} {q k : Nat} {x : Tok} (h : lexB s = (some o, q)) (hx : o[k]? = some x) : ∃ p, TokOk s x p := by
  obtain ⟨e, l, hp, _⟩ := lexB_placed h
  have hk : k < o.length := (List.getElem?_eq_some_iff.1 hx).1
  obtain ⟨e', l', hp'⟩ := hp.take o.length rfl (k + 1) (by omega)
  have e2 : o.take (k + 1) = o.take k ++ [x] := by rw [List.take_add_one, hx]; rfl
  rw [e2] at hp'
  obtain ⟨e1, l1, p, _, ht, _⟩ := hp'.last
  exact ⟨p, ht⟩
end Go.Proofs.YtildplbdhnodjaaDoor
/- What a script is read as that is cut ahead of the place where it is refused; what two are read as, one behind the other. Nothing of the program stands here. -/
namespace Go.Proofs.YtildplbdhnodjaaDoor
open Go
set_option linter.unusedVariables false
set_option linter.unusedSimpArgs false
theorem Headed.all {a s : ByteArray} (h : Headed a s) (hs : a.size = s.size) : a = s := by
  refine ByteArray.ext (Array.ext hs fun i h1 h2 => ?_)
  have e := h.head i h1
  rw [← bAt_get s i h2, ← bAt_get a i h1] at e
  exact (UInt8.toNat_inj.1 (by exact_mod_cast e)).symm
theorem take_cut (o : List Tok) {b : Nat} (hb : b ≤ o.length) : Cut o (o.take b) b := by
  refine ⟨fun k hk => ?_, ?_⟩
  · unfold sight; rw [List.getElem?_take_of_lt hk]
  · unfold sight; rw [List.getElem?_eq_none (by rw [List.length_take]; omega)]; rfl
theorem read_place {s : ByteArray} {o : List Tok} {q n : Nat} (ho : lexB s = (some o, q)) (hr : Read o s.size (none, n)) : n ≤ s.size := by
  cases hr with
  | rest h1 h2 => obtain ⟨p, e, hp, _⟩ := tok_stands ho h2; omega
  | bad h1 h2 => obtain ⟨p, e, hp, _⟩ := tok_stands ho h2; omega
  | short _ _ => exact Nat.le_refl _
theorem read_cut {s a : ByteArray} {o : List Tok} {q n : Nat} (ho : lexB s = (some o, q)) (hr : Read o s.size (none, n)) (hh : Headed a s) (ha : a.size = n) :
    ∃ o' q' r, lexB a = (some o', q') ∧ Read o' a.size r ∧ (r.1.isSome = true ∨ r = (none, n)) := by
  generalize hz : (none, n) = z at hr
  cases hr with
  | ok h1 => cases hz
  | @rest x b t h1 h2 =>
    injection hz with _ hz
    obtain ⟨p, e, hp, _⟩ := tok_stands ho h2
    have hl := lexB_cut hh ho h2 (by omega)
    have hb : b < o.length := (List.getElem?_eq_some_iff.1 h2).1
    have hc := h1.cut (take_cut o (Nat.le_of_lt hb)) (Nat.le_refl _)
    refine ⟨_, _, _, hl, .ok (x := x) ?_, .inl rfl⟩
    rw [List.length_take, Nat.min_eq_left (by omega)]
    exact hc
  | @bad b t h1 h2 =>
    injection hz with _ hz
    obtain ⟨p, e, hp, _⟩ := tok_stands ho h2
    have hl := lexB_cut hh ho h2 (by omega)
    have hb : b < o.length := (List.getElem?_eq_some_iff.1 h2).1
    have hc := h1.cut (take_cut o (Nat.le_of_lt hb)) (Nat.le_refl _)
    refine ⟨_, _, _, hl, .short (p := b) hc (by rw [List.length_take]; omega), .inr (by rw [ha, hz])⟩
  | short h1 h2 =>
    injection hz with _ hz
    obtain rfl := hh.all (by omega)
    exact ⟨_, _, _, ho, .short h1 h2, .inr (by rw [ha])⟩
/-! ### one behind the other -/
theorem append_behind (o l : List Tok) (A : Nat) : Behind l (o ++ l.map (shiftT A)) o.length := by
  intro k
  unfold sight
  rw [List.getElem?_append_right (by omega), Nat.add_sub_cancel_left, List.getElem?_map, Option.map_map]
  rfl
theorem append_alike (o l : List Tok) : Alike o (o ++ l) o.length := by
  intro k hk
  unfold sight
  rw [List.getElem?_append_left hk]
/-- the nodes of both. -/
theorem Parse.both {o l : List Tok} {A : Nat} {x : List Nd} {r : Res (List Nd)} (h1 : Parse o true 0 [] (.ok x o.length)) (h2 : Parse l true 0 [] r) : Parse (o ++ l.map (shiftT A)) true 0 [] (r.moved x o.length) := by
  have h3 := h2.behind (append_behind o l A) x
  simp only [if_true, List.append_nil, Nat.add_zero] at h3
  exact h1.on (append_alike o _) h3
end Go.Proofs.YtildplbdhnodjaaDoor
/- How much nodes are. Nothing of the program stands here. -/
namespace Go.Proofs.YtildplbdhnodjaaDoor
open Go
set_option linter.unusedVariables false
set_option linter.unusedSimpArgs false
structure Sm where
  depth : Int
  pieces : Int
  nodes : Int
  heights : Int
  deriving DecidableEq
def Sm.none : Sm := ⟨0, 0, 0, 0⟩
def piecesN (x : Nd) : Int := if x.kind = 1 then 0 else if x.kind = 2 then (x.words.length : Int) else 1
def highN (x : Nd) : Int := if x.kind = 1 then x.sty.top + x.sty.bottom + x.sty.padTop + x.sty.padBottom + x.sty.head else if x.kind = 2 then x.line * (x.words.length : Int) else x.h
def cutN : Int := 1099511627777
/-- a height, cut off. -/
def cut (z : Int) : Int := min z cutN
/-- how many blocks hold the node at place i. -/
def depN (l : List Nd) (i : Nat) : Nat := (opnV l (i + 1) i).length
def depTo (l : List Nd) : Nat → Int
  | 0 => 0
  | i + 1 => match l[i]? with
    | some x => if x.kind = 1 then max (depTo l i) (depN l i) else depTo l i
    | none => depTo l i
def sumI (f : Nd → Int) (l : List Nd) : Int := (l.map f).sum
theorem sumI_nil (f : Nd → Int) : sumI f [] = 0 := rfl
theorem sumI_append (f : Nd → Int) (a b : List Nd) : sumI f (a ++ b) = sumI f a + sumI f b := by unfold sumI; rw [List.map_append, List.sum_append]
theorem sumI_cons (f : Nd → Int) (x : Nd) (b : List Nd) : sumI f (x :: b) = f x + sumI f b := by unfold sumI; rw [List.map_cons, List.sum_cons]
theorem sumI_pos {f : Nd → Int} : ∀ {l : List Nd}, (∀ x ∈ l, 0 ≤ f x) → 0 ≤ sumI f l
  | [], _ => by simp [sumI]
  | x :: l, h => by
    rw [sumI_cons]
    have := h x (by simp)
    have := sumI_pos (l := l) (fun y hy => h y (by simp [hy]))
    omega
theorem sumI_take (f : Nd → Int) {l : List Nd} {i : Nat} {x : Nd} (h : l[i]? = some x) : sumI f (l.take (i + 1)) = sumI f (l.take i) + f x := by
  rw [List.take_add_one, h, sumI_append]
  simp [sumI]
theorem cut_step {a b : Int} (hb : 0 ≤ b) : cut (a + b) = min (cut a + b) cutN := by unfold cut cutN; omega
theorem cut_cut {a b : Int} (ha : 0 ≤ a) (hb : 0 ≤ b) : cut (a + b) = min (cut a + cut b) cutN := by unfold cut cutN; omega
theorem cut_le (z : Int) : cut z ≤ cutN := by unfold cut; omega
theorem cut_pos {z : Int} (h : 0 ≤ z) : 0 ≤ cut z := by unfold cut cutN; omega
theorem high_pos {x : Nd} (h : x.fits) : 0 ≤ highN x := by
  unfold highN
  rcases h with ⟨hk, hs, _⟩ | ⟨hk, _, hl, _⟩ | ⟨hk, _, _, _, _, _, hh, _⟩ | ⟨hk, _, _, _, _, _, hh, _⟩
  · rw [if_pos hk]
    obtain ⟨⟨h1, h2, h3, h4, _⟩, _, h5, _⟩ := hs
    unfold okN at *
    omega
  · rw [if_neg (by omega), if_pos hk]
    have := hl.1
    exact Int.mul_nonneg (by omega) (by omega)
  · rw [if_neg (by omega), if_neg (by omega)]; have := hh.1; omega
  · rw [if_neg (by omega), if_neg (by omega)]; have := hh.1; omega
theorem pieces_pos (x : Nd) : 0 ≤ piecesN x := by
  unfold piecesN
  split
  · omega
  · split <;> omega
/-- a whole number as the machine holds it. -/
def wr (z : Int) : Int := IntKind.i64.wrap z
theorem wr_add (a b : Int) : wr (wr a + b) = wr (a + b) := by unfold wr; rw [IntKind.wrap_i64, IntKind.wrap_i64, IntKind.wrap_i64]; omega
theorem wr_add2 (a b : Int) : wr (wr a + wr b) = wr (a + b) := by unfold wr; rw [IntKind.wrap_i64, IntKind.wrap_i64, IntKind.wrap_i64, IntKind.wrap_i64]; omega
theorem wr_wr (a : Int) : wr (wr a) = wr a := by unfold wr; rw [IntKind.wrap_i64, IntKind.wrap_i64]; omega
theorem wr_in {a : Int} (h1 : -9223372036854775808 ≤ a) (h2 : a ≤ 9223372036854775807) : wr a = a := by unfold wr; rw [IntKind.wrap_i64]; omega
/-- how much the first n nodes are. -/
def sumTo (l : List Nd) (n : Nat) : Sm := ⟨depTo l n, wr (sumI piecesN (l.take n)), n, cut (sumI highN (l.take n))⟩
def sumB (l : List Nd) : Sm := sumTo l l.length
theorem sumTo_zero (l : List Nd) : sumTo l 0 = .none := by unfold sumTo Sm.none; simp [depTo, sumI, cut, cutN, wr_in (a := 0) (by decide) (by decide)]; omega
theorem sumB_eq (l : List Nd) : sumB l = ⟨depTo l l.length, wr (sumI piecesN l), l.length, cut (sumI highN l)⟩ := by unfold sumB sumTo; rw [List.take_length]
theorem depTo_succ {l : List Nd} {i : Nat} {x : Nd} (h : l[i]? = some x) : depTo l (i + 1) = if x.kind = 1 then max (depTo l i) (depN l i) else depTo l i := by rw [depTo, h]
theorem depTo_pos (l : List Nd) : ∀ i, 0 ≤ depTo l i
  | 0 => by simp [depTo]
  | i + 1 => by
    have := depTo_pos l i
    rcases h : l[i]? with _ | x
    · rw [depTo, h]; exact this
    · rw [depTo_succ h]; split <;> omega
theorem depN_le (l : List Nd) (i : Nat) : depN l i ≤ i + 1 := by
  have hAE : ∀ i, (AE l i).length ≤ i := by
    intro i
    induction i with
    | zero => simp [AE]
    | succ i ih =>
      rw [AE, List.length_append]
      have : (endOf l i).length ≤ 1 := by
        unfold endOf
        split
        · split <;> simp
        · simp
      omega
  unfold depN opnV
  have := List.length_filter_le (fun e => decide ((i : Int) < e)) (AE l (i + 1))
  have := hAE (i + 1)
  omega
theorem depTo_le (l : List Nd) : ∀ i : Nat, depTo l i ≤ (i : Int)
  | 0 => by simp [depTo]
  | i + 1 => by
    have := depTo_le l i
    rcases h : l[i]? with _ | x
    · rw [depTo, h]; simp only; omega
    · rw [depTo_succ h]
      have := depN_le l i
      split <;> omega
/-! ### documents, one behind the other -/
theorem endOf_left {a b : List Nd} {i : Nat} (h : i < a.length) : endOf (a ++ b) i = endOf a i := by unfold endOf; rw [List.getElem?_append_left h]
theorem AE_left {a b : List Nd} : ∀ {i : Nat}, i ≤ a.length → AE (a ++ b) i = AE a i
  | 0, _ => rfl
  | i + 1, h => by rw [AE, AE, AE_left (by omega), endOf_left (by omega)]
theorem endOf_right (a b : List Nd) (j : Nat) : endOf (a ++ b) (a.length + j) = (endOf b j).map (fun e => (a.length : Int) + e) := by
  unfold endOf
  rw [List.getElem?_append_right (by omega), Nat.add_sub_cancel_left]
  rcases b[j]? with _ | x
  · rfl
  · by_cases hk : x.kind = 1
    · simp [hk]; omega
    · simp [hk]
theorem AE_right (a b : List Nd) : ∀ j : Nat, AE (a ++ b) (a.length + j) = AE a a.length ++ (AE b j).map (fun e => (a.length : Int) + e)
  | 0 => by rw [Nat.add_zero, AE_left (Nat.le_refl _)]; simp [AE]
  | j + 1 => by
    rw [← Nat.add_assoc, AE, AE_right a b j, endOf_right, AE, List.map_append, List.append_assoc]
theorem depN_left {a b : List Nd} {i : Nat} (h : i < a.length) : depN (a ++ b) i = depN a i := by unfold depN opnV; rw [AE_left (by omega)]
theorem filter_shift (L : List Int) (c z : Int) : ((L.map (fun e => c + e)).filter (fun e => decide (c + z < e))).length = (L.filter (fun e => decide (z < e))).length := by
  rw [List.filter_map, List.length_map]
  congr 2
  funext e
  rw [Bool.eq_iff_iff]
  simp
theorem depN_right {a b : List Nd} (ha : Nested a) (j : Nat) : depN (a ++ b) (a.length + j) = depN b j := by
  unfold depN opnV
  rw [Nat.add_assoc, AE_right, List.filter_append, List.length_append]
  have h1 : (AE a a.length).filter (fun e => decide (((a.length + j : Nat) : Int) < e)) = [] := by
    refine List.filter_eq_nil_iff.2 fun e he => ?_
    obtain ⟨k, x, hk, hx, _, rfl⟩ := mem_AE.1 he
    have := (ha k x hx).2.1
    simp; omega
  rw [h1, List.length_nil, Nat.zero_add]
  have := filter_shift (AE b (j + 1)) a.length j
  rw [← this]
  simp
theorem depTo_left {a b : List Nd} : ∀ {i : Nat}, i ≤ a.length → depTo (a ++ b) i = depTo a i
  | 0, _ => rfl
  | i + 1, h => by
    have hx : a[i]? = some (a[i]'(by omega)) := List.getElem?_eq_getElem _
    rw [depTo_succ hx, depTo_succ (l := a ++ b) (by rw [List.getElem?_append_left (by omega)]; exact hx), depTo_left (by omega), depN_left (by omega)]
theorem depTo_right {a b : List Nd} (ha : Nested a) : ∀ j : Nat, j ≤ b.length → depTo (a ++ b) (a.length + j) = max (depTo a a.length) (depTo b j)
  | 0, _ => by
    rw [Nat.add_zero, depTo_left (Nat.le_refl _)]
    have := depTo_pos a a.length
    simp only [depTo]
    omega
  | j + 1, h => by
    have hx : b[j]? = some (b[j]'(by omega)) := List.getElem?_eq_getElem _
    rw [← Nat.add_assoc, depTo_succ hx, depTo_succ (l := a ++ b) (i := a.length + j) (by rw [List.getElem?_append_right (by omega), Nat.add_sub_cancel_left]; exact hx), depTo_right ha j (by omega), depN_right ha]
    split <;> omega
theorem sumB_append {a b : List Nd} (ha : IsDoc a) (hb : IsDoc b) : sumB (a ++ b) = ⟨max (sumB a).depth (sumB b).depth, wr ((sumB a).pieces + (sumB b).pieces), (sumB a).nodes + (sumB b).nodes, min ((sumB a).heights + (sumB b).heights) cutN⟩ := by
  rw [sumB_eq, sumB_eq, sumB_eq, List.length_append, depTo_right ha.2.nested _ (Nat.le_refl _), sumI_append, sumI_append, cut_cut (sumI_pos fun x hx => high_pos (ha.1 x hx)) (sumI_pos fun x hx => high_pos (hb.1 x hx))]
  simp [wr_add2]
theorem IsDoc.append {a b : List Nd} (ha : IsDoc a) (hb : IsDoc b) : IsDoc (a ++ b) := ⟨fun x hx => by
  rcases List.mem_append.1 hx with h | h
  · exact ha.1 x h
  · exact hb.1 x h, ha.2.append hb.2⟩
/-! ### a node and what is within it -/
theorem depN_within {x : Nd} {inner : List Nd} (hx : x.kind = 1) (hs : x.size = 1 + inner.length) {j : Nat} (hj : j < inner.length) : depN (x :: inner) (j + 1) = depN inner j + 1 := by
  have h := AE_right [x] inner (j + 1)
  have e1 : AE [x] [x].length = [1 + (inner.length : Int)] := by simp [AE, endOf, hx, hs]
  rw [e1] at h
  unfold depN opnV
  rw [show x :: inner = [x] ++ inner from rfl, show j + 1 + 1 = [x].length + (j + 1) by simp; omega, h, List.filter_append, List.length_append]
  rw [List.filter_cons_of_pos (by simp; omega), List.filter_nil, List.length_singleton]
  have := filter_shift (AE inner (j + 1)) 1 j
  rw [← this, Nat.add_comm]
  congr 3
  funext e
  rw [Bool.eq_iff_iff]
  simp
  omega
theorem depTo_within {x : Nd} {inner : List Nd} (hx : x.kind = 1) (hs : x.size = 1 + inner.length) : ∀ j : Nat, j ≤ inner.length → depTo (x :: inner) (j + 1) = depTo inner j + 1
  | 0, _ => by
    rw [depTo_succ (l := x :: inner) (i := 0) rfl, if_pos hx]
    have : depN (x :: inner) 0 = 1 := by
      unfold depN
      rw [opnV_succ, opnV_zero]
      unfold endOf
      simp [hx, hs]
      rw [List.filter_cons_of_pos (by simp; omega)]; rfl
    rw [this]
    simp only [depTo]
    omega
  | j + 1, h => by
    have hj : inner[j]? = some (inner[j]'(by omega)) := List.getElem?_eq_getElem _
    rw [depTo_succ (l := x :: inner) (i := j + 1) (by rw [List.getElem?_cons_succ]; exact hj), depTo_succ hj, depTo_within hx hs j (by omega), depN_within hx hs (by omega)]
    split <;> omega
theorem sumB_cons {x : Nd} {inner : List Nd} (hx : x.fits) (hi : IsDoc inner) (hs : x.size = 1 + inner.length) : (x.kind = 1 → (sumB (x :: inner)).depth = (sumB inner).depth + 1) ∧ (sumB (x :: inner)).nodes = (sumB inner).nodes + 1 ∧ (sumB inner).heights ≤ (sumB (x :: inner)).heights := by
  rw [sumB_eq, sumB_eq]
  refine ⟨fun hk => depTo_within hk hs _ (Nat.le_refl _), by simp, ?_⟩
  simp only [sumI_cons]
  have := high_pos hx
  unfold cut
  omega
theorem Forest.at_ {l : List Nd} (h : Forest l) : ∀ (i : Nat) (x : Nd), l[i]? = some x → ∃ pre inner rest, l = pre ++ (x :: (inner ++ rest)) ∧ pre.length = i ∧ x.size = 1 + (inner.length : Int) ∧ (x.kind ≠ 1 → inner = []) ∧ Forest inner := by
  induction h with
  | nil => intro i x hx; simp at hx
  | @cons x inner rest h1 h2 h3 h4 ih1 ih2 =>
    intro i z hz
    rcases get_parts hz with ⟨rfl, rfl⟩ | ⟨j, rfl, hj, hj2⟩ | ⟨j, rfl, hj2⟩
    · exact ⟨[], inner, rest, rfl, rfl, h1, h2, h3⟩
    · obtain ⟨p, n, r, e, hp, hs, hk, hf⟩ := ih1 j z hj2
      refine ⟨x :: p, n, r ++ rest, ?_, by simp [hp], hs, hk, hf⟩
      rw [e]; simp
    · obtain ⟨p, n, r, e, hp, hs, hk, hf⟩ := ih2 j z hj2
      refine ⟨x :: (inner ++ p), n, r, ?_, by simp [hp], hs, hk, hf⟩
      rw [e]; simp
theorem IsDoc.at_ {l : List Nd} (h : IsDoc l) {i : Nat} {x : Nd} (hx : l[i]? = some x) : ∃ pre inner rest, l = pre ++ (x :: (inner ++ rest)) ∧ pre.length = i ∧ x.size = 1 + (inner.length : Int) ∧ IsDoc inner ∧ IsDoc (x :: inner) := by
  obtain ⟨p, n, r, e, hp, hs, hk, hf⟩ := h.2.at_ i x hx
  have hin : ∀ y ∈ n, y.fits := fun y hy => h.1 y (by rw [e]; simp [hy])
  have hxf : x.fits := h.1 x (List.mem_of_getElem? hx)
  have hf2 := Forest.cons hs hk hf .nil
  rw [List.append_nil] at hf2
  exact ⟨p, n, r, e, hp, hs, ⟨hin, hf⟩, ⟨fun y hy => by
    rcases List.mem_cons.1 hy with rfl | hy
    · exact hxf
    · exact hin y hy, hf2⟩⟩
/-- a row's first node and what is within it go ahead. -/
theorem Forest.front {l : List Nd} (h : Forest l) {x : Nd} {t : List Nd} (e : l = x :: t) : ∃ inner rest, t = inner ++ rest ∧ x.size = 1 + (inner.length : Int) ∧ Forest (x :: inner) ∧ Forest rest := by
  cases h with
  | nil => cases e
  | @cons y inner rest h1 h2 h3 h4 =>
    injection e with e1 e2
    subst e1
    have hf2 := Forest.cons h1 h2 h3 .nil
    rw [List.append_nil] at hf2
    exact ⟨inner, rest, e2.symm, h1, hf2, h4⟩
end Go.Proofs.YtildplbdhnodjaaDoor
/- What is answered of nodes. Nothing of the program stands here. -/
namespace Go.Proofs.YtildplbdhnodjaaDoor
open Go
set_option linter.unusedVariables false
set_option linter.unusedSimpArgs false
/-- how much they are, and the error. -/
def ansV (l : List Nd) : Sm × Int := if docB l then (sumB l, 0) else (.none, 4)
def overB (s : Sm) : Bool := decide (16 < s.depth) || decide (2000 < s.pieces) || decide (2000 < s.nodes) || decide (1099511627776 < s.heights)
/-- what is wrong with them. -/
def chkV (l : List Nd) : Int := if docB l then (if overB (sumB l) then 2 else 0) else 4
theorem ansV_err {l : List Nd} {s : Sm} {f : Int} (h : ansV l = (s, f)) : (f = 0 ∧ docB l = true ∧ s = sumB l) ∨ (f = 4 ∧ docB l = false ∧ s = .none) := by
  unfold ansV at h
  rcases hd : docB l with _ | _
  · rw [hd] at h; simp at h; exact .inr ⟨h.2.symm, rfl, h.1.symm⟩
  · rw [hd] at h; simp at h; exact .inl ⟨h.2.symm, rfl, h.1.symm⟩
end Go.Proofs.YtildplbdhnodjaaDoor
