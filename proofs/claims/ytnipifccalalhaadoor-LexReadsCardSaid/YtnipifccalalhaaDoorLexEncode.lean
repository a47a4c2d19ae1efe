import Derived.Test.YtnipifccalalhaaDoorLexPlaces
/- A character of a script, written as UTF-8 anew, is the bytes that stand there. Nothing of the program stands here. -/
namespace Go.Proofs.YtnipifccalalhaaDoor
open Go
set_option linter.unusedVariables false
set_option linter.unusedSimpArgs false
theorem get_data (s : ByteArray) (i : Nat) (h : i < s.size) : s.data[i]? = some (s.get! i) := by
  have h2 : i < s.data.size := h
  rw [Array.getElem?_eq_getElem h2]
  show some _ = some (s.data[i]!)
  rw [getElem!_pos s.data i h2]
theorem extract_list (s : ByteArray) (p : Nat) : ∀ (z : Nat) (l : List UInt8), l.length = z → p + z ≤ s.size → (∀ j u, l[j]? = some u → s.get! (p + j) = u) → s.extract p (p + z) = ⟨l.toArray⟩ := by
  intro z l hl hz hu
  apply ByteArray.ext
  rw [ByteArray.data_extract]
  apply Array.ext'
  apply List.ext_getElem?
  intro j
  have hs : s.data.size = s.size := rfl
  rw [Array.getElem?_toList, Array.getElem?_extract]
  simp only [List.getElem?_toArray, Array.getElem?_toList]
  by_cases hj : j < z
  · have hl2 : l[j]? = some l[j] := List.getElem?_eq_getElem (by omega)
    rw [hl2, ← hu j _ hl2]
    rw [if_pos (by omega)]
    exact get_data s (p + j) (by omega)
  · rw [List.getElem?_eq_none (by omega), if_neg (by omega)]
theorem ofNat_get (s : ByteArray) (i n : Nat) (h : n = (s.get! i).toNat) : s.get! i = UInt8.ofNat n := by
  subst h; simp
theorem encode_rune {s : ByteArray} {p : Nat} (hz : sizeB s p ≠ 0) : Utf8.encode (runeB s p (sizeB s p)) = s.extract p (p + sizeB s p) := by
  have hin := sizeB_in (s := s) (k := p) (by omega)
  have hk : p < s.size := by omega
  have hs := sizeB_sizeN s p hk
  have e0 : bAt s p = ((s.get! p).toNat : Int) := rfl
  have e1 : bAt s (p + 1) = ((s.get! (p + 1)).toNat : Int) := rfl
  have e2 : bAt s (p + 2) = ((s.get! (p + 2)).toNat : Int) := rfl
  have e3 : bAt s (p + 3) = ((s.get! (p + 3)).toNat : Int) := rfl
  have g0 := ofNat_get s p
  have g1 := ofNat_get s (p + 1)
  have g2 := ofNat_get s (p + 2)
  have g3 := ofNat_get s (p + 3)
  generalize hb0 : (s.get! p).toNat = b0 at *
  generalize hb1 : (s.get! (p + 1)).toNat = b1 at *
  generalize hb2 : (s.get! (p + 2)).toNat = b2 at *
  generalize hb3 : (s.get! (p + 3)).toNat = b3 at *
  unfold sizeN at hs
  split at hs
  · rename_i c
    have hr : runeB s p (sizeB s p) = (b0 : Int) := by rw [hs]; show bAt s p = _; rw [e0]
    rw [hs] at hin
    rw [hr, hs]
    rw [extract_list s p 1 [UInt8.ofNat b0] rfl hin (fun j u hj => by
      match j, hj with
      | 0, hj => exact (g0 b0 rfl).trans (Option.some.inj hj))]
    unfold Utf8.encode
    have v : Utf8.valid (b0 : Int) = true := by unfold Utf8.valid; simp; omega
    simp only [v, if_true, Int.toNat_natCast, show b0 < 128 by omega]
  split at hs
  · rename_i c1 c
    have hr : runeB s p (sizeB s p) = ((64 * (b0 - 192) + (b1 - 128) : Nat) : Int) := by rw [hs]; show 64 * (bAt s p - 192) + bAt s (p + 1) - 128 = _; rw [e0, e1]; omega
    rw [hs] at hin
    rw [hr, hs]
    generalize hc : 64 * (b0 - 192) + (b1 - 128) = cc
    rw [extract_list s p 2 [UInt8.ofNat (192 + cc / 64), UInt8.ofNat (128 + cc % 64)] rfl hin (fun j u hj => by
      match j, hj with
      | 0, hj => exact (g0 _ (by omega)).trans (Option.some.inj hj)
      | 1, hj => exact (g1 _ (by omega)).trans (Option.some.inj hj))]
    unfold Utf8.encode
    have v : Utf8.valid (cc : Int) = true := by unfold Utf8.valid; simp; omega
    simp only [v, if_true, Int.toNat_natCast, show ¬ cc < 128 by omega, show cc < 2048 by omega, if_false]
  split at hs
  · rename_i c1 c2 c
    have hr : runeB s p (sizeB s p) = ((64 * (64 * (b0 - 224) + (b1 - 128)) + (b2 - 128) : Nat) : Int) := by rw [hs]; show 64 * (64 * (bAt s p - 224) + bAt s (p + 1) - 128) + bAt s (p + 2) - 128 = _; rw [e0, e1, e2]; omega
    rw [hs] at hin
    rw [hr, hs]
    generalize hc : 64 * (64 * (b0 - 224) + (b1 - 128)) + (b2 - 128) = cc
    rw [extract_list s p 3 [UInt8.ofNat (224 + cc / 4096), UInt8.ofNat (128 + cc / 64 % 64), UInt8.ofNat (128 + cc % 64)] rfl hin (fun j u hj => by
      match j, hj with
      | 0, hj => exact (g0 _ (by omega)).trans (Option.some.inj hj)
      | 1, hj => exact (g1 _ (by omega)).trans (Option.some.inj hj)
      | 2, hj => exact (g2 _ (by omega)).trans (Option.some.inj hj))]
    unfold Utf8.encode
    have v : Utf8.valid (cc : Int) = true := by unfold Utf8.valid; simp; omega
    simp only [v, if_true, Int.toNat_natCast, show ¬ cc < 128 by omega, show ¬ cc < 2048 by omega, show cc < 65536 by omega, if_false]
  split at hs
  · rename_i c1 c2 c3 c
    have hr : runeB s p (sizeB s p) = ((64 * (64 * (64 * (b0 - 240) + (b1 - 128)) + (b2 - 128)) + (b3 - 128) : Nat) : Int) := by rw [hs]; show 64 * (64 * (64 * (bAt s p - 240) + bAt s (p + 1) - 128) + bAt s (p + 2) - 128) + bAt s (p + 3) - 128 = _; rw [e0, e1, e2, e3]; omega
    rw [hs] at hin
    rw [hr, hs]
    generalize hc : 64 * (64 * (64 * (b0 - 240) + (b1 - 128)) + (b2 - 128)) + (b3 - 128) = cc
    rw [extract_list s p 4 [UInt8.ofNat (240 + cc / 262144), UInt8.ofNat (128 + cc / 4096 % 64), UInt8.ofNat (128 + cc / 64 % 64), UInt8.ofNat (128 + cc % 64)] rfl hin (fun j u hj => by
      match j, hj with
      | 0, hj => exact (g0 _ (by omega)).trans (Option.some.inj hj)
      | 1, hj => exact (g1 _ (by omega)).trans (Option.some.inj hj)
      | 2, hj => exact (g2 _ (by omega)).trans (Option.some.inj hj)
      | 3, hj => exact (g3 _ (by omega)).trans (Option.some.inj hj))]
    unfold Utf8.encode
    have v : Utf8.valid (cc : Int) = true := by unfold Utf8.valid; simp; omega
    simp only [v, if_true, Int.toNat_natCast, show ¬ cc < 128 by omega, show ¬ cc < 2048 by omega, show ¬ cc < 65536 by omega, if_false]
  · exact absurd hs hz
theorem bAt_extract (s : ByteArray) (i j k : Nat) (hj : j ≤ s.size) (hk : i + k < j) : bAt (s.extract i j) k = bAt s (i + k) := by
  unfold bAt
  congr 2
  show (s.extract i j).data[k]! = s.data[i + k]!
  have hs : s.data.size = s.size := rfl
  rw [getElem!_def, getElem!_def, ByteArray.data_extract, Array.getElem?_extract, if_pos (by omega)]
theorem nstF_extract (s : ByteArray) (i j : Nat) (hj : j ≤ s.size) : ∀ (n k : Nat) (c : Bool), i + k + n ≤ j → nstF (s.extract i j) n k c = nstF s n (i + k) c
  | 0, k, c, _ => rfl
  | n + 1, k, c, h => by
    have ih := fun c => nstF_extract s i j hj n (k + 1) c (by omega)
    rw [nstF, nstF, bAt_extract s i j k hj (by omega)]
    simp only [ih, show i + (k + 1) = i + k + 1 by omega]
end Go.Proofs.YtnipifccalalhaaDoor
