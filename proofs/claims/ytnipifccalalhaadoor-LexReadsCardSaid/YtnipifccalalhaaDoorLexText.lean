import Derived.Test.YtnipifccalalhaaDoorLexToken
import Derived.Test.YtnipifccalalhaaDoorLexEncode
/- The program's package lex: whether a text is well-formed. -/
namespace Go.Proofs.YtnipifccalalhaaDoor
open Go.RowKit
set_option linter.unusedVariables false
set_option linter.unusedSimpArgs false
def pre3 (t : ByteArray) : Bool := decide (3 ≤ t.size) && (t.extract 0 3).toList == [239, 191, 189]
theorem pre2_any (t : ByteArray) (w : World) (ht : t.size ≤ 100000) : Calls Tryd.prog 28 #[.string t, .string ⟨#[239, 191, 189]⟩] w fun e w' => e = .returned (.bool (pre3 t)) ∧ w = w' := by
  by_cases h : 3 ≤ t.size
  · go_enter Tryd.func28, Tryd.ntmps28
    go_wp2_with fail
    go_ret
    exact ⟨ret_bool (by simp [pre3, h]), rfl⟩
  · go_enter Tryd.func28, Tryd.ntmps28
    go_wp2_with fail
    go_ret
    exact ⟨ret_bool (by simp [pre3, h]), rfl⟩
theorem pre_any {t : ByteArray} {v : Bool} (hv : pre3 t = v) (w : World) (ht : t.size ≤ 100000) : Calls Tryd.prog 22 #[.string t, .string ⟨#[239, 191, 189]⟩] w fun e w' => e = .returned (.bool v) ∧ w = w' := by
  subst hv
  go_enter Tryd.func22, Tryd.ntmps22
  go_wp2_with (go_at_call 28; refine (pre2_any _ _ ht).mono ?_; rintro e w' ⟨rfl, rfl⟩)
  go_ret
  exact ⟨rfl, rfl⟩
theorem pre_yes {s : ByteArray} {k : Nat} (hk : k < s.size) (hz : sizeB s k ≠ 0) (hr : runeB s k (sizeB s k) = 65533) : pre3 (s.extract k s.size) = true := by
  have he := encode_rune hz
  have hin := sizeB_in (s := s) (k := k) (by omega)
  rw [hr] at he
  have hd : Utf8.encode 65533 = ⟨#[239, 191, 189]⟩ := by kernel_rfl
  rw [hd] at he
  have hs := congrArg ByteArray.size he
  rw [ByteArray.size_extract] at hs
  have h3 : sizeB s k = 3 := by
    have : (ByteArray.mk #[239, 191, 189]).size = 3 := rfl
    omega
  rw [h3] at he hin
  have e2 : (s.extract k s.size).extract 0 3 = s.extract k (k + 3) := by
    rw [ByteArray.extract_extract]
    congr 1
    omega
  unfold pre3
  rw [e2, ← he, ByteArray.size_extract, decide_eq_true (by omega), Go.ByteArray.toList_eq]
  rfl
theorem pre3_byte {t : ByteArray} {l : List UInt8} (h3 : l.length ≤ t.size) (hp : (t.extract 0 l.length).data.toList = l) {j : Nat} {u : UInt8} (hu : l[j]? = some u) : bAt t j = (u.toNat : Int) := by
  have hj := (List.getElem?_eq_some_iff.1 hu).1
  rw [← hp, Array.getElem?_toList, ByteArray.data_extract, Array.getElem?_extract] at hu
  unfold bAt
  congr 2
  show t.data[j]! = u
  rw [getElem!_def]
  split at hu
  · rw [Nat.zero_add] at hu; rw [hu]
  · exact absurd hu (by simp)
theorem pre_no {s : ByteArray} {k : Nat} (hk : k < s.size) (hz : sizeB s k = 0) : pre3 (s.extract k s.size) = false := by
  rcases hp : pre3 (s.extract k s.size) with _ | _
  · rfl
  · exfalso
    unfold pre3 at hp
    simp only [Bool.and_eq_true, decide_eq_true_eq, beq_iff_eq] at hp
    obtain ⟨hl, hp⟩ := hp
    rw [Go.ByteArray.toList_eq] at hp
    have b0 := pre3_byte (l := [239, 191, 189]) hl hp (j := 0) rfl
    have b1 := pre3_byte (l := [239, 191, 189]) hl hp (j := 1) rfl
    have b2 := pre3_byte (l := [239, 191, 189]) hl hp (j := 2) rfl
    clear hp
    rw [ByteArray.size_extract] at hl
    have h3 : k + 3 ≤ s.size := by omega
    rw [bAt_extract s k s.size _ (Nat.le_refl _) (by omega)] at b0 b1 b2
    have q0 : bAt s k = 239 := b0
    have q1 : bAt s (k + 1) = 191 := b1
    have q2 : bAt s (k + 1 + 1) = 189 := b2
    have i0 : inB s k 238 239 = true := inB_yes hk (by omega) (by omega)
    have i1 : moreB s (k + 1) 2 = true := more2.2 ⟨inB_yes (by omega) (by omega) (by omega), inB_yes (by omega) (by omega) (by omega)⟩
    have n0 : inB s k 0 127 = false := inB_no (by omega)
    have n1 : inB s k 194 223 = false := inB_no (by omega)
    unfold sizeB at hz
    rw [n0, n1, i0, i1] at hz
    simp at hz
theorem lextext_any (s : ByteArray) (w : World) (hs : s.size ≤ 100000) : Calls Tryd.prog 9 #[.string s] w fun e w' => e = .returned (textV (textB s)) ∧ Below w.heap.size w w' := by
  have HT := Lib.hid (show textF s (s.size + 1) 0 = textB s from rfl)
  go_enter Tryd.func9, Tryd.ntmps9
  go_wp2_with fail
  go_loopw [4, 5] (fun v c wr => ∃ k f : Nat, k ≤ s.size ∧ s.size ≤ k + f ∧ textF s f k = textB s ∧ wr = w.iter s k) (fun _ _ wr => s.size - wr.iterPos w.heap.size)
  case atStart => exact ⟨0, s.size + 1, by omega, by omega, HT.out, rfl⟩
  case round =>
    obtain ⟨k, f, hk, hf, ht, rfl⟩ := hrel
    have HT2 := Lib.hid ht
    clear ht
    by_cases hlt : k < s.size
    · have hnx := fun ty => run_next_any (P := Tryd.prog) w s k ty hlt
      have hds := decode_size s k hlt
      have hin := sizeB_in (s := s) (k := k)
      have h2 : (k : Int) < (s.size : Int) := by omega
      obtain ⟨z, hz⟩ : ∃ z, sizeB s k = z := ⟨_, rfl⟩
      have hsz : (s.extract k s.size).size ≤ 100000 := by rw [ByteArray.size_extract]; omega
      by_cases hz0 : z = 0
      · subst hz0
        have HR := Lib.hid ((HT2.out.symm.trans (textF_bad hlt hf hz)))
        have HP := Lib.hid (pre_no hlt hz)
        have hW := Below.alloc (Below.refl w.heap.size w) (Nat.le_refl _) (.stringIter s (k + 1))
        rw [hds.1 hz] at hnx
        clear hds hin hz
        go_wp2_with (go_at_call 22; refine (pre_any HP.out _ hsz).mono ?_; rintro e w' ⟨rfl, rfl⟩)
        go_ret2
        exact ⟨by rw [HR.out]; rfl, hW⟩
      · obtain ⟨hd, hp⟩ := hds.2 (by omega)
        obtain ⟨f', hf', hst⟩ := textF_step hlt hf (by omega)
        have hin2 := hin (by omega)
        have HY := Lib.hid (pre_yes hlt (show sizeB s k ≠ 0 by omega))
        rw [hd] at hnx
        rw [hz] at hin2 hf' hst hp
        obtain ⟨c, hc⟩ : ∃ c, runeB s k (sizeB s k) = c := ⟨_, rfl⟩
        rw [hc] at hnx HY
        rw [hz] at hc hnx
        rw [hc] at hp
        simp only [Int.toNat_of_nonneg hp] at hnx
        have HSt := Lib.hid (hst.symm.trans HT2.out)
        clear hds hin hz hst hd hc
        by_cases h65 : c = 65533
        · have HP := Lib.hid (HY.out h65)
          subst h65
          go_wp2_with (go_at_call 22; refine (pre_any HP.out _ hsz).mono ?_; rintro e w' ⟨rfl, rfl⟩)
          go_roundw
          case rel => exact ⟨k + z, f', by omega, by omega, HSt.out, rfl⟩
          case measure => simp; omega
        · have h6 : (c == 65533) = false := by simp [h65]
          go_wp2_with fail
          go_roundw
          case rel => exact ⟨k + z, f', by omega, by omega, HSt.out, rfl⟩
          case measure => simp; omega
    · have hnx := fun ty => run_next_end (P := Tryd.prog) w s k ty hlt
      have HR := Lib.hid (HT2.out.symm.trans (textF_end hlt))
      have hW := Below.alloc (Below.refl w.heap.size w) (Nat.le_refl _) (.stringIter s k)
      go_wp2_with fail
      go_ret2
      exact ⟨by rw [HR.out]; rfl, hW⟩
end Go.Proofs.YtnipifccalalhaaDoor
