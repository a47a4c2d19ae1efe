import Derived.Test.YtnipifccalalhaaDoorLexFns
import Derived.Test.YtnipifccalalhaaDoorLexDecode
import Derived.Laws.RangeAny
/- The program's package lex: a row of digits as a number; white and comments. -/
namespace Go.Proofs.YtnipifccalalhaaDoor
open Go.RowKit
set_option linter.unusedVariables false
set_option linter.unusedSimpArgs false
theorem numF_big {s : ByteArray} : ∀ (f : Nat) (n : Int) (e : Nat), 1099511627776 < n → 1099511627776 < (numF s f n e).1
  | 0, n, e, h => h
  | f + 1, n, e, h => by
    rw [numF]; split
    · rename_i hd
      have := bAt_bd s e
      have hd2 : 48 ≤ bAt s e := by
        unfold digB inB at hd; simp at hd; omega
      exact numF_big f _ _ (by omega)
    · exact h
def numV (t : ByteArray) : Value := if 1099511627776 < (numB t 0).1 ∨ (bAt t 0 = 48 ∧ 1 < t.size) then .tuple #[.int .i64 0, .bool false] else .tuple #[.int .i64 (numB t 0).1, .bool true]
theorem toList_one {t : ByteArray} (h : 0 < t.size) : (t.toList == [48]) = decide (bAt t 0 = 48 ∧ t.size = 1) := by
  have hl : t.toList.length = t.size := by rw [Go.ByteArray.toList_eq]; rfl
  have h0 : t.toList[0]? = some (t[0]'h) := by rw [Go.ByteArray.toList_eq]; exact (Array.getElem?_toList ..).trans (Array.getElem?_eq_getElem h)
  have hb := bAt_get t 0 h
  rcases he : t.toList with _ | ⟨x, xs⟩
  · rw [he] at hl; simp at hl; omega
  · rw [he] at hl h0
    simp at hl h0
    subst h0
    rw [Bool.eq_iff_iff]
    simp only [beq_iff_eq, List.cons.injEq, decide_eq_true_eq]
    constructor
    · rintro ⟨q, rfl⟩
      simp at hl
      exact ⟨by rw [← hb, q]; rfl, by omega⟩
    · rintro ⟨q, r⟩
      refine ⟨?_, List.length_eq_zero_iff.1 (by omega)⟩
      rw [← hb] at q
      exact UInt8.toNat_inj.1 (by simpa using (by omega : (t[0]'h).toNat = 48))
theorem number_any (t : ByteArray) (w : World) (h1 : 0 < t.size) (hd : ∀ i, i < t.size → digB t i = true) (ht : t.size ≤ 100000) : Calls Tryd.prog 34 #[.string t] w fun e w' => e = .returned (numV t) ∧ Below w.heap.size w w' := by
  have HD := Lib.hid hd
  clear hd
  have hb0 := bAt_get t 0 h1
  obtain ⟨b, hb⟩ : ∃ b, bAt t 0 = b := ⟨_, rfl⟩
  rw [hb] at hb0
  have HB := Lib.hid hb
  have HN := Lib.hid (show numF t (t.size + 1) 0 0 = numB t 0 from rfl)
  have h40 := toList_one h1
  rw [hb] at h40
  clear hb
  have h40' := h40
  by_cases hbad : b = 48 ∧ 1 < t.size
  · have e1 : (t.toList == [48]) = false := by rw [h40']; simp; omega
    obtain ⟨rfl, h2⟩ := hbad
    go_enter Tryd.func34, Tryd.ntmps34
    go_wp2_with fail
    go_ret2
    exact ⟨by rw [numV, if_pos (.inr ⟨HB.out, h2⟩)]; rfl, Below.refl _ _⟩
  · have HOK := Lib.hid (show ¬(b = 48 ∧ 1 < t.size) from hbad)
    have hor : ((b == 48) = true ∧ (t.toList == [48]) = true) ∨ (b == 48) = false := by
      by_cases q : b = 48
      · exact .inl ⟨by simp [q], by rw [h40']; simp; omega⟩
      · exact .inr (by simp [q])
    clear hbad h40 h40'
    rcases hor with ⟨hz, hz2⟩ | hz
    all_goals
      go_enter Tryd.func34, Tryd.ntmps34
      go_wp2_with fail
      go_loopw [2, 5] (fun v c wr => ∃ (k f : Nat) (n : Int), k ≤ t.size ∧ t.size ≤ k + f ∧ v = .int .i64 n ∧ (0 ≤ n ∧ n ≤ 1099511627776) ∧ numF t f n k = numB t 0 ∧ wr = w.iter t k) (fun _ _ wr => t.size - wr.iterPos w.heap.size)
      case atStart => exact ⟨0, t.size + 1, 0, by omega, by omega, rfl, by omega, HN.out, rfl⟩
      case round =>
        obtain ⟨k, f, n, hk, hf, rfl, ⟨hn1, hn2⟩, hnf, rfl⟩ := hrel
        have HNf := Lib.hid hnf
        clear hnf
        by_cases hlt : k < t.size
        · have hdk := HD.out k hlt
          obtain ⟨f3, hf3, hst⟩ := numF_step (n := n) hdk hf
          rw [HNf.out] at hst
          have hbk0 := bAt_get t k hlt
          have h48 : 48 ≤ bAt t k ∧ bAt t k ≤ 57 := by
            have q := inB_at hlt 48 57
            rw [show inB t k 48 57 = true from hdk] at q
            have q2 := q.symm
            simp only [Bool.and_eq_true, decide_eq_true_eq] at q2
            exact q2
          have hbn : ((t[k]'hlt).toNat : Int) = bAt t k := hbk0
          have hnx := fun ty => run_next_ascii (P := Tryd.prog) w t k ty hlt (by omega)
          obtain ⟨c, hc⟩ : ∃ c, bAt t k = c := ⟨_, rfl⟩
          rw [hc] at hbn hst h48
          rw [hbn] at hnx
          have HSt := Lib.hid hst
          clear hst hbk0 hdk hc hbn
          have o1 : IntKind.i32.wrap (c - 48) = c - 48 := by rw [IntKind.wrap_i32]; omega
          by_cases hbig : 1099511627776 < 10 * n + (c - 48)
          · have hmin : 1099511627776 < min (10 * n + (c - 48)) 2199023255552 := by omega
            have hgt := numF_big (s := t) f3 _ (k + 1) hmin
            rw [← HSt.out] at hgt
            have hW := Below.alloc (Below.refl w.heap.size w) (Nat.le_refl _) (.stringIter t (k + 1))
            go_wp2_with fail
            go_ret2
            exact ⟨by rw [numV, if_pos (.inl hgt)]; rfl, hW⟩
          · go_wp2_with fail
            go_roundw
            case rel => exact ⟨k + 1, f3, 10 * n + (c - 48), by omega, by omega, by go_num, by omega, by rw [HSt.out]; congr 1; omega, rfl⟩
            case measure => simp; omega
        · have hnx := fun ty => run_next_end (P := Tryd.prog) w t k ty hlt
          have hend : digB t k = false := inB_ge hlt _ _
          have hn := numF_end (f := f) (n := n) hend
          rw [HNf.out] at hn
          have hW := Below.alloc (Below.refl w.heap.size w) (Nat.le_refl _) (.stringIter t k)
          go_wp2_with fail
          go_ret2
          refine ⟨?_, hW⟩
          rw [numV, if_neg (by rw [hn]; have := HOK.out; have := HB.out; omega), hn]; rfl
theorem toList_ne {t : ByteArray} (h : 0 < t.size) : t.toList.isEmpty = false := by
  have : t.toList.length = t.size := by rw [Go.ByteArray.toList_eq]; rfl
  rcases hl : t.toList with _ | ⟨x, xs⟩
  · rw [hl] at this; simp at this; omega
  · rfl
theorem noth_any (t : ByteArray) (w : World) (ht : t.size ≤ 100000) : Calls Tryd.prog 25 #[.string t] w fun e w' => e = .returned (.bool (decide (t.size = 0) || bAt t 0 == 35 || whiteC (bAt t 0))) ∧ w = w' := by
  by_cases h0 : t.size = 0
  · obtain rfl : t = ⟨#[]⟩ := by
      cases t with | mk d => exact congrArg ByteArray.mk (Array.size_eq_zero_iff.1 h0)
    go_enter Tryd.func25, Tryd.ntmps25
    go_wp2
    go_ret
    exact ⟨rfl, rfl⟩
  · have h1 : 0 < t.size := by omega
    have he := toList_ne h1
    have hb0 := bAt_get t 0 h1
    have hbd := bAt_bd t 0
    obtain ⟨b, hb⟩ : ∃ b, bAt t 0 = b := ⟨_, rfl⟩
    rw [hb] at hb0 hbd ⊢
    clear hb
    go_enter Tryd.func25, Tryd.ntmps25
    go_wp2_with (go_at_call 30; refine (white_any _ _).mono ?_; rintro e w' ⟨rfl, rfl⟩)
    all_goals go_ret
    · rename_i hb
      subst hb
      exact ⟨ret_bool (by simp), rfl⟩
    · rename_i hb
      exact ⟨ret_bool (by simp [h0, hb]), rfl⟩
end Go.Proofs.YtnipifccalalhaaDoor
