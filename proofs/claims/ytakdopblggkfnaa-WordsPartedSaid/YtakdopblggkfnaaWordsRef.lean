import Derived.Test.YtakdopblggkfnaaRows
import Derived.Test.YtakdopblggkfnaaWordsMath
import Derived.Test.YtakdopblggkfnaaSlices
import Derived.Test.YtakdopblggkfnaaStop
import Derived.Test.YtakdopblggkfnaaOn
import Derived.BigQuiet
import Derived.Deep.QuietTactic
/- The document's answers for package words: numbers that are near, how wide a run is. -/
namespace Go.Proofs.Ytakdopblggkfnaa
open Go.RowKit
set_option linter.unusedVariables false
set_option linter.unusedSimpArgs false
def I64w (a : Int) : Prop := -9223372036854775808 ≤ a ∧ a ≤ 9223372036854775807
/-- numbers that are near. -/
def nearB (zs : List Int) (sp wd : Int) : Bool := decide (0 ≤ sp) && decide (sp ≤ farN) && decide (0 ≤ wd) && decide (wd ≤ farN) && zs.all fun z => decide (0 ≤ z) && decide (z ≤ farN)
theorem nearB_iff {zs : List Int} {sp wd : Int} : nearB zs sp wd = true ↔ Near9 zs sp ∧ 0 ≤ wd ∧ wd ≤ farN := by
  unfold nearB Near9
  simp only [Bool.and_eq_true, decide_eq_true_eq, List.all_eq_true]
  constructor
  · rintro ⟨⟨⟨⟨h1, h2⟩, h3⟩, h4⟩, h5⟩
    exact ⟨⟨⟨h1, h2⟩, h5⟩, h3, h4⟩
  · rintro ⟨⟨⟨h1, h2⟩, h5⟩, h3, h4⟩
    exact ⟨⟨⟨⟨h1, h2⟩, h3⟩, h4⟩, h5⟩
theorem nearB_no {zs : List Int} {sp wd : Int} (h : ¬ (Near9 zs sp ∧ 0 ≤ wd ∧ wd ≤ farN)) : nearB zs sp wd = false := by
  rcases hq : nearB zs sp wd with _ | _
  · rfl
  · exact absurd (nearB_iff.1 hq) h
set_option maxHeartbeats 1000000 in
set_option maxRecDepth 100000 in
theorem rnear_to {zs : List Int} {sp wd : Int} {v : Bool} (hv : nearB zs sp wd = v) {A : Option Addr} {n c : Nat} {w : World} (h : Ints w A n zs) :
    Calls Try.prog 6 #[.slice A n c, .int .i64 sp, .int .i64 wd] w fun e w' => e = .returned (.bool v) ∧ w = w' := by
  have HA := Lib.hid h
  have HN := Lib.hid h.1
  have hnb := h.2.1
  clear h
  by_cases h1 : sp < 0
  · have HV := Lib.hid (show false = v by rw [← hv]; exact (nearB_no (fun q => by have := q.1.1.1; omega)).symm)
    clear hv
    go_enter Try.func6, Try.ntmps6
    go_wp2_with fail
    go_ret
    exact ⟨ret_bool HV.out, rfl⟩
  by_cases h2 : 35184372088832 < sp
  · have HV := Lib.hid (show false = v by rw [← hv]; exact (nearB_no (fun q => by have := q.1.1.2; unfold farN at this; omega)).symm)
    clear hv
    go_enter Try.func6, Try.ntmps6
    go_wp2_with fail
    go_ret
    exact ⟨ret_bool HV.out, rfl⟩
  by_cases h3 : wd < 0
  · have HV := Lib.hid (show false = v by rw [← hv]; exact (nearB_no (fun q => by have := q.2.1; omega)).symm)
    clear hv
    go_enter Try.func6, Try.ntmps6
    go_wp2_with fail
    go_ret
    exact ⟨ret_bool HV.out, rfl⟩
  by_cases h4 : 35184372088832 < wd
  · have HV := Lib.hid (show false = v by rw [← hv]; exact (nearB_no (fun q => by have := q.2.2; unfold farN at this; omega)).symm)
    clear hv
    go_enter Try.func6, Try.ntmps6
    go_wp2_with fail
    go_ret
    exact ⟨ret_bool HV.out, rfl⟩
  have HV := Lib.hid hv
  clear hv
  go_enter Try.func6, Try.ntmps6
  go_wp2_with fail
  go_loopw [7] (fun i wr => ∃ k : Nat, i = .int .i64 (k : Int) ∧ k ≤ n ∧ Hid (∀ j : Nat, j < k → 0 ≤ zs[j]?.getD 0 ∧ zs[j]?.getD 0 ≤ farN) ∧ wr = w) (fun i _ => n - (intOf i).toNat)
  case atStart => exact ⟨0, rfl, Nat.zero_le _, Lib.hid (fun j hj => by omega), rfl⟩
  case round =>
    obtain ⟨k, rfl, hkn, HK, rfl⟩ := hrel
    by_cases hlt : k < n
    · have hlt2 : (k : Int) < (n : Int) := by omega
      obtain ⟨b, off, rfl, hc⟩ := HA.out.at_ hlt
      obtain ⟨z, hz⟩ : ∃ z, zs[k]?.getD 0 = z := ⟨_, rfl⟩
      rw [hz] at hc
      have HZ := Lib.hid hz
      have hkz : zs[k]? = some z := by
        have : zs[k]? = some (zs[k]'(by have := HN.out; omega)) := List.getElem?_eq_getElem _
        rw [this] at hz ⊢
        rw [← hz]; rfl
      have HM := Lib.hid (List.mem_of_getElem? hkz)
      clear hz hkz
      by_cases hz1 : z < 0
      · have HV2 := Lib.hid (show false = v by rw [← HV.out]; exact (nearB_no (fun q => by have := (q.1.2 z HM.out).1; omega)).symm)
        go_wp2_with fail
        go_ret
        exact ⟨ret_bool HV2.out, rfl⟩
      by_cases hz2 : 35184372088832 < z
      · have HV2 := Lib.hid (show false = v by rw [← HV.out]; exact (nearB_no (fun q => by have := (q.1.2 z HM.out).2; unfold farN at this; omega)).symm)
        go_wp2_with fail
        go_ret
        exact ⟨ret_bool HV2.out, rfl⟩
      go_wp2_with fail
      go_roundw
      case rel => exact ⟨k + 1, by go_num, by omega, Lib.hid (fun j hj => by
        rcases Nat.lt_or_ge j k with h | h
        · exact HK.out j h
        · obtain rfl : j = k := by omega
          rw [HZ.out]; unfold farN; omega), by first | rfl | trivial⟩
      case measure => simp [intOf] <;> omega
    · have hge : (n : Int) ≤ (k : Int) := by omega
      have HV2 := Lib.hid (show true = v by
        rw [← HV.out]
        refine (nearB_iff.2 ⟨⟨⟨by omega, by unfold farN; omega⟩, fun z hz => ?_⟩, by omega, by unfold farN; omega⟩).symm
        obtain ⟨j, hj, rfl⟩ := List.getElem_of_mem hz
        have := HK.out j (by have := HN.out; omega)
        rw [List.getElem?_eq_getElem hj] at this
        exact this)
      go_wp2_with fail
      go_ret
      exact ⟨ret_bool HV2.out, rfl⟩
theorem wideI_bad {zs : List Int} {sp a b : Int} (h : a < 0 ∨ (zs.length : Int) ≤ a ∨ b ≤ a ∨ (zs.length : Int) < b) : wideI zs sp a b = 0 := by
  unfold wideI
  split
  · unfold wideN
    rw [if_neg (by omega)]
  · rfl
theorem wideI_nat {zs : List Int} {sp : Int} {a b : Nat} : wideI zs sp (a : Int) (b : Int) = wideN zs sp a b := by
  unfold wideI
  rw [if_pos ⟨by omega, by omega⟩, Int.toNat_natCast, Int.toNat_natCast]
set_option maxHeartbeats 1000000 in
set_option maxRecDepth 100000 in
theorem rwide_to {zs : List Int} {sp a b v : Int} (hv : wideI zs sp a b = v) (hn : Near9 zs sp) (ha : I64w a) (hb : I64w b) {A : Option Addr} {n c : Nat} (hn2 : n ≤ 1000) {w : World} (h : Ints w A n zs) :
    Calls Try.prog 9 #[.slice A n c, .int .i64 sp, .int .i64 a, .int .i64 b] w fun e w' => e = .returned (.int .i64 v) ∧ w = w' := by
  have HA := Lib.hid h
  have HN := Lib.hid h.1
  have hl := h.1
  clear h
  obtain ⟨ha1, ha2⟩ := ha
  obtain ⟨hb1, hb2⟩ := hb
  by_cases h1 : a < 0
  · have HV := Lib.hid (show 0 = v by rw [← hv]; exact (wideI_bad (by omega)).symm)
    clear hv hl
    go_enter Try.func9, Try.ntmps9
    go_wp2_with fail
    go_ret
    exact ⟨ret_int HV.out, rfl⟩
  by_cases h2 : (n : Int) ≤ a
  · have HV := Lib.hid (show 0 = v by rw [← hv]; exact (wideI_bad (by omega)).symm)
    clear hv hl
    go_enter Try.func9, Try.ntmps9
    go_wp2_with fail
    go_ret
    exact ⟨ret_int HV.out, rfl⟩
  by_cases h3 : b ≤ a
  · have HV := Lib.hid (show 0 = v by rw [← hv]; exact (wideI_bad (by omega)).symm)
    clear hv hl
    go_enter Try.func9, Try.ntmps9
    go_wp2_with fail
    go_ret
    exact ⟨ret_int HV.out, rfl⟩
  by_cases h4 : (n : Int) < b
  · have HV := Lib.hid (show 0 = v by rw [← hv]; exact (wideI_bad (by omega)).symm)
    clear hv hl
    go_enter Try.func9, Try.ntmps9
    go_wp2_with fail
    go_ret
    exact ⟨ret_int HV.out, rfl⟩
  obtain ⟨i, rfl⟩ : ∃ i : Nat, a = (i : Int) := ⟨a.toNat, by omega⟩
  obtain ⟨j, rfl⟩ : ∃ j : Nat, b = (j : Int) := ⟨b.toNat, by omega⟩
  have hij : i < j := by omega
  have hjn : j ≤ n := by omega
  rw [wideI_nat] at hv
  unfold wideN at hv
  rw [if_pos ⟨hij, by omega⟩] at hv
  obtain ⟨⟨sp0, sp1⟩, _⟩ := id hn
  unfold farN at sp1
  have hx0 : 0 ≤ ((j : Int) - i - 1) * sp := Int.mul_nonneg (by omega) sp0
  have hx1 : ((j : Int) - i - 1) * sp ≤ 1000 * 35184372088832 := by
    refine Int.le_trans (Int.mul_le_mul_of_nonneg_left sp1 (by omega)) (Int.mul_le_mul_of_nonneg_right (by omega) (by omega))
  have hwx : IntKind.i64.wrap (((j : Int) - i - 1) * sp) = ((j : Int) - i - 1) * sp := IntWalk.i64_in _ (by omega)
  have HV := Lib.hid hv
  have HNE := Lib.hid hn
  have HX1 := Lib.hid hx0
  have HX2 := Lib.hid hx1
  clear hv hn hl h1 h2 h3 h4 hx0 hx1
  go_enter Try.func9, Try.ntmps9
  go_wp2_with fail
  go_loopw [9, 10] (fun s i' wr => ∃ (k : Nat) (t : Int), s = .int .i64 t ∧ i' = .int .i64 ((i + k : Nat) : Int) ∧ i + k ≤ j ∧ Hid (t = ((j : Int) - i - 1) * sp + sumK zs i k) ∧ wr = w) (fun _ i' _ => j - (intOf i').toNat)
  case atStart => exact ⟨0, _, rfl, by rfl, by omega, Lib.hid (by unfold sumK; rw [Int.add_zero]), rfl⟩
  case round =>
    obtain ⟨k, t, rfl, rfl, hkj, HT, rfl⟩ := hrel
    by_cases hlt : i + k < j
    · have hlt2 : ((i + k : Nat) : Int) < (j : Int) := by omega
      have hltn : ((i + k : Nat) : Int) < (n : Int) := by omega
      obtain ⟨b', off, rfl, hc⟩ := HA.out.at_ (show i + k < n by omega)
      obtain ⟨z, hz⟩ : ∃ z, zs[i + k]?.getD 0 = z := ⟨_, rfl⟩
      rw [hz] at hc
      have hzb := word_bd HNE.out (i + k)
      have hsb := sumK_bd HNE.out i k
      have HT2 := Lib.hid (show t + z = ((j : Int) - i - 1) * sp + sumK zs i (k + 1) by rw [HT.out, sumK, Int.add_assoc]; congr 1; rw [← hz]; rfl)
      have ht0 : 0 ≤ t := by rw [HT.out]; have := HX1.out; omega
      have ht1 : t ≤ 2000 * 35184372088832 := by
        rw [HT.out]
        have h1 := HX2.out
        have h2 : (k : Int) * farN ≤ 1000 * farN := Int.mul_le_mul_of_nonneg_right (by omega) (by unfold farN; omega)
        unfold farN at *
        omega
      unfold wordI at hzb
      rw [hz] at hzb
      obtain ⟨hz0, hz1⟩ := hzb
      unfold farN at hz1
      clear hz hsb
      go_wp2_with fail
      go_roundw
      case rel => exact ⟨k + 1, t + z, rfl, by go_num, by omega, HT2, by first | rfl | trivial⟩
      case measure => simp [intOf] <;> omega
    · have hge : (j : Int) ≤ ((i + k : Nat) : Int) := by omega
      have HV2 := Lib.hid (show t = v by rw [HT.out, ← HV.out, show j - i = k by omega])
      go_wp2_with fail
      go_ret
      exact ⟨ret_int HV2.out, rfl⟩
end Go.Proofs.Ytakdopblggkfnaa
