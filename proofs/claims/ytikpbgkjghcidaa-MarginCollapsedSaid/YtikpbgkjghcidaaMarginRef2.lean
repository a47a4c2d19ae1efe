import Derived.Test.YtikpbgkjghcidaaMarginRef
import Derived.BigQuiet
import Derived.Deep.QuietTactic
/- The document's answers for package margin: near numbers, the same numbers. (Written by program: tools/drafts/genmarginrun.py.) -/
namespace Go.Proofs.Ytikpbgkjghcidaa
open Go.RowKit
set_option linter.unusedVariables false
set_option linter.unusedSimpArgs false
theorem ints_get {w : World} {A : Option Addr} {n : Nat} {zs : List Int} (h : Ints w A n zs) {k : Nat} (hk : k < n) : ∃ b off z, A = some ⟨b, off, none⟩ ∧ zs[k]? = some z ∧ w.cell? ⟨b, off + k, none⟩ = some (.int .i64 z) := by
  obtain ⟨b, off, hA, hc⟩ := h.at_ hk
  have hkz : zs[k]? = some (zs[k]'(by rw [h.1]; exact hk)) := List.getElem?_eq_getElem _
  rw [hkz] at hc
  exact ⟨b, off, _, hA, hkz, hc⟩
set_option maxHeartbeats 1000000 in
set_option maxRecDepth 100000 in
theorem rnear13_to {zs : List Int} {v : Bool} (hv : allNearB zs = v) {A : Option Addr} {n c : Nat} {w : World} (h : Ints w A n zs) :
    Calls Try.prog 6 #[.slice A n c] w fun e w' => e = .returned (.bool v) ∧ w = w' := by
  have HA := Lib.hid h
  have HN := Lib.hid h.1
  have hnb := h.2.1
  have HV := Lib.hid hv
  clear h hv
  go_enter Try.func6, Try.ntmps6
  go_wp2_with fail
  go_loopw [3] (fun i wr => ∃ k : Nat, i = .int .i64 (k : Int) ∧ k ≤ n ∧ Hid (∀ (j : Nat) (z : Int), j < k → zs[j]? = some z → NearI z) ∧ wr = w) (fun i _ => n - (intOf i).toNat)
  case atStart => exact ⟨0, rfl, Nat.zero_le _, Lib.hid (fun j z hj => by omega), rfl⟩
  case round =>
    obtain ⟨k, rfl, hkn, HK, rfl⟩ := hrel
    by_cases hlt : k < n
    · have hlt2 : (k : Int) < (n : Int) := by omega
      obtain ⟨b, off, z, rfl, hz, hc⟩ := ints_get HA.out hlt
      have HZ := Lib.hid hz
      have HM := Lib.hid (List.mem_of_getElem? hz)
      clear hz
      by_cases hz2 : 1125899906842624 < z
      · have HV2 := Lib.hid (show false = v by rw [← HV.out]; exact (allNearB_no (fun q => by have := (q z HM.out).2; unfold farB at this; omega)).symm)
        go_wp2_with fail
        go_ret
        exact ⟨ret_bool HV2.out, rfl⟩
      have hz3 : z ≤ 1125899906842624 := by omega
      by_cases hz1 : z < -1125899906842624
      · have HV2 := Lib.hid (show false = v by rw [← HV.out]; exact (allNearB_no (fun q => by have := (q z HM.out).1; unfold farB at this; omega)).symm)
        go_wp2_with fail
        go_ret
        exact ⟨ret_bool HV2.out, rfl⟩
      have hz4 : -1125899906842624 ≤ z := by omega
      go_wp2_with fail
      go_roundw
      case rel => exact ⟨k + 1, by go_num, by omega, Lib.hid (fun j y hj hy => by
        rcases Nat.lt_or_ge j k with h | h
        · exact HK.out j y h hy
        · obtain rfl : j = k := by omega
          rw [HZ.out] at hy
          injection hy with hy
          subst hy
          unfold NearI farB; omega), by first | rfl | trivial⟩
      case measure => simp [intOf] <;> omega
    · have hge : (n : Int) ≤ (k : Int) := by omega
      have HV2 := Lib.hid (show true = v by
        rw [← HV.out]
        refine (allNearB_iff.2 (fun z hz => ?_)).symm
        obtain ⟨j, hj, rfl⟩ := List.getElem_of_mem hz
        exact HK.out j _ (by have := HN.out; omega) (List.getElem?_eq_getElem hj))
      go_wp2_with fail
      go_ret
      exact ⟨ret_bool HV2.out, rfl⟩
set_option maxHeartbeats 1000000 in
set_option maxRecDepth 100000 in
theorem rnumbers_to {zs ys : List Int} {v : Bool} (hv : decide (zs = ys) = v) {A A2 : Option Addr} {n c m c2 : Nat} {w : World} (h : Ints w A n zs) (h2 : Ints w A2 m ys) :
    Calls Try.prog 10 #[.slice A n c, .slice A2 m c2] w fun e w' => e = .returned (.bool v) ∧ Below w.heap.size w w' := by
  have HA := Lib.hid h
  have HN := Lib.hid h.1
  have hnb := h.2.1
  have HA2 := Lib.hid h2
  have HM := Lib.hid h2.1
  have hmb := h2.2.1
  have HV := Lib.hid hv
  clear h h2 hv
  by_cases hnm : n = m
  · subst hnm
    have hne : ((n : Int) != (n : Int)) = false := by simp
    go_enter Try.func10, Try.ntmps10
    go_wp2_with fail
    go_loopw [5] (fun i wr => ∃ k : Nat, i = .int .i64 (k : Int) ∧ k ≤ n ∧ Hid (∀ j : Nat, j < k → zs[j]? = ys[j]?) ∧ ∃ q : Nat, wr = w.drewN q) (fun i _ => n - (intOf i).toNat)
    case atStart => exact ⟨0, rfl, Nat.zero_le _, Lib.hid (fun j hj => by omega), 0, rfl⟩
    case round =>
      obtain ⟨k, rfl, hkn, HK, q, rfl⟩ := hrel
      by_cases hlt : k < n
      · have hlt2 : (k : Int) < (n : Int) := by omega
        obtain ⟨b, off, z, rfl, hz, hc⟩ := ints_get HA.out hlt
        obtain ⟨b2, off2, y, rfl, hy, hc2⟩ := ints_get HA2.out hlt
        have HZ := Lib.hid hz
        have HY := Lib.hid hy
        clear hz hy
        by_cases hzy : z = y
        · subst hzy
          have hzz : (z != z) = false := by simp
          go_wp2_with fail
          go_quiet (fail)
          go_wp2_with fail
          go_roundw
          case rel => exact ⟨k + 1, by go_num, by omega, Lib.hid (fun j hj => by
            rcases Nat.lt_or_ge j k with h | h
            · exact HK.out j h
            · obtain rfl : j = k := by omega
              rw [HZ.out, HY.out]), _, rfl⟩
          case measure => simp [intOf] <;> omega
        · have hzz : (z != y) = true := by simpa using hzy
          have HV2 := Lib.hid (show false = v by
            rw [← HV.out]
            symm
            rw [decide_eq_false_iff_not]
            intro q
            have h1 := HZ.out
            rw [q, HY.out] at h1
            injection h1 with h1
            exact hzy h1.symm)
          clear hzy
          go_wp2_with fail
          go_quiet (fail)
          go_wp2_with fail
          go_ret
          exact ⟨ret_bool HV2.out, below_drewN (below_drewN (Below.refl _ _) _) _⟩
      · have hge : (n : Int) ≤ (k : Int) := by omega
        have HV2 := Lib.hid (show true = v by
          rw [← HV.out]
          symm
          rw [decide_eq_true_iff]
          refine List.ext_getElem? (fun j => ?_)
          rcases Nat.lt_or_ge j k with h | h
          · exact HK.out j h
          · rw [List.getElem?_eq_none (by have := HN.out; omega), List.getElem?_eq_none (by have := HM.out; omega)])
        go_wp2_with fail
        go_ret
        exact ⟨ret_bool HV2.out, below_drewN (Below.refl _ _) q⟩
  · have hne : ((n : Int) != (m : Int)) = true := by
      simp only [bne_iff_ne, ne_eq]
      omega
    have HV2 := Lib.hid (show false = v by
      rw [← HV.out]
      symm
      rw [decide_eq_false_iff_not]
      intro q
      have h1 := HN.out
      rw [q, HM.out] at h1
      exact hnm h1.symm)
    clear hnm
    go_enter Try.func10, Try.ntmps10
    go_wp2_with fail
    go_ret
    exact ⟨ret_bool HV2.out, Below.refl _ _⟩
end Go.Proofs.Ytikpbgkjghcidaa
