import Derived.Test.YtipmdhfinlkceaaJW27
import Derived.Test.YtipmdhfinlkceaaJW10
import Derived.Test.YtipmdhfinlkceaaJW16
/- AtomsWithinW, AtomsWithinL. -/
set_option linter.unusedVariables false
set_option linter.unusedSimpArgs false
namespace Go.Proofs.Ytipmdhfinlkceaa
open Go.RowKit
set_option maxHeartbeats 8000000 in
set_option maxRecDepth 100000 in
theorem atomswithin_all {L : List Nd} {l : List Am} {a : Int} {A2 : Option Addr} {nn cn : Nat} {A : Option Addr} {n c : Nat} {w : World} (hS : Sees w A2 nn L) (h : Rows 8 encAm w A n l) :
    Calls Try.prog 3 #[.slice A2 nn cn, .slice A n c, .int .i64 a] w fun e w' => e = .returned (.bool true) ∧ Below w.heap.size w w' := by
  have HS := Lib.hid hS
  have HR := Lib.hid h
  have hnb := hS.bound
  have hlb := h.2.1
  have hll := h.len
  clear hS h
  by_cases h1 : 100 < nn
  · have h2 : (100 : Int) < (nn : Int) := by omega
    go_enter Try.func3, Try.ntmps3
    go_wp2_with fail
    refine (awake15_any _).mono ?_
    rintro e w9 ⟨rfl, hb⟩
    go_wp2_with fail
    go_ret
    exact ⟨rfl, hb⟩
  have h2 : (nn : Int) ≤ 100 := by omega
  by_cases h3 : 300 < n
  · have h4 : (300 : Int) < (n : Int) := by omega
    go_enter Try.func3, Try.ntmps3
    go_wp2_with fail
    refine (awake15_any _).mono ?_
    rintro e w9 ⟨rfl, hb⟩
    go_wp2_with fail
    go_ret
    exact ⟨rfl, hb⟩
  have h4 : (n : Int) ≤ 300 := by omega
  go_enter Try.func3, Try.ntmps3
  go_wp2_with fail
  refine (rnear15_to HR.out).mono ?_
  rintro e w1 ⟨v, rfl, hv, hb1⟩
  have HO1 := Lib.hid (show On w w1 from hb1)
  clear hb1
  cases v with
  | false =>
    go_wp2_with fail
    refine (awake15_any _).mono ?_
    rintro e w9 ⟨rfl, hb⟩
    go_wp2_with fail
    go_ret
    exact ⟨rfl, below_then HO1.out hb⟩
  | true =>
  have HN := Lib.hid (hv rfl)
  clear hv
  go_wp2_with fail
  obtain ⟨u, hu⟩ : ∃ u, docB L = u := ⟨_, rfl⟩
  refine (vIs_to hu (HS.out.on HO1.out)).mono ?_
  rintro e w2 ⟨rfl, hb2⟩
  have HO2 := Lib.hid (HO1.out.step hb2)
  clear hb2
  cases u with
  | false =>
    go_wp2_with fail
    refine (awake15_any _).mono ?_
    rintro e w9 ⟨rfl, hb⟩
    go_wp2_with fail
    go_ret
    exact ⟨rfl, below_then HO2.out hb⟩
  | true =>
  have HD := Lib.hid ((docB_iff L).1 hu).2.nested
  have HRS := Lib.hid (show Rising l from (show NearTo l l.length by rw [hll]; exact HN.out).rising)
  obtain ⟨⟨p, q⟩, hpq⟩ : ∃ r, wthI L l a = r := ⟨_, rfl⟩
  have HPQ := Lib.hid hpq
  clear hu hpq
  go_wp2_with fail
  refine (awithin_to (cn := cn) (c := c) HRS.out HD.out HPQ.out (HS.out.on HO2.out) (HR.out.on HO2.out) (by omega) (by omega)).mono ?_
  rintro e w3 ⟨rfl, hb3⟩
  have HO3 := Lib.hid (HO2.out.step hb3)
  clear hb3
  go_wp2_with fail
  refine (rwithin15_to (cn := cn) (c := c) HRS.out HD.out HPQ.out (HS.out.on HO3.out) (HR.out.on HO3.out) (by omega) (by omega)).mono ?_
  rintro e w4 ⟨rfl, hb4⟩
  have HO4 := Lib.hid (HO3.out.step hb4)
  clear hb4
  have hp : (p == p) = true := by simp
  have hq : (q == q) = true := by simp
  go_wp2_with fail
  refine (awake15_any _).mono ?_
  rintro e w9 ⟨rfl, hb⟩
  go_wp2_with fail
  go_ret
  exact ⟨rfl, below_then HO4.out hb⟩
theorem atomswithin_law (A2 : Option Addr) (nn cn : Nat) (L : List Nd) (hc : nn ≤ cn ∧ cn ≤ 9223372036854775807) (A : Option Addr) (n c : Nat) (l : List Am) (a : Int) (ha : -9223372036854775808 ≤ a ∧ a ≤ 9223372036854775807) (w : World) (hS : Sees w A2 nn L) (h : Rows 8 encAm w A n l) :
    Calls Try.prog 3 #[.slice A2 nn cn, .slice A n c, .int .i64 a] w fun e w' => e = .returned (.bool true) ∧ Below w.heap.size w w' := atomswithin_all hS h
end Go.Proofs.Ytipmdhfinlkceaa
