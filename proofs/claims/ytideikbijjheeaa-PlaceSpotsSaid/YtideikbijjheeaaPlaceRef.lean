import Derived.Test.YtideikbijjheeaaBandsRef4
import Derived.Test.YtideikbijjheeaaPlaceMath
/- The document's answers for package place: where a float goes. -/
namespace Go.Proofs.Ytideikbijjheeaa
open Go.RowKit
set_option linter.unusedVariables false
set_option linter.unusedSimpArgs false
theorem rnone_any (a b : Int) (w : World) : Calls Try.prog 21 #[.agg #[.int .i64 a, .int .i64 b]] w fun e w' => e = .returned (.bool (decide (b ≤ a))) ∧ Below w.heap.size w w' := by
  go_enter Try.func21, Try.ntmps21
  go_wp2_with fail
  go_ret
  exact ⟨rfl, by go_grown⟩
theorem rlen_to {a b v : Int} (hv : lenW a b = v) (ha : NearY a) (hb : NearY b) (w : World) : Calls Try.prog 14 #[.agg #[.int .i64 a, .int .i64 b]] w fun e w' => e = .returned (.int .i64 v) ∧ Below w.heap.size w w' := by
  obtain ⟨a1, a2⟩ := ha
  obtain ⟨b1, b2⟩ := hb
  unfold farB at a1 a2 b1 b2
  have hw : IntKind.i64.wrap (b - a) = b - a := IntWalk.i64_in _ (by omega)
  have HX := Lib.hid (Box.new2 w (.int .i64 a) (.int .i64 b) 26)
  unfold lenW at hv
  by_cases h : b ≤ a
  · rw [if_pos h] at hv
    have HV := Lib.hid hv
    clear hv
    go_enter Try.func14, Try.ntmps14
    go_wp2_with fail
    refine (rnone_any _ _ _).mono ?_
    rintro e w1 ⟨rfl, hb⟩
    have HB := Lib.hid (below_then (show Below w.heap.size w _ by go_grown) hb)
    clear hb
    go_wp2_with fail
    go_ret
    exact ⟨ret_int HV.out, HB.out⟩
  · rw [if_neg h] at hv
    have HV := Lib.hid hv
    have h2 : a < b := by omega
    clear hv
    go_enter Try.func14, Try.ntmps14
    go_wp2_with fail
    refine (rnone_any _ _ _).mono ?_
    rintro e w1 ⟨rfl, hb⟩
    have HB := Lib.hid (below_then (show Below w.heap.size w _ by go_grown) hb)
    obtain ⟨c0, c1, _, _, _⟩ := (HX.out.below hb).of2
    clear hb
    go_wp2_with fail
    go_ret
    exact ⟨ret_int HV.out, HB.out⟩
end Go.Proofs.Ytideikbijjheeaa
