import Derived.Test.YtikpbgkjghcidaaRows
import Derived.Test.YtikpbgkjghcidaaBandsMath
import Derived.Test.YtikpbgkjghcidaaSlices
import Derived.Test.YtikpbgkjghcidaaStop
import Derived.Test.YtikpbgkjghcidaaOn
import Derived.BigQuiet
import Derived.Deep.QuietTactic
import Derived.Lib.MinMax
import Derived.Test.YtikpbgkjghcidaaMarginMath
/- The document's answers for package margin: a pen behind one step. (Written by program: tools/drafts/genmargin13.py.) -/
namespace Go.Proofs.Ytikpbgkjghcidaa
open Go.RowKit
set_option linter.unusedVariables false
set_option linter.unusedSimpArgs false
theorem wrap_far {a : Int} (h : -4611686018427387904 ≤ a ∧ a ≤ 4611686018427387904) : IntKind.i64.wrap a = a := IntWalk.i64_in _ (by omega)
theorem penb_open {k : Nat} {y m : Int} (h : PenB k (y, m)) (hk : k ≤ 1000) : (-2253051613689872384 ≤ y ∧ y ≤ 2253051613689872384) ∧ (-1125899906842624 ≤ m ∧ m ≤ 1125899906842624) := by
  obtain ⟨⟨h1, h2⟩, h3⟩ := h
  unfold NearI farB at h3
  simp only at h1 h2 h3
  omega
set_option maxHeartbeats 2000000 in
theorem renter_to {y m a d y' m' : Int} (hv : enterP (y, m) a d = (y', m')) {k : Nat} (hp : PenB k (y, m)) (hk : k ≤ 1000) (ha : NearI a) (hd : NearI d) (w : World) :
    Calls Try.prog 13 #[.agg #[.int .i64 y, .int .i64 m], .int .i64 a, .int .i64 d] w fun e w' => e = .returned (.agg #[.int .i64 y', .int .i64 m']) ∧ Below w.heap.size w w' := by
  obtain ⟨⟨y1, y2⟩, ⟨m1, m2⟩⟩ := penb_open hp hk
  obtain ⟨a1, a2⟩ := ha
  obtain ⟨d1, d2⟩ := hd
  unfold farB at a1 a2 d1 d2
  have HV := Lib.hid hv
  clear hv hp hk
  have hw1 : IntKind.i64.wrap (y + m) = y + m := wrap_far (by omega)
  have hw2 : IntKind.i64.wrap (y + m + d) = y + m + d := wrap_far (by omega)
  have hw3 : IntKind.i64.wrap (y + a) = y + a := wrap_far (by omega)
  have hw4 : IntKind.i64.wrap (y + a + d) = y + a + d := wrap_far (by omega)
  by_cases c1 : m < a
  · by_cases c2 : 0 < d
    · have HE := Lib.hid (show (y + a + d, 0) = (y', m') by rw [← HV.out]; unfold enterP raiseI; rw [if_pos c2, if_pos c1])
      go_enter Try.func13, Try.ntmps13
      go_wp2_with fail
      have he := HE.out
      injection he with e1 e2
      subst e1 e2
      exact bodyPost_ret (v := .agg #[.int .i64 (y + a + d), .int .i64 (0)]) (by simp [results, Try.results13, go_sem]) rfl ⟨rfl, by go_grown⟩
    · have c2n := Int.not_lt.1 c2
      have HE := Lib.hid (show (y, a) = (y', m') by rw [← HV.out]; unfold enterP raiseI; rw [if_neg c2, if_pos c1])
      go_enter Try.func13, Try.ntmps13
      go_wp2_with fail
      have he := HE.out
      injection he with e1 e2
      subst e1 e2
      exact bodyPost_ret (v := .agg #[.int .i64 (y), .int .i64 (a)]) (by simp [results, Try.results13, go_sem]) rfl ⟨rfl, by go_grown⟩
  · have c1n := Int.not_lt.1 c1
    by_cases c2 : 0 < d
    · have HE := Lib.hid (show (y + m + d, 0) = (y', m') by rw [← HV.out]; unfold enterP raiseI; rw [if_pos c2, if_neg c1])
      go_enter Try.func13, Try.ntmps13
      go_wp2_with fail
      have he := HE.out
      injection he with e1 e2
      subst e1 e2
      exact bodyPost_ret (v := .agg #[.int .i64 (y + m + d), .int .i64 (0)]) (by simp [results, Try.results13, go_sem]) rfl ⟨rfl, by go_grown⟩
    · have c2n := Int.not_lt.1 c2
      have HE := Lib.hid (show (y, m) = (y', m') by rw [← HV.out]; unfold enterP raiseI; rw [if_neg c2, if_neg c1])
      go_enter Try.func13, Try.ntmps13
      go_wp2_with fail
      have he := HE.out
      injection he with e1 e2
      subst e1 e2
      exact bodyPost_ret (v := .agg #[.int .i64 (y), .int .i64 (m)]) (by simp [results, Try.results13, go_sem]) rfl ⟨rfl, by go_grown⟩
set_option maxHeartbeats 2000000 in
theorem rleave_to {y m a d y' m' : Int} (hv : leaveP (y, m) a d = (y', m')) {k : Nat} (hp : PenB k (y, m)) (hk : k ≤ 1000) (ha : NearI a) (hd : NearI d) (w : World) :
    Calls Try.prog 15 #[.agg #[.int .i64 y, .int .i64 m], .int .i64 a, .int .i64 d] w fun e w' => e = .returned (.agg #[.int .i64 y', .int .i64 m']) ∧ Below w.heap.size w w' := by
  obtain ⟨⟨y1, y2⟩, ⟨m1, m2⟩⟩ := penb_open hp hk
  obtain ⟨a1, a2⟩ := ha
  obtain ⟨d1, d2⟩ := hd
  unfold farB at a1 a2 d1 d2
  have HV := Lib.hid hv
  clear hv hp hk
  have hw1 : IntKind.i64.wrap (y + m) = y + m := wrap_far (by omega)
  have hw2 : IntKind.i64.wrap (y + m + d) = y + m + d := wrap_far (by omega)
  have hw3 : IntKind.i64.wrap (y + a) = y + a := wrap_far (by omega)
  have hw4 : IntKind.i64.wrap (y + a + d) = y + a + d := wrap_far (by omega)
  by_cases c1 : 0 < d
  · by_cases c2 : 0 < a
    · have HE := Lib.hid (show (y + m + d, a) = (y', m') by rw [← HV.out]; unfold leaveP raiseI; rw [if_pos c1, if_pos c2])
      go_enter Try.func15, Try.ntmps15
      go_wp2_with fail
      have he := HE.out
      injection he with e1 e2
      subst e1 e2
      exact bodyPost_ret (v := .agg #[.int .i64 (y + m + d), .int .i64 (a)]) (by simp [results, Try.results15, go_sem]) rfl ⟨rfl, by go_grown⟩
    · have c2n := Int.not_lt.1 c2
      have HE := Lib.hid (show (y + m + d, 0) = (y', m') by rw [← HV.out]; unfold leaveP raiseI; rw [if_pos c1, if_neg c2])
      go_enter Try.func15, Try.ntmps15
      go_wp2_with fail
      have he := HE.out
      injection he with e1 e2
      subst e1 e2
      exact bodyPost_ret (v := .agg #[.int .i64 (y + m + d), .int .i64 (0)]) (by simp [results, Try.results15, go_sem]) rfl ⟨rfl, by go_grown⟩
  · have c1n := Int.not_lt.1 c1
    by_cases c2 : m < a
    · have HE := Lib.hid (show (y, a) = (y', m') by rw [← HV.out]; unfold leaveP raiseI; rw [if_neg c1, if_pos c2])
      go_enter Try.func15, Try.ntmps15
      go_wp2_with fail
      have he := HE.out
      injection he with e1 e2
      subst e1 e2
      exact bodyPost_ret (v := .agg #[.int .i64 (y), .int .i64 (a)]) (by simp [results, Try.results15, go_sem]) rfl ⟨rfl, by go_grown⟩
    · have c2n := Int.not_lt.1 c2
      have HE := Lib.hid (show (y, m) = (y', m') by rw [← HV.out]; unfold leaveP raiseI; rw [if_neg c1, if_neg c2])
      go_enter Try.func15, Try.ntmps15
      go_wp2_with fail
      have he := HE.out
      injection he with e1 e2
      subst e1 e2
      exact bodyPost_ret (v := .agg #[.int .i64 (y), .int .i64 (m)]) (by simp [results, Try.results15, go_sem]) rfl ⟨rfl, by go_grown⟩
set_option maxHeartbeats 2000000 in
theorem rclear_to {y m a y' m' : Int} (hv : clearP (y, m) a = (y', m')) {k : Nat} (hp : PenB k (y, m)) (hk : k ≤ 1000) (ha : NearI a) (w : World) :
    Calls Try.prog 17 #[.agg #[.int .i64 y, .int .i64 m], .int .i64 a] w fun e w' => e = .returned (.agg #[.int .i64 y', .int .i64 m']) ∧ Below w.heap.size w w' := by
  obtain ⟨⟨y1, y2⟩, ⟨m1, m2⟩⟩ := penb_open hp hk
  obtain ⟨a1, a2⟩ := ha
  unfold farB at a1 a2
  have HV := Lib.hid hv
  clear hv hp hk
  have hw1 : IntKind.i64.wrap (y + m) = y + m := wrap_far (by omega)
  by_cases c1 : y + m < a
  · have HE := Lib.hid (show (a, 0) = (y', m') by rw [← HV.out]; unfold clearP; rw [if_pos c1])
    go_enter Try.func17, Try.ntmps17
    go_wp2_with fail
    have he := HE.out
    injection he with e1 e2
    subst e1 e2
    exact bodyPost_ret (v := .agg #[.int .i64 (a), .int .i64 (0)]) (by simp [results, Try.results17, go_sem]) rfl ⟨rfl, by go_grown⟩
  · have c1n := Int.not_lt.1 c1
    have HE := Lib.hid (show (y, m) = (y', m') by rw [← HV.out]; unfold clearP; rw [if_neg c1])
    go_enter Try.func17, Try.ntmps17
    go_wp2_with fail
    have he := HE.out
    injection he with e1 e2
    subst e1 e2
    exact bodyPost_ret (v := .agg #[.int .i64 (y), .int .i64 (m)]) (by simp [results, Try.results17, go_sem]) rfl ⟨rfl, by go_grown⟩
end Go.Proofs.Ytikpbgkjghcidaa
