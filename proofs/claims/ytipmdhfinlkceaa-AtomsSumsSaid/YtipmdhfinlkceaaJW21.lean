import Derived.Test.YtipmdhfinlkceaaJW20
/- ValidRefChk. -/
set_option linter.unusedVariables false
set_option linter.unusedSimpArgs false
namespace Go.Proofs.Ytipmdhfinlkceaa
open Go.RowKit
set_option maxHeartbeats 8000000 in
set_option maxRecDepth 100000 in
theorem vCheck_to {l : List Nd} {f : Int} (ha : chkV l = f) {A : Option Addr} {n ca : Nat} {w : World} (h : PreV l w A n) (hW : ∀ x ∈ l, x.words.length ≤ 100000) : Calls Try.prog 25 #[.slice A n ca] w fun e w' => e = .returned (.int .i64 f) ∧ Below w.heap.size w w' := by
  obtain ⟨⟨s, g⟩, hs⟩ : ∃ a, ansV l = a := ⟨_, rfl⟩
  have HS := Lib.hid hs
  have H := Lib.hid h
  have HW := Lib.hid hW
  have hc : (g = 0 ∧ f = if decide (16 < s.depth) || decide (2000 < s.pieces) || decide (2000 < s.nodes) || decide (1099511627776 < s.heights) then 2 else 0) ∨ (g = 4 ∧ f = 4) := by
    rcases ansV_err hs with ⟨e1, e2, e3⟩ | ⟨e1, e2, e3⟩
    · refine .inl ⟨e1, ?_⟩
      rw [← ha]; unfold chkV overB; rw [if_pos e2, e3]
    · refine .inr ⟨e1, ?_⟩
      rw [← ha]; unfold chkV; rw [if_neg (by rw [e2]; decide)]
  clear hs h hW ha
  obtain ⟨s0, s1, s2, s3⟩ := s
  simp only at hc
  rcases hc with ⟨rfl, hf⟩ | ⟨rfl, rfl⟩
  rotate_left
  · go_enter Try.func25, Try.ntmps25
    go_wp2_with fail
    refine (vCount_to HS.out H.out HW.out).mono ?_
    rintro e w1 ⟨rfl, hb⟩
    have HB := Lib.hid hb
    clear hb
    go_wp2_with fail
    go_ret
    exact ⟨rfl, HB.out.alloc (by have := HB.out.size; omega) _⟩
  have HF := Lib.hid hf
  clear hf
  go_enter Try.func25, Try.ntmps25
  go_wp2_with fail
  refine (vCount_to HS.out H.out HW.out).mono ?_
  rintro e w1 ⟨rfl, hb⟩
  simp only
  have HB := Lib.hid hb
  have HBB := Lib.hid (show Below w.heap.size w (w1.alloc (.cells #[.int .i64 s0, .int .i64 s1, .int .i64 s2, .int .i64 s3] 77)) from HB.out.alloc (by have := HB.out.size; omega) _)
  clear hb
  by_cases t0 : 16 < s0
  · have HW2 := Lib.hid (show f = 2 by rw [HF.out, decide_eq_true t0]; simp)
    go_wp2_with fail
    go_ret
    exact ⟨ret_int HW2.out.symm, HBB.out⟩
  have T0 := Lib.hid (decide_eq_false t0)
  have u0 : s0 ≤ 16 := by omega
  clear t0
  by_cases t1 : 2000 < s1
  · have HW2 := Lib.hid (show f = 2 by rw [HF.out, decide_eq_true t1]; simp)
    go_wp2_with fail
    go_ret
    exact ⟨ret_int HW2.out.symm, HBB.out⟩
  have T1 := Lib.hid (decide_eq_false t1)
  have u1 : s1 ≤ 2000 := by omega
  clear t1
  by_cases t2 : 2000 < s2
  · have HW2 := Lib.hid (show f = 2 by rw [HF.out, decide_eq_true t2]; simp)
    go_wp2_with fail
    go_ret
    exact ⟨ret_int HW2.out.symm, HBB.out⟩
  have T2 := Lib.hid (decide_eq_false t2)
  have u2 : s2 ≤ 2000 := by omega
  clear t2
  by_cases t3 : 1099511627776 < s3
  · have HW2 := Lib.hid (show f = 2 by rw [HF.out, decide_eq_true t3]; simp)
    go_wp2_with fail
    go_ret
    exact ⟨ret_int HW2.out.symm, HBB.out⟩
  have T3 := Lib.hid (decide_eq_false t3)
  have u3 : s3 ≤ 1099511627776 := by omega
  clear t3
  have HW2 := Lib.hid (show f = 0 by rw [HF.out, T0.out, T1.out, T2.out, T3.out]; rfl)
  go_wp2_with fail
  go_ret
  exact ⟨ret_int HW2.out.symm, HBB.out⟩
end Go.Proofs.Ytipmdhfinlkceaa
