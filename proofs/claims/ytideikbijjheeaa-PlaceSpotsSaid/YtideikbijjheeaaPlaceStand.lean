import Derived.Test.YtideikbijjheeaaPlaceFns2
/- The program's function of package place that puts a search to its side of what is free. -/
namespace Go.Proofs.Ytideikbijjheeaa
open Go.RowKit
set_option linter.unusedVariables false
set_option linter.unusedSimpArgs false
set_option maxHeartbeats 4000000 in
theorem stand_to {l : List Fl} {f0 f1 f2 x y t f5 f6 a b p q : Int} (hv : bandL l y f6 (a, b) = (p, q)) (ht : (if f1 = 1 then p else max p (q - f5)) = t) (hn : ∀ f ∈ l, f.near) (hy : NearY y) (h5 : NearI f5) (hh : NearI f6) (ha : NearI a) (hb : NearI b) {A : Option Addr} {n c m : Nat} {w0 w : World} (h : Rows 7 encFl w0 A n l) (hB : Below w0.heap.size w0 w) (hX : Box w m (srch f0 f1 f2 x y f5 f6 A n c a b)) (hm : w0.heap.size ≤ m) :
    Calls Try.prog 20 #[.pointer (some ⟨m, 0, none⟩)] w fun e w' => e = .returned (.tuple #[]) ∧ Box w' m (srch f0 f1 f2 t y f5 f6 A n c a b) ∧ Below w0.heap.size w0 w' := by
  have hqb := (bandL_bd hn y f6 (a, b) ⟨ha.y, hb.y⟩).2
  rw [hv] at hqb
  obtain ⟨q1, q2⟩ := hqb
  obtain ⟨w1', w2'⟩ := h5
  unfold farB at q1 q2 w1' w2'
  have hqw : IntKind.i64.wrap (q - f5) = q - f5 := IntWalk.i64_in _ (by simp only at q1 q2; omega)
  have HT := Lib.hid ht
  have HX := Lib.hid hX
  have HB := Lib.hid hB
  have HC := Lib.hid (band_to hv hn hy hh (h.below hB) hX)
  clear hv ht hn hy hh ha hb h hB hX q1 q2 w1' w2'
  go_enter Try.func20, Try.ntmps20
  go_wp2_with fail
  refine HC.out.mono ?_
  rintro e w1 ⟨rfl, hb⟩
  have HB1 := Lib.hid (below_then HB.out hb)
  have HX1 := Lib.hid ((HX.out.below hb).alloc (.cells #[.int .i64 p, .int .i64 q] 26))
  have HS := Lib.hid (Box.new2 w1 (.int .i64 p) (.int .i64 q) 26)
  have hms : m ≠ w1.heap.size := by
    have := (HX.out.below hb).1
    omega
  clear hb HC HX HB
  obtain ⟨⟨p0, p1, p2, p3, p4, p5, p6⟩, ⟨p7, p8, p9⟩, p10, p11⟩ := srch_of HX1.out
  obtain ⟨s0, s1, s2, s3, s4⟩ := HS.out.of2
  by_cases hs : f1 = 1
  · have hsb : (f1 == 1) = true := by simpa using hs
    have hsn : (f1 != 1) = false := by simpa using hs
    have HT2 := Lib.hid (show p = t by rw [← HT.out, if_pos hs])
    clear hs HT
    go_wp2_with fail
    go_end0
    exact ⟨rfl, by rw [← HT2.out]; exact HX1.out.set 3 (.int .i64 p) (by simp [srch]), (HB1.out.alloc HB1.out.size _).setCell hm _⟩
  · have hsb : (f1 == 1) = false := by simpa using hs
    have hsn : (f1 != 1) = true := by simpa using hs
    have HT2 := Lib.hid (show max p (q - f5) = t by rw [← HT.out, if_neg hs])
    clear hs HT
    go_wp2_with fail
    generalize hW : (w1.alloc (.cells #[.int .i64 p, .int .i64 q] 26)).setCell ⟨m, 3, none⟩ (.int .i64 p) = W
    have HX2 := Lib.hid (show Box W m (srch f0 f1 f2 p y f5 f6 A n c a b) by rw [← hW]; exact HX1.out.set 3 (.int .i64 p) (by simp [srch]))
    have HS2 := Lib.hid (show Box W w1.heap.size [.int .i64 p, .int .i64 q] by rw [← hW]; exact HS.out.set_other hms 3 (.int .i64 p))
    have HB2 := Lib.hid (show Below w0.heap.size w0 W by rw [← hW]; exact (HB1.out.alloc HB1.out.size _).setCell hm _)
    clear hW p0 p1 p2 p3 p4 p5 p6 p7 p8 p9 p10 p11 s0 s1 s2 s3 s4 HX1 HS HB1
    have k5 := OnW.cell (srch_of HX2.out).1.2.2.2.2.2.1
    obtain ⟨j0, j1⟩ := OnW.of2 HS2.out
    refine wp_region_on_tail 15 (by kernel_rfl) (by kernel_rfl) rfl (by kernel_rfl) ?_
    simp only [headOf, List.take_succ_cons, List.take_zero, List.getElem_toArray, List.getElem_cons_succ, List.getElem_cons_zero]
    repeat (go_big_quiet_step (fail))
    refine wpQuiet_nil ?_
    intro w5 hw'
    obtain ⟨⟨w6, hOn⟩, hw''⟩ := hw'
    obtain rfl : w5 = w6 := hw''
    have HB5 := Lib.hid (below_then HB2.out hOn)
    have HX5 := Lib.hid (HX2.out.below hOn)
    clear k5 j0 j1 hOn HB2 HX2 HS2
    obtain ⟨⟨p0, p1, p2, p3, p4, p5, p6⟩, ⟨p7, p8, p9⟩, p10, p11⟩ := srch_of HX5.out
    go_wp2_with fail
    go_end0
    exact ⟨rfl, by rw [← HT2.out]; exact HX5.out.set 3 (.int .i64 (max p (q - f5))) (by simp [srch]), HB5.out.setCell hm _⟩
end Go.Proofs.Ytideikbijjheeaa
