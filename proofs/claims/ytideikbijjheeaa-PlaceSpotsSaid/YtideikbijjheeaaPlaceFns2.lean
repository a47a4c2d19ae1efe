import Derived.Test.YtideikbijjheeaaPlaceFns
/- The program's functions of package place that write a search: where it begins, where it stands. -/
namespace Go.Proofs.Ytideikbijjheeaa
open Go.RowKit
set_option linter.unusedVariables false
set_option linter.unusedSimpArgs false
set_option maxHeartbeats 2000000 in
theorem begin_to {l : List Fl} {f0 f1 f2 x y0 y t f5 f6 a b : Int} (hv : startY l y = t) (hn : ∀ f ∈ l, f.near) {A : Option Addr} {n c m : Nat} {w0 w : World} (h : Rows 7 encFl w0 A n l) (hB : Below w0.heap.size w0 w) (hX : Box w m (srch f0 f1 f2 x y0 f5 f6 A n c a b)) (hm : w0.heap.size ≤ m) :
    Calls Try.prog 18 #[.pointer (some ⟨m, 0, none⟩), .int .i64 y] w fun e w' => e = .returned (.tuple #[]) ∧ Box w' m (srch f0 f1 f2 x t f5 f6 A n c a b) ∧ Below w0.heap.size w0 w' := by
  obtain ⟨⟨tp, ok⟩, htp⟩ : ∃ r, topL l = r := ⟨_, rfl⟩
  unfold startY at hv
  rw [htp] at hv
  simp only at hv
  have HV := Lib.hid hv
  have HTP := Lib.hid htp
  have HN := Lib.hid hn
  have HA := Lib.hid h
  have HX := Lib.hid hX
  have HB := Lib.hid hB
  clear hv htp hn h hX hB
  obtain ⟨⟨p0, p1, p2, p3, p4, p5, p6⟩, ⟨p7, p8, p9⟩, p10, p11⟩ := srch_of HX.out
  go_enter Try.func18, Try.ntmps18
  go_wp2_with fail
  generalize hW : w.setCell ⟨m, 4, none⟩ (.int .i64 y) = W
  have HX1 := Lib.hid (show Box W m (srch f0 f1 f2 x y f5 f6 A n c a b) by rw [← hW]; exact HX.out.set 4 (.int .i64 y) (by simp [srch]))
  have HB1 := Lib.hid (show Below w0.heap.size w0 W by rw [← hW]; exact HB.out.setCell hm _)
  clear hW p0 p1 p2 p3 p4 p5 p6 p7 p8 p9 p10 p11 HX HB
  refine (btop_to HTP.out HN.out (HA.out.below HB1.out)).mono ?_
  rintro e w1 ⟨rfl, hb⟩
  have HB2 := Lib.hid (below_then HB1.out hb)
  have HX2 := Lib.hid (HX1.out.below hb)
  clear hb HX1 HB1
  obtain ⟨⟨p0, p1, p2, p3, p4, p5, p6⟩, ⟨p7, p8, p9⟩, p10, p11⟩ := srch_of HX2.out
  cases ok with
  | false =>
    have HT := Lib.hid (show y = t by rw [← HV.out]; simp)
    clear HV
    go_wp2_with fail
    go_end0
    exact ⟨rfl, by rw [← HT.out]; exact HX2.out, HB2.out⟩
  | true =>
    have HT := Lib.hid (show max y tp = t by rw [← HV.out]; simp only [true_and]; split <;> omega)
    clear HV
    go_wp2_with fail
    go_end0
    exact ⟨rfl, by rw [← HT.out]; exact HX2.out.set 4 (.int .i64 (max y tp)) (by simp [srch]), HB2.out.setCell hm _⟩
end Go.Proofs.Ytideikbijjheeaa
