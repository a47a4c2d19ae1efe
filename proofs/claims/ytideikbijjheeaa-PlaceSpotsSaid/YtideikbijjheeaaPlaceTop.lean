import Derived.Test.YtideikbijjheeaaPlaceClone
import Derived.Test.YtideikbijjheeaaPlaceLaws
import Derived.Deep.RegionHeld3
/- What package place's exported functions answer: Spot, Put. -/
namespace Go.Proofs.Ytideikbijjheeaa
open Go.RowKit
set_option linter.unusedVariables false
set_option linter.unusedSimpArgs false
set_option maxHeartbeats 4000000 in
theorem spot11_to {l : List Fl} {f0 f1 f2 f3 f4 f5 f6 y a b x t : Int} {A : Option Addr} {n c : Nat} {w : World} (hx : spotX l ⟨f0, f1, f2, f3, f4, f5, f6⟩ y a b = x) (ht : spotY l ⟨f0, f1, f2, f3, f4, f5, f6⟩ y a b = t) (hn : ∀ g ∈ l, g.near) (hf : (⟨f0, f1, f2, f3, f4, f5, f6⟩ : Fl).near) (hy : NearI y) (ha : NearI a) (hb : NearI b) (h : Rows 7 encFl w A n l) :
    Calls Try.prog 6 #[.slice A n c, .agg #[.int .i64 f0, .int .i64 f1, .int .i64 f2, .int .i64 f3, .int .i64 f4, .int .i64 f5, .int .i64 f6], .int .i64 y, .agg #[.int .i64 a, .int .i64 b]] w fun e w' => e = .returned (.tuple #[.int .i64 x, .int .i64 t]) ∧ Below w.heap.size w w' := by
  have HC := Lib.hid (fun (v : World) (hb2 : Below w.heap.size w v) => placed11_to (c := c) hx ht hn hf hy ha hb (h.below hb2))
  obtain ⟨V, hV⟩ : ∃ V, (w.alloc (.cells #[.int .i64 f0, .int .i64 f1, .int .i64 f2, .int .i64 f3, .int .i64 f4, .int .i64 f5, .int .i64 f6] 24)).alloc (.cells #[.int .i64 a, .int .i64 b] 26) = V := ⟨_, rfl⟩
  have HB := Lib.hid (show Below w.heap.size w V by rw [← hV]; go_grown)
  have HD := Lib.hid (show Box V w.heap.size (encFl ⟨f0, f1, f2, f3, f4, f5, f6⟩) by rw [← hV]; exact (box7 w ⟨f0, f1, f2, f3, f4, f5, f6⟩ _).alloc _)
  have HVV := Lib.hid hV
  clear hx ht hn hf hy ha hb h hV
  go_enter Try.func6, Try.ntmps6
  go_wp2_with fail
  rw [HVV.out]
  refine (HC.out V HB.out).mono ?_
  rintro e w1 ⟨rfl, hb1⟩
  have HB1 := Lib.hid (below_then HB.out hb1)
  have HD1 := Lib.hid (HD.out.below hb1)
  clear hb1 HC HD HB HVV
  obtain ⟨⟨r0, r1, r2, r3, r4, r5, r6⟩, rBl⟩ := HD1.out.of7
  have rfz := HD1.out.2.1
  go_wp2_with fail
  clear r0 r1 r2 r3 r4 r5 r6 rBl rfz
  generalize hW : ((((((w1.setCell ⟨w.heap.size, 0, none⟩ (.int .i64 f0)).setCell ⟨w.heap.size, 1, none⟩ (.int .i64 f1)).setCell ⟨w.heap.size, 2, none⟩ (.int .i64 f2)).setCell ⟨w.heap.size, 3, none⟩ (.int .i64 x)).setCell ⟨w.heap.size, 4, none⟩ (.int .i64 t)).setCell ⟨w.heap.size, 5, none⟩ (.int .i64 f5)).setCell ⟨w.heap.size, 6, none⟩ (.int .i64 f6) = W
  have hD2 : Box W w.heap.size (encFl ⟨f0, f1, f2, x, t, f5, f6⟩) := by
    rw [← hW]
    exact ((((((HD1.out.set 0 (.int .i64 f0) (by simp [encFl])).set 1 (.int .i64 f1) (by simp [encFl])).set 2 (.int .i64 f2) (by simp [encFl])).set 3 (.int .i64 x) (by simp [encFl])).set 4 (.int .i64 t) (by simp [encFl])).set 5 (.int .i64 f5) (by simp [encFl])).set 6 (.int .i64 f6) (by simp [encFl])
  have hle : w.heap.size ≤ w.heap.size := Nat.le_refl _
  have HB2 := Lib.hid (show Below w.heap.size w W by
    rw [← hW]
    exact ((((((HB1.out.setCell hle _).setCell hle _).setCell hle _).setCell hle _).setCell hle _).setCell hle _).setCell hle _)
  have k3 := OnW.cell hD2.of7.1.2.2.2.1
  have k4 := OnW.cell hD2.of7.1.2.2.2.2.1
  clear hW hD2 HD1 HB1 hle
  refine wp_region_on (by kernel_rfl) (by kernel_rfl) ?_
  repeat (go_big_quiet_step (fail))
  refine wpQuiet_nil ?_
  intro w5 hw'
  obtain ⟨⟨w6, hOn⟩, hw''⟩ := hw'
  obtain rfl : w5 = w6 := hw''
  have HB5 := Lib.hid (below_then HB2.out hOn)
  clear hOn k3 k4
  go_wp2_with fail
  go_ret2
  exact ⟨rfl, HB5.out⟩
end Go.Proofs.Ytideikbijjheeaa
