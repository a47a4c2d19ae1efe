import Derived.Test.YtideikbijjheeaaBandsRef4
import Derived.Test.YtideikbijjheeaaSpanMeet
import Derived.Test.YtideikbijjheeaaRectDown
/- The program's functions of package bands on one float: the rectangle that it covers, where it ends, what it leaves, whether it narrows. -/
namespace Go.Proofs.Ytideikbijjheeaa
open Go.RowKit
set_option linter.unusedVariables false
set_option linter.unusedSimpArgs false
theorem Box.new5 (w : World) (a b c d e : Value) (t : TypeId) : Box (w.alloc (.cells #[a, b, c, d, e] t)) w.heap.size [a, b, c, d, e] := Box.new w [a, b, c, d, e] t
theorem Box.of5 {w : World} {n : Nat} {a b c d e : Value} (h : Box w n [a, b, c, d, e]) : (w.cell? ⟨n, 0, none⟩ = some a ∧ w.cell? ⟨n, 1, none⟩ = some b ∧ w.cell? ⟨n, 2, none⟩ = some c ∧ w.cell? ⟨n, 3, none⟩ = some d ∧ w.cell? ⟨n, 4, none⟩ = some e) ∧ n < w.heap.size :=
  ⟨⟨h.2.2 0 _ rfl, h.2.2 1 _ rfl, h.2.2 2 _ rfl, h.2.2 3 _ rfl, h.2.2 4 _ rfl⟩, h.1⟩
theorem placed_to (f : Fl) (w : World) : Calls Try.prog 35 #[.agg #[.int .i64 f.node, .int .i64 f.side, .int .i64 f.anchor, .int .i64 f.x, .int .i64 f.y, .int .i64 f.w, .int .i64 f.h]] w fun e w' => e = .returned (.agg #[.int .i64 f.x, .int .i64 f.y, .int .i64 f.w, .int .i64 f.h, .int .i64 f.side]) ∧ Below w.heap.size w w' := by
  obtain ⟨f0, f1, f2, f3, f4, f5, f6⟩ := f
  go_enter Try.func35, Try.ntmps35
  go_wp2
  refine bodyPost_ret (v := .agg #[.int .i64 f3, .int .i64 f4, .int .i64 f5, .int .i64 f6, .int .i64 f1]) (by simp [results, Try.results35, go_sem]) rfl ⟨rfl, by go_grown⟩
theorem bottom_to {x y u h s : Int} (hw : IntKind.i64.wrap (y + h) = y + h) (w : World) : Calls Try.prog 34 #[.agg #[.int .i64 x, .int .i64 y, .int .i64 u, .int .i64 h, .int .i64 s]] w fun e w' => e = .returned (.int .i64 (y + h)) ∧ Below w.heap.size w w' := by
  go_enter Try.func34, Try.ntmps34
  go_wp2
  go_ret
  exact ⟨rfl, by go_grown⟩
/-- what a float leaves of a span. -/
def leaveF (x u s a b : Int) : Int × Int := if s = 1 then (max a (x + u), b) else (a, min b x)
theorem leaves_to {x y u h s a b p q : Int} (hv : leaveF x u s a b = (p, q)) (hw : IntKind.i64.wrap (x + u) = x + u) (w : World) :
    Calls Try.prog 37 #[.agg #[.int .i64 x, .int .i64 y, .int .i64 u, .int .i64 h, .int .i64 s], .agg #[.int .i64 a, .int .i64 b]] w fun e w' => e = .returned (.agg #[.int .i64 p, .int .i64 q]) ∧ Below w.heap.size w w' := by
  unfold leaveF at hv
  by_cases hs : s = 1
  · rw [if_pos hs] at hv
    have hsb : (s == 1) = true := by simpa using hs
    injection hv with e1 e2
    subst e1 e2
    clear hs
    go_enter Try.func37, Try.ntmps37
    go_wp2
    refine bodyPost_ret (v := .agg #[.int .i64 (max a (x + u)), .int .i64 b]) (by simp [results, Try.results37, go_sem]) rfl ⟨rfl, by go_grown⟩
  · rw [if_neg hs] at hv
    have hsb : (s == 1) = false := by simpa using hs
    injection hv with e1 e2
    subst e1 e2
    clear hs
    go_enter Try.func37, Try.ntmps37
    go_wp2
    refine bodyPost_ret (v := .agg #[.int .i64 a, .int .i64 (min b x)]) (by simp [results, Try.results37, go_sem]) rfl ⟨rfl, by go_grown⟩
theorem narrows_to {x y u h s a b : Int} {v : Bool} (hv : (leaveF x u s a b != (a, b)) = v) (hw : IntKind.i64.wrap (x + u) = x + u) (w : World) :
    Calls Try.prog 33 #[.agg #[.int .i64 x, .int .i64 y, .int .i64 u, .int .i64 h, .int .i64 s], .agg #[.int .i64 a, .int .i64 b]] w fun e w' => e = .returned (.bool v) ∧ Below w.heap.size w w' := by
  obtain ⟨⟨p, q⟩, hl⟩ : ∃ r, leaveF x u s a b = r := ⟨_, rfl⟩
  have HL := Lib.hid hl
  rw [hl] at hv
  have he : ∀ w : World, (Op.equalIn 10000 26 (.agg #[.int .i64 p, .int .i64 q]) (.agg #[.int .i64 a, .int .i64 b])).run Try.prog w = .ok (!v) w := fun w => by
    rw [sp_equal, ← hv]
    congr 1
    exact (Bool.not_not _).symm
  clear hv hl
  go_enter Try.func33, Try.ntmps33
  go_wp2_with fail
  generalize hW : (w.alloc (.cells #[.int .i64 x, .int .i64 y, .int .i64 u, .int .i64 h, .int .i64 s] 54)).alloc (.cells #[.int .i64 a, .int .i64 b] 26) = W
  have hX : Box W w.heap.size [.int .i64 x, .int .i64 y, .int .i64 u, .int .i64 h, .int .i64 s] := by rw [← hW]; exact (Box.new5 _ _ _ _ _ _ _).alloc _
  have hY : Box W (w.heap.size + 1) [.int .i64 a, .int .i64 b] := by rw [← hW]; exact Box.new2' _ _ _ _ _ (by simp)
  have HB := Lib.hid (show Below w.heap.size w W by rw [← hW]; go_grown)
  clear hW
  have k0 := OnW.cell (W := W) hX.of5.1.1
  have k1 := OnW.cell (W := W) hX.of5.1.2.1
  have k2 := OnW.cell (W := W) hX.of5.1.2.2.1
  have k3 := OnW.cell (W := W) hX.of5.1.2.2.2.1
  have k4 := OnW.cell (W := W) hX.of5.1.2.2.2.2
  obtain ⟨j0, j1⟩ := OnW.of2 hY
  clear hX hY
  have HC := Lib.hid (fun w => leaves_to (x := x) (y := y) (u := u) (h := h) (s := s) HL.out hw w)
  refine wp_region_on (by kernel_rfl) (by kernel_rfl) ?_
  repeat (go_big_quiet_step (((go_at_call 37; with_reducible exact Calls.on_of (HC.out _)))))
  refine wpQuiet_nil ?_
  intro w5 hw'
  obtain ⟨⟨w6, hOn⟩, hw''⟩ := hw'
  obtain rfl : w5 = w6 := hw''
  go_wp2_with fail
  go_ret
  exact ⟨ret_bool (by simp), below_then HB.out hOn⟩
/-- whether a float meets a strip, as the program asks it. -/
theorem meets_apart {f : Fl} {y high : Int} : decide (meetS (y, y + max high 1) (f.y, f.y + f.h) = (0, 0)) = !meetsF f y high := by
  unfold meetS tidyS meetsF
  simp only
  by_cases h1 : 0 < f.h <;> by_cases h2 : f.y < y + max high 1 <;> by_cases h3 : y < f.y + f.h
  case pos =>
    rw [if_neg (by omega), decide_eq_true h1, decide_eq_true h2, decide_eq_true h3]
    refine decide_eq_false (fun e => ?_)
    injection e with e1 e2
    omega
  all_goals
    rw [if_pos (by omega)]
    simp [h1, h2, h3]
    try omega
end Go.Proofs.Ytideikbijjheeaa
