import Derived.Test.YtideikbijjheeaaRows
import Derived.Test.YtideikbijjheeaaBandsMath
import Derived.Test.YtideikbijjheeaaSlices
import Derived.Test.YtideikbijjheeaaStop
import Derived.Test.YtideikbijjheeaaOn
import Derived.BigQuiet
import Derived.Deep.QuietTactic
import Derived.Lib.MinMax
/- The document's answers for package bands: whether a float meets a strip, the band of a strip. -/
namespace Go.Proofs.Ytideikbijjheeaa
open Go.RowKit
set_option linter.unusedVariables false
set_option linter.unusedSimpArgs false
theorem fl_at {w : World} {A : Option Addr} {n : Nat} {l : List Fl} (h : Rows 7 encFl w A n l) {i : Nat} (hi : i < n) :
    ∃ b off f, A = some ⟨b, off, none⟩ ∧ b < w.heap.size ∧ l[i]? = some f ∧ (w.cell? ⟨b, off + i * 7, none⟩ = some (.int .i64 f.node) ∧ w.cell? ⟨b, off + i * 7 + 1, none⟩ = some (.int .i64 f.side) ∧ w.cell? ⟨b, off + i * 7 + 2, none⟩ = some (.int .i64 f.anchor) ∧
      w.cell? ⟨b, off + i * 7 + 3, none⟩ = some (.int .i64 f.x) ∧ w.cell? ⟨b, off + i * 7 + 4, none⟩ = some (.int .i64 f.y) ∧ w.cell? ⟨b, off + i * 7 + 5, none⟩ = some (.int .i64 f.w) ∧ w.cell? ⟨b, off + i * 7 + 6, none⟩ = some (.int .i64 f.h)) := by
  obtain ⟨b, off, f, h1, h2, h3, h4⟩ := h.at_ hi
  exact ⟨b, off, f, h1, h2, h3, h4 0 _ rfl, h4 1 _ rfl, h4 2 _ rfl, h4 3 _ rfl, h4 4 _ rfl, h4 5 _ rfl, h4 6 _ rfl⟩
theorem Box.of7 {w : World} {n : Nat} {f : Fl} (h : Box w n (encFl f)) : (w.cell? ⟨n, 0, none⟩ = some (.int .i64 f.node) ∧ w.cell? ⟨n, 1, none⟩ = some (.int .i64 f.side) ∧ w.cell? ⟨n, 2, none⟩ = some (.int .i64 f.anchor) ∧ w.cell? ⟨n, 3, none⟩ = some (.int .i64 f.x) ∧
    w.cell? ⟨n, 4, none⟩ = some (.int .i64 f.y) ∧ w.cell? ⟨n, 5, none⟩ = some (.int .i64 f.w) ∧ w.cell? ⟨n, 6, none⟩ = some (.int .i64 f.h)) ∧ n < w.heap.size :=
  ⟨⟨h.2.2 0 _ rfl, h.2.2 1 _ rfl, h.2.2 2 _ rfl, h.2.2 3 _ rfl, h.2.2 4 _ rfl, h.2.2 5 _ rfl, h.2.2 6 _ rfl⟩, h.1⟩
theorem box7 (w : World) (f : Fl) (t : TypeId) : Box (w.alloc (.cells #[.int .i64 f.node, .int .i64 f.side, .int .i64 f.anchor, .int .i64 f.x, .int .i64 f.y, .int .i64 f.w, .int .i64 f.h] t)) w.heap.size (encFl f) := Box.new w (encFl f) t
set_option maxHeartbeats 1000000 in
set_option maxRecDepth 100000 in
theorem rmeets_to {f : Fl} {y high : Int} {v : Bool} (hv : meetsF f y high = v) (hn : f.near) (hy : NearY y) (hh : NearI high) (w : World) :
    Calls Try.prog 22 #[.agg #[.int .i64 f.node, .int .i64 f.side, .int .i64 f.anchor, .int .i64 f.x, .int .i64 f.y, .int .i64 f.w, .int .i64 f.h], .int .i64 y, .int .i64 high] w fun e w' => e = .returned (.bool v) ∧ Below w.heap.size w w' := by
  obtain ⟨f0, f1, f2, f3, f4, f5, f6⟩ := f
  obtain ⟨_, ⟨n1, n2⟩, _, ⟨n3, n4⟩⟩ := hn
  obtain ⟨y1, y2⟩ := hy
  obtain ⟨h1, h2⟩ := hh
  unfold farB at *
  simp only at n1 n2 n3 n4 ⊢
  have hw1 : IntKind.i64.wrap (y + max high 1) = y + max high 1 := IntWalk.i64_in _ (by omega)
  have hw2 : IntKind.i64.wrap (f4 + f6) = f4 + f6 := IntWalk.i64_in _ (by omega)
  unfold meetsF at hv
  simp only at hv
  by_cases a1 : 0 < f6
  · by_cases a2 : f4 < y + max high 1
    · by_cases a3 : y < f4 + f6
      · have HV := Lib.hid (show true = v by rw [← hv, decide_eq_true a1, decide_eq_true a2, decide_eq_true a3]; rfl)
        clear hv
        go_enter Try.func22, Try.ntmps22
        go_wp2_with fail
        go_ret
        exact ⟨ret_bool HV.out, by go_grown⟩
      · have HV := Lib.hid (show false = v by rw [← hv, decide_eq_false a3, Bool.and_false, Bool.and_false])
        have a4 : f4 + f6 ≤ y := by omega
        clear hv
        go_enter Try.func22, Try.ntmps22
        go_wp2_with fail
        go_ret
        exact ⟨ret_bool HV.out, by go_grown⟩
    · have HV := Lib.hid (show false = v by rw [← hv, decide_eq_false a2, Bool.false_and, Bool.and_false])
      have a4 : y + max high 1 ≤ f4 := by omega
      clear hv
      go_enter Try.func22, Try.ntmps22
      go_wp2_with fail
      go_ret
      exact ⟨ret_bool HV.out, by go_grown⟩
  · have HV := Lib.hid (show false = v by rw [← hv, decide_eq_false a1, Bool.false_and])
    have a4 : f6 ≤ 0 := by omega
    clear hv
    go_enter Try.func22, Try.ntmps22
    go_wp2_with fail
    go_ret
    exact ⟨ret_bool HV.out, by go_grown⟩
end Go.Proofs.Ytideikbijjheeaa
