import Derived.Test.YtideikbijjheeaaRows
import Derived.Test.YtideikbijjheeaaOn
import Derived.BigQuiet
/- The program's rect.Down; blocks of four cells. (For seats that lack the rest of package rect.) -/
namespace Go.Proofs.Ytideikbijjheeaa
open Go.RowKit
set_option linter.unusedVariables false
set_option linter.unusedSimpArgs false
theorem Box.new4 (w : World) (a b c d : Value) (t : TypeId) : Box (w.alloc (.cells #[a, b, c, d] t)) w.heap.size [a, b, c, d] := Box.new w [a, b, c, d] t
theorem Box.new4' (w : World) (a b c d : Value) (t : TypeId) (n : Nat) (h : n = w.heap.size) : Box (w.alloc (.cells #[a, b, c, d] t)) n [a, b, c, d] := by subst h; exact Box.new w [a, b, c, d] t
theorem Box.of4 {w : World} {n : Nat} {a b c d : Value} (h : Box w n [a, b, c, d]) : (w.cell? ⟨n, 0, none⟩ = some a ∧ w.cell? ⟨n, 1, none⟩ = some b ∧ w.cell? ⟨n, 2, none⟩ = some c ∧ w.cell? ⟨n, 3, none⟩ = some d) ∧ (w.frozen? ⟨n, 0, none⟩ = false ∧ w.frozen? ⟨n, 1, none⟩ = false ∧ w.frozen? ⟨n, 2, none⟩ = false ∧ w.frozen? ⟨n, 3, none⟩ = false) ∧ n < w.heap.size :=
  ⟨⟨h.2.2 0 _ rfl, h.2.2 1 _ rfl, h.2.2 2 _ rfl, h.2.2 3 _ rfl⟩, ⟨h.2.1 _, h.2.1 _, h.2.1 _, h.2.1 _⟩, h.1⟩
theorem OnW.of4 {W : World} {n : Nat} {a b c d : Value} (h : Box W n [a, b, c, d]) : (∀ p : OnW W, p.w.cell? ⟨n, 0, none⟩ = some a) ∧ (∀ p : OnW W, p.w.cell? ⟨n, 1, none⟩ = some b) ∧ (∀ p : OnW W, p.w.cell? ⟨n, 2, none⟩ = some c) ∧ (∀ p : OnW W, p.w.cell? ⟨n, 3, none⟩ = some d) :=
  ⟨fun p => OnW.cell (h.2.2 0 _ rfl) p, fun p => OnW.cell (h.2.2 1 _ rfl) p, fun p => OnW.cell (h.2.2 2 _ rfl) p, fun p => OnW.cell (h.2.2 3 _ rfl) p⟩
theorem down_any (x y w h : Int) (W : World) (hb : IntKind.i64.wrap (y + h) = y + h) : Calls Try.prog 39 #[.agg #[.int .i64 x, .int .i64 y, .int .i64 w, .int .i64 h]] W fun e W' => e = .returned (.agg #[.int .i64 y, .int .i64 (y + h)]) ∧ Below W.heap.size W W' := by
  go_enter Try.func39, Try.ntmps39
  go_wp2
  refine bodyPost_ret (v := .agg #[.int .i64 y, .int .i64 (y + h)]) (by simp [results, Try.results39, go_sem]) rfl ⟨rfl, by go_grown⟩
end Go.Proofs.Ytideikbijjheeaa
