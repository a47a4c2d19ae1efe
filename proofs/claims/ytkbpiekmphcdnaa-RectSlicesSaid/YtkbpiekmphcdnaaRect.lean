import Derived.Test.YtkbpiekmphcdnaaSpan2
import Derived.Test.YtkbpiekmphcdnaaRectMath
import Derived.Test.YtkbpiekmphcdnaaTail
import Derived.Test.YtkbpiekmphcdnaaOn
import Derived.BigQuiet
/- What each function of package rect on one or two rectangles answers, and each of the document's answers for it. -/
namespace Go.Proofs.Ytkbpiekmphcdnaa
open Go.RowKit
set_option linter.unusedVariables false
set_option linter.unusedSimpArgs false
theorem Box.new4 (w : World) (a b c d : Value) (t : TypeId) : Box (w.alloc (.cells #[a, b, c, d] t)) w.heap.size [a, b, c, d] := Box.new w [a, b, c, d] t
theorem Box.new4' (w : World) (a b c d : Value) (t : TypeId) (n : Nat) (h : n = w.heap.size) : Box (w.alloc (.cells #[a, b, c, d] t)) n [a, b, c, d] := by subst h; exact Box.new w [a, b, c, d] t
theorem Box.of4 {w : World} {n : Nat} {a b c d : Value} (h : Box w n [a, b, c, d]) : (w.cell? ⟨n, 0, none⟩ = some a ∧ w.cell? ⟨n, 1, none⟩ = some b ∧ w.cell? ⟨n, 2, none⟩ = some c ∧ w.cell? ⟨n, 3, none⟩ = some d) ∧ (w.frozen? ⟨n, 0, none⟩ = false ∧ w.frozen? ⟨n, 1, none⟩ = false ∧ w.frozen? ⟨n, 2, none⟩ = false ∧ w.frozen? ⟨n, 3, none⟩ = false) ∧ n < w.heap.size :=
  ⟨⟨h.2.2 0 _ rfl, h.2.2 1 _ rfl, h.2.2 2 _ rfl, h.2.2 3 _ rfl⟩, ⟨h.2.1 _, h.2.1 _, h.2.1 _, h.2.1 _⟩, h.1⟩
theorem OnW.of4 {W : World} {n : Nat} {a b c d : Value} (h : Box W n [a, b, c, d]) : (∀ p : OnW W, p.w.cell? ⟨n, 0, none⟩ = some a) ∧ (∀ p : OnW W, p.w.cell? ⟨n, 1, none⟩ = some b) ∧ (∀ p : OnW W, p.w.cell? ⟨n, 2, none⟩ = some c) ∧ (∀ p : OnW W, p.w.cell? ⟨n, 3, none⟩ = some d) :=
  ⟨fun p => OnW.cell (h.2.2 0 _ rfl) p, fun p => OnW.cell (h.2.2 1 _ rfl) p, fun p => OnW.cell (h.2.2 2 _ rfl) p, fun p => OnW.cell (h.2.2 3 _ rfl) p⟩
theorem rempty_any (x y w h : Int) (W : World) : Calls Try.prog 45 #[.agg #[.int .i64 x, .int .i64 y, .int .i64 w, .int .i64 h]] W fun e W' => e = .returned (.bool (decide (noneR ⟨x, y, w, h⟩))) ∧ Below W.heap.size W W' := by
  by_cases h1 : w < 1 <;> by_cases h2 : h < 1
  all_goals
    go_enter Try.func45, Try.ntmps45
    go_wp2
    go_ret
    exact ⟨ret_bool (by first | (simp [noneR, h1, h2]; done) | exact decide_eq_false (show ¬ (w < 1 ∨ h < 1) by omega) | exact (decide_eq_false (show ¬ (w < 1 ∨ h < 1) by omega)).symm), by go_grown⟩
theorem rnone_any (x y w h : Int) (W : World) : Calls Try.prog 43 #[.agg #[.int .i64 x, .int .i64 y, .int .i64 w, .int .i64 h]] W fun e W' => e = .returned (.bool (decide (noneR ⟨x, y, w, h⟩))) ∧ Below W.heap.size W W' := by
  by_cases h1 : w < 1 <;> by_cases h2 : h < 1
  all_goals
    go_enter Try.func43, Try.ntmps43
    go_wp2
    go_ret
    exact ⟨ret_bool (by first | (simp [noneR, h1, h2]; done) | exact decide_eq_false (show ¬ (w < 1 ∨ h < 1) by omega) | exact (decide_eq_false (show ¬ (w < 1 ∨ h < 1) by omega)).symm), by go_grown⟩
theorem empty_to {x y w h : Int} {v : Bool} (hv : decide (noneR ⟨x, y, w, h⟩) = v) (W : World) : Calls Try.prog 45 #[.agg #[.int .i64 x, .int .i64 y, .int .i64 w, .int .i64 h]] W fun e W' => e = .returned (.bool v) ∧ Below W.heap.size W W' := by
  subst hv; exact rempty_any _ _ _ _ _
theorem none_to {x y w h : Int} {v : Bool} (hv : decide (noneR ⟨x, y, w, h⟩) = v) (W : World) : Calls Try.prog 43 #[.agg #[.int .i64 x, .int .i64 y, .int .i64 w, .int .i64 h]] W fun e W' => e = .returned (.bool v) ∧ Below W.heap.size W W' := by
  subst hv; exact rnone_any _ _ _ _ _
theorem lawof_any (x y w h : Int) (W : World) : Calls Try.prog 38 #[.int .i64 x, .int .i64 y, .int .i64 w, .int .i64 h] W fun e W' => e = .returned (.agg #[.int .i64 x, .int .i64 y, .int .i64 w, .int .i64 h]) ∧ Below W.heap.size W W' := by
  go_enter Try.func38, Try.ntmps38
  go_wp2
  go_returns
  exact ⟨rfl, by go_grown⟩
theorem across_any (x y w h : Int) (W : World) (hb : IntKind.i64.wrap (x + w) = x + w) : Calls Try.prog 41 #[.agg #[.int .i64 x, .int .i64 y, .int .i64 w, .int .i64 h]] W fun e W' => e = .returned (.agg #[.int .i64 x, .int .i64 (x + w)]) ∧ Below W.heap.size W W' := by
  go_enter Try.func41, Try.ntmps41
  go_wp2
  refine bodyPost_ret (v := .agg #[.int .i64 x, .int .i64 (x + w)]) (by simp [results, Try.results41, go_sem]) rfl ⟨rfl, by go_grown⟩
theorem down_any (x y w h : Int) (W : World) (hb : IntKind.i64.wrap (y + h) = y + h) : Calls Try.prog 42 #[.agg #[.int .i64 x, .int .i64 y, .int .i64 w, .int .i64 h]] W fun e W' => e = .returned (.agg #[.int .i64 y, .int .i64 (y + h)]) ∧ Below W.heap.size W W' := by
  go_enter Try.func42, Try.ntmps42
  go_wp2
  refine bodyPost_ret (v := .agg #[.int .i64 y, .int .i64 (y + h)]) (by simp [results, Try.results42, go_sem]) rfl ⟨rfl, by go_grown⟩
theorem rtidy_to {x y w h p q u v : Int} (hv : tidyR ⟨x, y, w, h⟩ = ⟨p, q, u, v⟩) (W : World) : Calls Try.prog 40 #[.agg #[.int .i64 x, .int .i64 y, .int .i64 w, .int .i64 h]] W fun e W' => e = .returned (.agg #[.int .i64 p, .int .i64 q, .int .i64 u, .int .i64 v]) ∧ Below W.heap.size W W' := by
  by_cases h1 : noneR ⟨x, y, w, h⟩
  · have HD := Lib.hid (show decide (noneR ⟨x, y, w, h⟩) = true from decide_eq_true h1)
    rw [tidyR_none h1] at hv
    injection hv with e1 e2 e3 e4
    subst e1 e2 e3 e4
    clear h1
    go_enter Try.func40, Try.ntmps40
    go_wp2_with (go_at_call 45; refine (empty_to HD.out _).mono ?_; rintro e w1 ⟨rfl, hb⟩; obtain ⟨hc, hf⟩ := bcell hb; have hz : W.heap.size + 1 < w1.heap.size := by have := hb.size; simp at this; omega)
    refine bodyPost_ret (v := .agg #[.int .i64 0, .int .i64 0, .int .i64 0, .int .i64 0]) (by simp [results, Try.results40, go_sem, hc, hz]) rfl ⟨rfl, ?_⟩
    exact Below.setCell (Below.setCell (Below.setCell (Below.setCell (below_then (by go_grown) hb) (by go_size) _) (by go_size) _) (by go_size) _) (by go_size) _
  · have HD := Lib.hid (show decide (noneR ⟨x, y, w, h⟩) = false from decide_eq_false h1)
    rw [tidyR_some h1] at hv
    injection hv with e1 e2 e3 e4
    subst e1 e2 e3 e4
    clear h1
    go_enter Try.func40, Try.ntmps40
    go_wp2_with (go_at_call 45; refine (empty_to HD.out _).mono ?_; rintro e w1 ⟨rfl, hb⟩; obtain ⟨hc, hf⟩ := bcell hb; have hz : W.heap.size + 1 < w1.heap.size := by have := hb.size; simp at this; omega)
    refine bodyPost_ret (v := .agg #[.int .i64 x, .int .i64 y, .int .i64 w, .int .i64 h]) (by simp [results, Try.results40, go_sem, hc, hz]) rfl ⟨rfl, ?_⟩
    exact Below.setCell (Below.setCell (Below.setCell (Below.setCell (below_then (by go_grown) hb) (by go_size) _) (by go_size) _) (by go_size) _) (by go_size) _
theorem rof_to {l r t b p q u v : Int} (hl : Near61 l) (hr : Near61 r) (ht : Near61 t) (hb : Near61 b) (hv : rofR l r t b = ⟨p, q, u, v⟩) (W : World) : Calls Try.prog 44 #[.int .i64 l, .int .i64 r, .int .i64 t, .int .i64 b] W fun e W' => e = .returned (.agg #[.int .i64 p, .int .i64 q, .int .i64 u, .int .i64 v]) ∧ Below W.heap.size W W' := by
  unfold Near61 at *
  unfold rofR at hv
  have w1 : IntKind.i64.wrap (r - l) = r - l := IntWalk.i64_in _ (by omega)
  have w2 : IntKind.i64.wrap (b - t) = b - t := IntWalk.i64_in _ (by omega)
  by_cases h1 : r ≤ l
  · rw [if_pos (.inl h1)] at hv
    injection hv with e1 e2 e3 e4
    subst e1 e2 e3 e4
    go_enter Try.func44, Try.ntmps44
    go_wp2
    refine bodyPost_ret (v := .agg #[.int .i64 0, .int .i64 0, .int .i64 0, .int .i64 0]) (by simp [results, Try.results44, go_sem]) rfl ⟨rfl, by go_grown⟩
  · by_cases h2 : b ≤ t
    · rw [if_pos (.inr h2)] at hv
      injection hv with e1 e2 e3 e4
      subst e1 e2 e3 e4
      go_enter Try.func44, Try.ntmps44
      go_wp2
      refine bodyPost_ret (v := .agg #[.int .i64 0, .int .i64 0, .int .i64 0, .int .i64 0]) (by simp [results, Try.results44, go_sem]) rfl ⟨rfl, by go_grown⟩
    · rw [if_neg (by omega)] at hv
      injection hv with e1 e2 e3 e4
      subst e1 e2 e3 e4
      go_enter Try.func44, Try.ntmps44
      go_wp2
      refine bodyPost_ret (v := .agg #[.int .i64 l, .int .i64 t, .int .i64 (r - l), .int .i64 (b - t)]) (by simp [results, Try.results44, go_sem]) rfl ⟨rfl, by go_grown⟩
end Go.Proofs.Ytkbpiekmphcdnaa
