import Derived.Test.YtkbpiekmphcdnaaSpanPairs
import Derived.Test.YtkbpiekmphcdnaaSpanRowsW
/- What SpanLengths leans on: lengths of spans that are apart, and contracts by value. -/
namespace Go.Proofs.Ytkbpiekmphcdnaa
open Go.RowKit
set_option linter.unusedVariables false
set_option linter.unusedSimpArgs false
def ApartL (l : List Sp) : Prop := l.Pairwise fun x y => meetS x y = (0, 0)
theorem meetS_comm (x y : Sp) : meetS x y = meetS y x := by
  unfold meetS; rw [Int.max_comm, Int.min_comm]
def sumMet (s : Sp) (l : List Sp) : Int := sumS (l.map (meetS s))
theorem sumMet_snoc {s : Sp} {l : List Sp} {k : Nat} {x : Sp} (hx : l[k]? = some x) : sumMet s (l.take (k + 1)) = sumMet s (l.take k) + lenS (meetS s x) := by
  unfold sumMet; rw [take_snoc hx, List.map_append, sumS_append]
  show _ + sumS [meetS s x] = _
  rw [sumS_cons, sumS_nil]; omega
theorem sumMet_bound {s : Sp} {l : List Sp} (h : ApartL l) : 0 ≤ sumMet s l ∧ sumMet s l ≤ lenS s := by
  have h1 := less_sum s l h
  have h2 := sumS_nonneg (lessR s l)
  have h3 := sumS_nonneg (l.map (meetS s))
  unfold sumMet; omega
theorem apart_snoc {l : List Sp} {k : Nat} {x : Sp} (hx : l[k]? = some x) (h : ApartL (l.take k)) (hk : ∀ j y, j < k → l[j]? = some y → meetS x y = (0, 0)) : ApartL (l.take (k + 1)) := by
  unfold ApartL; rw [take_snoc hx, List.pairwise_append]
  refine ⟨h, List.pairwise_singleton _ _, fun y hy z hz => ?_⟩
  obtain rfl := List.mem_singleton.1 hz
  obtain ⟨j, hj⟩ := List.mem_iff_getElem?.1 hy
  rw [List.getElem?_take] at hj
  split at hj
  · rename_i hlt; rw [meetS_comm]; exact hk j y hlt hj
  · cases hj
theorem lenS_le {s : Sp} (h1 : Near s.1) (h2 : Near s.2) : lenS s ≤ 4611686018427387904 := by
  unfold Near at h1 h2; unfold lenS; split <;> omega
theorem near_zero : Near 0 := by decide
theorem meet_near {a b p q x y : Int} (h : meetS (a, b) (p, q) = (x, y)) (h1 : Near a) (h2 : Near b) (h3 : Near p) (h4 : Near q) : Near x ∧ Near y := by
  unfold meetS tidyS at h
  split at h
  · injection h with e1 e2; subst e1 e2; exact ⟨near_zero, near_zero⟩
  · injection h with e1 e2; subst e1 e2; unfold Near at *; omega
theorem less_near {s : Sp} {l : List Sp} {k : Nat} {x : Sp} (hx : (lessR s l)[k]? = some x) (h1 : Near s.1) (h2 : Near s.2) : Near x.1 ∧ Near x.2 := by
  obtain ⟨hc, hm⟩ := lessR_spec s l
  have hmem := List.mem_of_getElem? hx
  have hlt := hc.1 x hmem
  have e1 := ((hm x.1).1 ⟨x, hmem, Int.le_refl _, hlt⟩).1
  have e2 := ((hm (x.2 - 1)).1 ⟨x, hmem, by omega, by omega⟩).1
  unfold hasS at e1 e2; unfold Near at *; omega
theorem left_snoc {r : List Sp} {k : Nat} {x : Sp} (hx : r[k]? = some x) : sumS (r.take (k + 1)) = sumS (r.take k) + lenS x := by
  rw [take_snoc hx, sumS_append, sumS_cons, sumS_nil]; omega
theorem left_part (r : List Sp) (k : Nat) : 0 ≤ sumS (r.take k) ∧ sumS (r.take k) ≤ sumS r := by
  have h1 := sumS_nonneg (r.take k)
  have h2 := sumS_nonneg (r.drop k)
  have h3 : sumS r = sumS (r.take k) + sumS (r.drop k) := by rw [← sumS_append, List.take_append_drop]
  omega
theorem left_bound {s : Sp} {l : List Sp} (h : ApartL l) (k : Nat) : 0 ≤ sumMet s l + sumS ((lessR s l).take k) ∧ sumMet s l + sumS ((lessR s l).take k) ≤ lenS s := by
  have h1 := less_sum s l h
  have h2 := left_part (lessR s l) k
  have h3 := sumS_nonneg (l.map (meetS s))
  unfold sumMet; omega
theorem len_zero {x : Sp} (h : HullOk x) : (lenS x == 0) = decide (x = (0, 0)) := by
  rw [Bool.eq_iff_iff, beq_iff_eq, decide_eq_true_eq]
  rcases h with rfl | h
  · exact ⟨fun _ => rfl, fun _ => rfl⟩
  · unfold lenS
    rw [if_neg (by omega)]
    exact ⟨fun e => by omega, fun e => by rw [e]; rfl⟩
theorem meetS_ok (a b : Sp) : HullOk (meetS a b) := by
  unfold meetS tidyS
  split
  · exact .inl rfl
  · exact .inr (by omega)
theorem len_to {a b v : Int} (h : lenS (a, b) = v) (h1 : Near a) (h2 : Near b) (w : World) : Calls Try.prog 11 #[.agg #[.int .i64 a, .int .i64 b]] w fun e w' => e = .returned (.int .i64 v) ∧ Below w.heap.size w w' := by
  subst h; exact len_any _ _ _ h1 h2
theorem hull_to {zs : List Sp} {x y : Int} (h : hullL zs = (x, y)) {A : Option Addr} {n c : Nat} {w : World} (h1 : Rows 2 encS w A n zs) : Calls Try.prog 20 #[.slice A n c] w fun e w' => e = .returned (.agg #[.int .i64 x, .int .i64 y]) ∧ Below w.heap.size w w' := by
  have := hull_any A n c zs w h1
  rw [h] at this; exact this
theorem within_hull1 {a b p q x y : Int} (h : hullL [(a, b), (p, q)] = (x, y)) : decide (meetS (a, b) (x, y) = tidyS (a, b)) = true ∧ decide (meetS (p, q) (x, y) = tidyS (p, q)) = true := by
  rw [← h, decide_eq_true_eq, decide_eq_true_eq]
  exact within_hull
end Go.Proofs.Ytkbpiekmphcdnaa
