import Derived.Test.YtkbpiekmphcdnaaRectHull
import Derived.Laws.MakeOwn
/- A row of rectangles of the call's own: made, and stored into, one after another. -/
namespace Go.Proofs.Ytkbpiekmphcdnaa
open Go.RowKit
set_option linter.unusedVariables false
set_option linter.unusedSimpArgs false
theorem rect_info : (Try.prog.info? 41).map (fun i => (i.zero, i.size, i.bytes)) = some (some (.agg #[.int .i64 0, .int .i64 0, .int .i64 0, .int .i64 0]), 4, 32) := by kernel_rfl
def zeroR : Rc := ⟨0, 0, 0, 0⟩
theorem made_rects (n : Nat) : madeCells #[.int .i64 0, .int .i64 0, .int .i64 0, .int .i64 0] (n * 4) = ((List.replicate n zeroR).flatMap encR).toArray := by
  apply Array.ext'
  have e : (madeCells #[.int .i64 0, .int .i64 0, .int .i64 0, .int .i64 0] (n * 4)).toList = (List.range (n * 4)).map fun j => (#[Value.int .i64 0, .int .i64 0, .int .i64 0, .int .i64 0])[j % 4]! := by
    simp [madeCells]
  rw [e]
  show _ = (List.replicate n zeroR).flatMap encR
  apply List.ext_getElem?
  intro j
  by_cases hj : j < n * 4
  · have h1 : (List.replicate n zeroR)[j / 4]? = some zeroR := by
      rw [List.getElem?_replicate, if_pos (by omega)]
    have h4 : j % 4 = 0 ∨ j % 4 = 1 ∨ j % 4 = 2 ∨ j % 4 = 3 := by omega
    have h2 : (encR zeroR)[j % 4]? = some (.int .i64 0) := by
      rcases h4 with h | h | h | h <;> rw [h] <;> rfl
    have h3 := flat_get encR_len _ _ _ _ _ h1 h2
    rw [show j / 4 * 4 + j % 4 = j by omega] at h3
    rw [h3, List.getElem?_map, List.getElem?_range hj]
    show some ((#[Value.int .i64 0, Value.int .i64 0, Value.int .i64 0, Value.int .i64 0] : Array Value)[j % 4]!) = some (Value.int .i64 0)
    rcases h4 with h | h | h | h <;> rw [h] <;> rfl
  · rw [List.getElem?_eq_none (by simp; omega), List.getElem?_eq_none (by rw [flat_len encR_len, List.length_replicate]; omega)]
theorem make_rects (n : Nat) (hn : n ≤ 1000000) (m : Int) (hm : (n : Int) = m) (w : World) : (Instr.makeSlice 39 (.int .i64 m) (.int .i64 m)).run Try.prog w = .ok (.slice (some ⟨w.heap.size, 0, none⟩) n n) (w.alloc (.cells ((List.replicate n zeroR).flatMap encR).toArray 41)) := by
  obtain ⟨i0, hi0, hz0, hz1, hz2⟩ := info_parts rect_info
  have h := run_make (P := Try.prog) w 39 41 i0 _ Try.underlying39 hi0 hz0 .i64 .i64 m m (by omega) (Int.le_refl _) (by rw [hz2]; omega) (by omega)
  rw [hz1, show m.toNat = n by omega] at h
  rw [h]
  show Result.ok _ (w.alloc (.cells (madeCells #[.int .i64 0, .int .i64 0, .int .i64 0, .int .i64 0] (n * 4)) _)) = _
  rw [made_rects]
theorem flat_set : ∀ (zs : List Rc) (k : Nat) (r : Rc), k < zs.length → (zs.set k r).flatMap encR = ((((zs.flatMap encR).set (k * 4) (.int .i64 r.x)).set (k * 4 + 1) (.int .i64 r.y)).set (k * 4 + 2) (.int .i64 r.w)).set (k * 4 + 3) (.int .i64 r.h)
  | [], k, r, h => by simp at h
  | z :: zs, 0, r, _ => rfl
  | z :: zs, k + 1, r, h => by
    have ih := flat_set zs k r (by simpa using h)
    have e : ∀ (l : List Value) (j : Nat) (v : Value), (encR z ++ l).set ((k + 1) * 4 + j) v = encR z ++ l.set (k * 4 + j) v := fun l j v => by
      rw [List.set_append_right _ _ (by rw [encR_len]; omega), encR_len, show (k + 1) * 4 + j - 4 = k * 4 + j by omega]
    rw [List.set_cons_succ, List.flatMap_cons, List.flatMap_cons, ih]
    have e0 : (encR z ++ zs.flatMap encR).set ((k + 1) * 4) (.int .i64 r.x) = encR z ++ (zs.flatMap encR).set (k * 4) (.int .i64 r.x) := e (zs.flatMap encR) 0 (.int .i64 r.x)
    rw [e0, e, e, e]
/-- the row behind k stores. -/
def partR (f : Nat → Rc) (c k : Nat) : List Rc := (List.range c).map fun i => if i < k then f i else zeroR
theorem partR_len (f : Nat → Rc) (c k : Nat) : (partR f c k).length = c := by unfold partR; simp
theorem partR_zero (f : Nat → Rc) (c : Nat) : partR f c 0 = List.replicate c zeroR := by
  rw [List.eq_replicate_iff]
  refine ⟨partR_len f c 0, fun b hb => ?_⟩
  unfold partR at hb
  obtain ⟨i, _, rfl⟩ := List.mem_map.1 hb
  exact if_neg (Nat.not_lt_zero i)
theorem partR_all (f : Nat → Rc) (c : Nat) : partR f c c = (List.range c).map f := by
  unfold partR
  apply List.map_congr_left
  intro i hi
  rw [if_pos (List.mem_range.1 hi)]
theorem partR_get {f : Nat → Rc} {c k : Nat} (h : k < c) : (partR f c k)[k]? = some zeroR := by
  unfold partR; simp [h]
theorem partR_succ {f : Nat → Rc} {c k : Nat} (h : k < c) : partR f c (k + 1) = (partR f c k).set k (f k) := by
  apply List.ext_getElem?
  intro i
  by_cases hi : i < c
  · by_cases e : k = i
    · subst e
      rw [List.getElem?_set_self (by rw [partR_len]; exact h)]
      unfold partR; simp [h]
    · rw [List.getElem?_set_ne e]
      unfold partR
      simp only [List.getElem?_map, List.getElem?_range hi, Option.map_some]
      by_cases h2 : i < k
      · rw [if_pos (by omega), if_pos h2]
      · rw [if_neg (by omega), if_neg h2]
  · rw [List.getElem?_eq_none (by rw [partR_len]; omega), List.getElem?_eq_none (by rw [List.length_set, partR_len]; omega)]
/-- the row's cells where the next one is stored. -/
theorem part_cells {w : World} {g : Nat} {f : Nat → Rc} {c k : Nat} (hk : k < c) (h : Box w g ((partR f c k).flatMap encR)) :
    (w.cell? ⟨g, k * 4, none⟩ = some (.int .i64 0) ∧ w.cell? ⟨g, k * 4 + 1, none⟩ = some (.int .i64 0) ∧ w.cell? ⟨g, k * 4 + 2, none⟩ = some (.int .i64 0) ∧ w.cell? ⟨g, k * 4 + 3, none⟩ = some (.int .i64 0)) ∧
    (w.frozen? ⟨g, k * 4, none⟩ = false ∧ w.frozen? ⟨g, k * 4 + 1, none⟩ = false ∧ w.frozen? ⟨g, k * 4 + 2, none⟩ = false ∧ w.frozen? ⟨g, k * 4 + 3, none⟩ = false) ∧ g < w.heap.size := by
  have e : ∀ j v, (encR zeroR)[j]? = some v → w.cell? ⟨g, k * 4 + j, none⟩ = some v := fun j v hv => h.2.2 _ _ (flat_get encR_len _ _ _ _ _ (partR_get hk) hv)
  exact ⟨⟨e 0 _ rfl, e 1 _ rfl, e 2 _ rfl, e 3 _ rfl⟩, ⟨h.2.1 _, h.2.1 _, h.2.1 _, h.2.1 _⟩, h.1⟩
def set4k (w : World) (g k : Nat) (r : Rc) : World := (((w.setCell ⟨g, k * 4, none⟩ (.int .i64 r.x)).setCell ⟨g, k * 4 + 1, none⟩ (.int .i64 r.y)).setCell ⟨g, k * 4 + 2, none⟩ (.int .i64 r.w)).setCell ⟨g, k * 4 + 3, none⟩ (.int .i64 r.h)
theorem part_stored {w : World} {g : Nat} {f : Nat → Rc} {c k : Nat} (hk : k < c) (h : Box w g ((partR f c k).flatMap encR)) : Box (set4k w g k (f k)) g ((partR f c (k + 1)).flatMap encR) := by
  have hl : ((partR f c k).flatMap encR).length = c * 4 := by rw [flat_len encR_len, partR_len]
  rw [partR_succ hk, flat_set _ _ _ (by rw [partR_len]; exact hk)]
  exact (((h.set (k * 4) _ (by rw [hl]; omega)).set (k * 4 + 1) _ (by simp only [List.length_set, hl]; omega)).set (k * 4 + 2) _ (by simp only [List.length_set, hl]; omega)).set (k * 4 + 3) _ (by simp only [List.length_set, hl]; omega)
theorem other_stored {w : World} {g n : Nat} {vs : List Value} (h : Box w n vs) (hg : g ≠ n) (k : Nat) (r : Rc) : Box (set4k w g k r) n vs :=
  (((h.set_other hg (k * 4) _).set_other hg (k * 4 + 1) _).set_other hg (k * 4 + 2) _).set_other hg (k * 4 + 3) _
theorem below_stored {B : Nat} {w w' : World} {g : Nat} (h : Below B w w') (hg : B ≤ g) (k : Nat) (r : Rc) : Below B w (set4k w' g k r) :=
  Below.setCell (Below.setCell (Below.setCell (Below.setCell h hg _) hg _) hg _) hg _
/-- a block that holds a row is a slice's. -/
theorem box_rows {w : World} {g n : Nat} {zs : List Rc} (h : Box w g (zs.flatMap encR)) (hl : zs.length = n) (hn : n ≤ 1000000) : Rows 4 encR w (some ⟨g, 0, none⟩) n zs :=
  ⟨hl, by omega, fun _ => ⟨g, 0, rfl, h.1, fun i x hx j v hv => by
    rw [Nat.zero_add]; exact h.2.2 _ _ (flat_get encR_len _ _ _ _ _ hx hv)⟩⟩
end Go.Proofs.Ytkbpiekmphcdnaa
