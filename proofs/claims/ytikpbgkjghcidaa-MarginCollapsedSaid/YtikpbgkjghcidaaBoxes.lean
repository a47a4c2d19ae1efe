import Derived.Test.YtikpbgkjghcidaaWords
/- Blocks of the call's own that hold a struct, one cell a field: what a world says of one, and how long it stays true. Worlds behind a world. Nothing of the program stands here. -/
namespace Go.Proofs.Ytikpbgkjghcidaa
open Go.RowKit
set_option linter.unusedVariables false
set_option linter.unusedSimpArgs false

/-- block n holds the cells vs, none of them frozen. -/
def Box (w : World) (n : Nat) (vs : List Value) : Prop := n < w.heap.size ∧ (∀ o, w.frozen? ⟨n, o, none⟩ = false) ∧ ∀ (j : Nat) (v : Value), vs[j]? = some v → w.cell? ⟨n, j, none⟩ = some v
theorem Box.lt {w : World} {n : Nat} {vs : List Value} (h : Box w n vs) : n < w.heap.size := h.1
theorem Box.below {w w' : World} {n : Nat} {vs : List Value} (h : Box w n vs) (hb : Below w.heap.size w w') : Box w' n vs :=
  ⟨Nat.lt_of_lt_of_le h.1 hb.size, fun o => (hb.frozen (p := ⟨n, o, none⟩) h.1).trans (h.2.1 o), fun j v hv => (hb.cell (p := ⟨n, j, none⟩) h.1).trans (h.2.2 j v hv)⟩
theorem Box.belowB {B : Nat} {w w' : World} {n : Nat} {vs : List Value} (h : Box w n vs) (hb : Below B w w') (hn : n < B) : Box w' n vs :=
  ⟨Nat.lt_of_lt_of_le h.1 hb.size, fun o => (hb.frozen (p := ⟨n, o, none⟩) hn).trans (h.2.1 o), fun j v hv => (hb.cell (p := ⟨n, j, none⟩) hn).trans (h.2.2 j v hv)⟩
theorem Box.drew {w : World} {n : Nat} {vs : List Value} (h : Box w n vs) : Box w.drew n vs := ⟨h.1, h.2.1, h.2.2⟩
theorem Box.alloc {w : World} {n : Nat} {vs : List Value} (h : Box w n vs) (o : Obj) : Box (w.alloc o) n vs := h.below ((Below.refl _ _).alloc (Nat.le_refl _) o)
theorem Box.new (w : World) (vs : List Value) (t : TypeId) : Box (w.alloc (.cells vs.toArray t)) w.heap.size vs :=
  ⟨by simp, fun o => World.frozen?_alloc_new w vs.toArray t o, fun j v hv => by rw [World.cell?_alloc_new]; simpa using hv⟩
theorem Box.new2 (w : World) (a b : Value) (t : TypeId) : Box (w.alloc (.cells #[a, b] t)) w.heap.size [a, b] := Box.new w [a, b] t
theorem Box.new2' (w : World) (a b : Value) (t : TypeId) (n : Nat) (h : n = w.heap.size) : Box (w.alloc (.cells #[a, b] t)) n [a, b] := by subst h; exact Box.new w [a, b] t
theorem Box.set {w : World} {n : Nat} {vs : List Value} (h : Box w n vs) (j : Nat) (v : Value) (hj : j < vs.length) : Box (w.setCell ⟨n, j, none⟩ v) n (vs.set j v) := by
  refine ⟨by simpa using h.1, fun o => by rw [World.frozen?_setCell]; exact h.2.1 o, fun i u hu => ?_⟩
  by_cases e : j = i
  · subst e
    rw [List.getElem?_set_self hj] at hu
    injection hu with hu
    subst hu
    exact World.cell?_setCell_same _ _ _ (h.2.2 j vs[j] (List.getElem?_eq_getElem hj))
  · rw [List.getElem?_set_ne e] at hu
    rw [World.cell?_setCell_other _ _ _ _ (fun k => e (by injection k))]
    exact h.2.2 i u hu
theorem Box.set_other {w : World} {n m : Nat} {vs : List Value} (h : Box w n vs) (hm : m ≠ n) (j : Nat) (v : Value) : Box (w.setCell ⟨m, j, none⟩ v) n vs :=
  ⟨by simpa using h.1, fun o => by rw [World.frozen?_setCell]; exact h.2.1 o, fun i u hu => by
    rw [World.cell?_setCell_other _ _ _ _ (fun k => hm (by injection k))]; exact h.2.2 i u hu⟩
theorem Box.of1 {w : World} {n : Nat} {a : Value} (h : Box w n [a]) : w.cell? ⟨n, 0, none⟩ = some a ∧ w.frozen? ⟨n, 0, none⟩ = false ∧ n < w.heap.size :=
  ⟨h.2.2 0 _ rfl, h.2.1 _, h.1⟩
theorem Box.of2 {w : World} {n : Nat} {a b : Value} (h : Box w n [a, b]) : w.cell? ⟨n, 0, none⟩ = some a ∧ w.cell? ⟨n, 1, none⟩ = some b ∧ w.frozen? ⟨n, 0, none⟩ = false ∧ w.frozen? ⟨n, 1, none⟩ = false ∧ n < w.heap.size :=
  ⟨h.2.2 0 _ rfl, h.2.2 1 _ rfl, h.2.1 _, h.2.1 _, h.1⟩

theorem bcell {W w1 : World} (hb : Below W.heap.size W w1) : (∀ b o, b < W.heap.size → w1.cell? ⟨b, o, none⟩ = W.cell? ⟨b, o, none⟩) ∧ (∀ b o, b < W.heap.size → w1.frozen? ⟨b, o, none⟩ = W.frozen? ⟨b, o, none⟩) :=
  ⟨fun b o h => hb.cell (p := ⟨b, o, none⟩) h, fun b o h => hb.frozen (p := ⟨b, o, none⟩) h⟩
theorem below_then {W w1 w2 : World} (h : Below W.heap.size W w1) (hb : Below w1.heap.size w1 w2) : Below W.heap.size W w2 := h.trans (hb.mono h.size)

/-- a world behind W, in which all of W is as it was. -/
def On (W W' : World) : Prop := Below W.heap.size W W'
theorem On.refl (W : World) : On W W := Below.refl _ _
theorem On.drew {W W' : World} (h : On W W') : On W W'.drew := Below.drew h
theorem On.step {W w1 w2 : World} (h : On W w1) (hb : Below w1.heap.size w1 w2) : On W w2 := below_then h hb
theorem On.cell {W : World} {a : Addr} {v : Value} (h : W.cell? a = some v) : ∀ W', On W W' → W'.cell? a = some v := fun W' hW => (Below.cell hW (p := a) (cell_lt h)).trans h
theorem On.box {W : World} {n : Nat} {vs : List Value} (h : Box W n vs) : ∀ W', On W W' → Box W' n vs := fun W' hW => h.below hW
theorem On.of1 {W : World} {n : Nat} {a : Value} (h : Box W n [a]) : ∀ W', On W W' → W'.cell? ⟨n, 0, none⟩ = some a := On.cell (h.2.2 0 _ rfl)
theorem On.of2 {W : World} {n : Nat} {a b : Value} (h : Box W n [a, b]) : (∀ W', On W W' → W'.cell? ⟨n, 0, none⟩ = some a) ∧ (∀ W', On W W' → W'.cell? ⟨n, 1, none⟩ = some b) := ⟨On.cell (h.2.2 0 _ rfl), On.cell (h.2.2 1 _ rfl)⟩
end Go.Proofs.Ytikpbgkjghcidaa
