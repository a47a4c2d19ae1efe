import Derived.RangeFuncBox
import Derived.RangeFuncNested
import Derived.Test.YtikpbgkjghcidaaBoxes
/- Blocks of the call's own that hold a struct of any number of cells, as an object of the heap: kept while an iterator runs. Nothing of the program stands here. -/
namespace Go.Proofs.Ytikpbgkjghcidaa
open Go.RowKit
set_option linter.unusedVariables false
set_option linter.unusedSimpArgs false
def BoxN (W : World) (B : Nat) (t : TypeId) (vs : List Value) : Prop := W.heap[B]? = some (.cells vs.toArray t (0, 0))
theorem BoxN.lt {W : World} {B : Nat} {t : TypeId} {vs : List Value} (h : BoxN W B t vs) : B < W.heap.size := (Array.getElem?_eq_some_iff.1 h).1
theorem BoxN.box {W : World} {B : Nat} {t : TypeId} {vs : List Value} (h : BoxN W B t vs) : Box W B vs :=
  ⟨h.lt, fun o => by simp [World.frozen?, show W.heap[B]? = _ from h], fun j v hj => by simp [World.cell?, show W.heap[B]? = _ from h, hj]⟩
theorem BoxN.cell {W : World} {B : Nat} {t : TypeId} {vs : List Value} (h : BoxN W B t vs) {j : Nat} {v : Value} (hj : vs[j]? = some v) : W.cell? ⟨B, j, none⟩ = some v := h.box.2.2 j v hj
theorem BoxN.frozen {W : World} {B : Nat} {t : TypeId} {vs : List Value} (h : BoxN W B t vs) (j : Nat) : W.frozen? ⟨B, j, none⟩ = false := h.box.2.1 j
theorem BoxN.new (W : World) (t : TypeId) (vs : List Value) : BoxN (W.alloc (.cells vs.toArray t)) W.heap.size t vs := World.alloc_heap_new W _
theorem BoxN.kept {W W' : World} {row : Option Nat} {B : Nat} {t : TypeId} {vs : List Value} (h : BoxN W B t vs) (hg : W.grownBy W' row) (hne : some B ≠ row) : BoxN W' B t vs := (hg.block B h.lt hne).trans h
theorem BoxN.drew {W : World} {B : Nat} {t : TypeId} {vs : List Value} (h : BoxN W B t vs) : BoxN W.drew B t vs := h
theorem BoxN.alloc {W : World} {B : Nat} {t : TypeId} {vs : List Value} (h : BoxN W B t vs) (o : Obj) : BoxN (W.alloc o) B t vs := h.kept (World.grownBy_alloc W o none) (by simp)
theorem BoxN.below {W W' : World} {B n : Nat} {t : TypeId} {vs : List Value} (h : BoxN W B t vs) (hb : Below n W W') (hn : B < n) : BoxN W' B t vs := (hb.block B hn).trans h
theorem BoxN.set {W : World} {B : Nat} {t : TypeId} {vs : List Value} (h : BoxN W B t vs) (j : Nat) (v : Value) : BoxN (W.setCell ⟨B, j, none⟩ v) B t (vs.set j v) := by
  obtain ⟨hlt, hk⟩ := Array.getElem?_eq_some_iff.1 h
  show (W.heap.modify B _)[B]? = _
  rw [Array.getElem?_eq_getElem (by rw [Array.size_modify]; exact hlt), Array.getElem_modify_self, hk]
  simp
theorem BoxN.other {W : World} {B B' j : Nat} {t : TypeId} {vs : List Value} (h : BoxN W B t vs) (hne : B ≠ B') (u : Value) : BoxN (W.setCell ⟨B', j, none⟩ u) B t vs := by
  show (W.heap.modify B' _)[B]? = _
  rw [Array.getElem?_modify, if_neg (fun e => hne e.symm)]
  exact h
theorem grownBy_setCellN (W : World) (b j : Nat) (v : Value) : W.grownBy (W.setCell ⟨b, j, none⟩ v) (some b) :=
  ⟨rfl, rfl, rfl, (KeepsWalks.setCell W _ v).size, fun k _ hk => Below.heap_setCell _ _ _ k (fun e => hk (by rw [e]))⟩
/-- an iterator leaves it, wherever its own record lies. -/
theorem BoxN.own {k n : Nat} {t : TypeId} {vs : List Value} {X Y : World} {row : Option Nat} (hs : BoxN X k t vs) (hg : X.grownBy Y row) (hr : ∀ r, row = some r → n ≤ r ∧ ∃ o : Obj, X.heap[r]? = some o ∧ o.isCells = false) : BoxN Y k t vs :=
  hs.kept hg (fun e' => by
    obtain ⟨_, o, ho, hc⟩ := hr k e'.symm
    rw [show X.heap[k]? = _ from hs] at ho; cases ho; cases hc)
end Go.Proofs.Ytikpbgkjghcidaa
