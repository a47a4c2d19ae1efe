import Derived.Test.YtikpbgkjghcidaaBoxes
import Derived.OwnWalk
import Derived.Laws.Rows
import Derived.Laws.Tables
import Derived.Deep.WholeRow
import Derived.RangeFuncBox
/- A struct of many cells, read and written in one step: for a walk that would open it into its cells. Nothing of the program stands here. -/
namespace Go.Proofs.Ytikpbgkjghcidaa
open Go.RowKit
set_option linter.unusedVariables false
set_option linter.unusedSimpArgs false
section
variable {P : Program} {ops : Array Oper} {rest : List Oper} {o : Oper} {a : Act} {w : World} {Q : Exit → Act → World → Prop}
theorem wpList_load_row (hgd : o.guard = none) (t : TypeId) (x : Operand) (ho : o.op = .load t x) (g : Nat) (hx : a.eval x = .pointer (some ⟨g, 0, none⟩)) (te : TypeId) (cs : Array Value) (d : TypeDesc)
    (hg : w.heap[g]? = some (.cells cs te (0, 0))) (hu : P.underlying t = some d) (hd : (match d with | .struct _ | .array _ _ => true | _ => false) = true) (hi : (P.info? t).map (·.size) = some cs.size)
    (h : wpList P ops Q rest (a.put o.dst (.agg cs)) w) : wpList P ops Q (o :: rest) a w := by
  refine wpList_plain hgd fun K hK => ?_
  have hr := run_loadVar_row (P := P) w g te t cs (0, 0) d hg hu hd hi
  unfold Oper.wp
  have he : (execOp a.eval o).run P w = .ok (.value (.agg cs)) w := by
    unfold execOp
    simp only [ho, hx, Instr.loadAt, Instr.sureAddr, Sem.run_bind, Sem.run_pure, Result.andThen_ok, hr]
  rw [he, Oper.upon_value]
  exact hK _ _ h
theorem wpList_store_row (hgd : o.guard = none) (t : TypeId) (x y : Operand) (ho : o.op = .store t x y) (g : Nat) (hx : a.eval x = .pointer (some ⟨g, 0, none⟩)) (te : TypeId) (old cs : Array Value) (hy : a.eval y = .agg cs)
    (hg : w.heap[g]? = some (.cells old te (0, 0))) (hi : (P.info? t).map (·.size) = some cs.size) (hs : old.size = cs.size) (h1 : cs.all (·.oneCell') = true)
    (h : ∀ w', w' = w.setRow g cs → wpList P ops Q rest (a.put o.dst undef) w') : wpList P ops Q (o :: rest) a w := by
  refine wpList_plain hgd fun K hK => ?_
  have hr := run_storeVar_row (P := P) w g te t old cs hg hi hs h1
  unfold Oper.wp
  have he : (execOp a.eval o).run P w = .ok .skip (w.setRow g cs) := by
    unfold execOp
    simp only [ho, hx, hy, Instr.storeAt, Instr.sureAddr, Sem.run_bind, Sem.run_pure, Result.andThen_ok, hr]
  rw [he, Oper.upon_skip]
  exact hK _ _ (h _ rfl)
end
theorem setRow_heap {w : World} {g : Nat} {old cs : Array Value} {te : TypeId} (hg : w.heap[g]? = some (.cells old te (0, 0))) : (w.setRow g cs).heap[g]? = some (.cells cs te (0, 0)) := by
  obtain ⟨hlt, hk⟩ := Array.getElem?_eq_some_iff.1 hg
  show (w.heap.modify g _)[g]? = _
  rw [Array.getElem?_eq_getElem (by rw [Array.size_modify]; exact hlt), Array.getElem_modify_self, hk]
theorem setRow_other {w : World} {g k : Nat} {cs : Array Value} (hk : k ≠ g) : (w.setRow g cs).heap[k]? = w.heap[k]? := by
  show (w.heap.modify g _)[k]? = _
  rw [Array.getElem?_modify, if_neg (fun e => hk e.symm)]
theorem setRow_size (w : World) (g : Nat) (cs : Array Value) : (w.setRow g cs).heap.size = w.heap.size := by
  show (w.heap.modify g _).size = _
  rw [Array.size_modify]
theorem below_setRow {B : Nat} {a w : World} (h : Below B a w) {g : Nat} (hg : B ≤ g) (cs : Array Value) : Below B a (w.setRow g cs) :=
  h.trans ⟨rfl, rfl, rfl, by rw [setRow_size]; exact Nat.le_refl _, fun k hk => setRow_other (by omega)⟩
/-- block g holds the cells vs. -/
def Blk (w : World) (g : Nat) (t : TypeId) (vs : List Value) : Prop := w.heap[g]? = some (.cells vs.toArray t (0, 0))
theorem Blk.box {w : World} {g : Nat} {t : TypeId} {vs : List Value} (h : Blk w g t vs) : Box w g vs := by
  refine ⟨(Array.getElem?_eq_some_iff.1 h).1, fun o => by simp [World.frozen?, show w.heap[g]? = _ from h], fun j v hv => ?_⟩
  simp [World.cell?, show w.heap[g]? = _ from h]
  simpa using hv
theorem Blk.below {w w' : World} {B g : Nat} {t : TypeId} {vs : List Value} (h : Blk w g t vs) (hb : Below B w w') (hg : g < B) : Blk w' g t vs := (hb.block g hg).trans h
theorem Blk.on {w w' : World} {g : Nat} {t : TypeId} {vs : List Value} (h : Blk w g t vs) (hb : Below w.heap.size w w') : Blk w' g t vs := h.below hb (Array.getElem?_eq_some_iff.1 h).1
theorem Blk.new (w : World) (t : TypeId) (vs : List Value) (g : Nat) (hg : g = w.heap.size) (cs : Array Value) (hc : cs = vs.toArray) : Blk (w.alloc (.cells cs t)) g t vs := by subst hg hc; exact World.alloc_heap_new w _
theorem Blk.alloc {w : World} {g : Nat} {t : TypeId} {vs : List Value} (h : Blk w g t vs) (o : Obj) : Blk (w.alloc o) g t vs := h.on ((Below.refl _ _).alloc (Nat.le_refl _) o)
theorem Blk.drew {w : World} {g : Nat} {t : TypeId} {vs : List Value} (h : Blk w g t vs) : Blk w.drew g t vs := h
theorem Blk.set {w : World} {g : Nat} {t : TypeId} {vs : List Value} (h : Blk w g t vs) (j : Nat) (v : Value) : Blk (w.setCell ⟨g, j, none⟩ v) g t (vs.set j v) := by
  obtain ⟨hlt, hk⟩ := Array.getElem?_eq_some_iff.1 h
  show (w.heap.modify g _)[g]? = _
  rw [Array.getElem?_eq_getElem (by rw [Array.size_modify]; exact hlt), Array.getElem_modify_self, hk]
  simp
theorem Blk.set_other {w : World} {g m : Nat} {t : TypeId} {vs : List Value} (h : Blk w g t vs) (hm : m ≠ g) (j : Nat) (v : Value) : Blk (w.setCell ⟨m, j, none⟩ v) g t vs := (Below.heap_setCell _ _ _ _ (fun e => hm e.symm)).trans h
theorem Blk.row {w : World} {g : Nat} {t : TypeId} {vs : List Value} (h : Blk w g t vs) (us : List Value) (cs : Array Value) (hc : cs = us.toArray) : Blk (w.setRow g cs) g t us := by subst hc; exact setRow_heap h
theorem Blk.row_other {w : World} {g m : Nat} {t : TypeId} {vs : List Value} (h : Blk w g t vs) (hm : g ≠ m) (cs : Array Value) : Blk (w.setRow m cs) g t vs := (setRow_other hm).trans h
theorem Blk.grown {w w' : World} {g : Nat} {t : TypeId} {vs : List Value} {row : Option Nat} (h : Blk w g t vs) (hg : w.grownBy w' row) (hr : ∀ k, row = some k → k ≠ g) : Blk w' g t vs :=
  (hg.block g (Array.getElem?_eq_some_iff.1 h).1 (fun e => hr g e.symm rfl)).trans h
theorem owns_set {w : World} {base : Nat} {e : TypeId} {size : Nat} {v : Value} {n : Nat} {xs : List Value} (h : w.ownsRow base e size v n xs) {m : Nat} (hm : m < base) (j : Nat) (u : Value) : (w.setCell ⟨m, j, none⟩ u).ownsRow base e size v n xs := by
  refine ⟨h.1, ?_⟩
  rcases h.2 with h2 | ⟨g, cap, cur, h1, h2, h3, h4⟩
  · exact .inl h2
  · exact .inr ⟨g, cap, cur, h1, h2, (Below.heap_setCell _ _ _ _ (fun e => by simp at e; omega)).trans h3, h4⟩
end Go.Proofs.Ytikpbgkjghcidaa
