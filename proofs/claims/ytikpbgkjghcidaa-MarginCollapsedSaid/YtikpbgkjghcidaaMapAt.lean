import Derived.Test.YtikpbgkjghcidaaStop
import Derived.Test.YtikpbgkjghcidaaSlices
import Derived.Maps.OwnOps
import Derived.Maps.AppendAt
/- A map of the call's own whose keys are whole numbers and whose values are no data (closures): what it holds, entry by entry; an entry put in, an entry looked up. Nothing of the program stands here. -/
namespace Go.Proofs.Ytikpbgkjghcidaa
open Go.RowKit Go.ChangeMaps Go.MapKept
set_option linter.unusedVariables false
set_option linter.unusedSimpArgs false
/-- block b is a map that holds these entries, in the order in which they were put in. -/
def MapAt (w : World) (b : Nat) (l : List (Int × Value)) : Prop := w.heap[b]? = some (.map ((l.zipIdx.map fun p => ({ key := .int .i64 p.1.1, val := p.1.2, born := p.2 } : MapEntry)).toArray) l.length)
theorem MapAt.lt {w : World} {b : Nat} {l : List (Int × Value)} (h : MapAt w b l) : b < w.heap.size := (Array.getElem?_eq_some_iff.1 h).1
theorem MapAt.grown {w w' : World} {b : Nat} {l : List (Int × Value)} {row : Option Nat} (h : MapAt w b l) (hg : w.grownBy w' row) (hr : ∀ k, row = some k → k ≠ b) : MapAt w' b l :=
  (hg.block b h.lt (fun e => hr b e.symm rfl)).trans h
theorem MapAt.below {w w' : World} {b : Nat} {l : List (Int × Value)} (h : MapAt w b l) (hb : Below w.heap.size w w') : MapAt w' b l := (hb.block b h.lt).trans h
theorem MapAt.new (w : World) : MapAt (w.alloc (.map #[] 0)) w.heap.size [] := World.alloc_heap_new w _
theorem MapAt.new' (w : World) (n : Nat) (h : n = w.heap.size) : MapAt (w.alloc (.map #[] 0)) n [] := by subst h; exact World.alloc_heap_new w _
theorem findNow_none : ∀ (l : List (Int × Value)) (z : Int) (j i : Nat), (∀ p ∈ l, p.1 ≠ z) →
    Instr.findNow (.int .i64) (.int .i64 z) ((l.zipIdx j).map fun p => ({ key := .int .i64 p.1.1, val := p.1.2, born := p.2 } : MapEntry)) i = some none
  | [], z, j, i, _ => rfl
  | (x, v) :: l, z, j, i, h => by
    have hx : x ≠ z := h (x, v) (by simp)
    have hb : (z == x) = false := by simpa using fun e : z = x => hx e.symm
    rw [List.zipIdx_cons, List.map_cons]
    unfold Instr.findNow
    simp only [Instr.sameNow, hb, if_true]
    exact findNow_none l z (j + 1) (i + 1) (fun p hp => h p (by simp [hp]))
theorem findNow_some : ∀ (l : List (Int × Value)) (z : Int) (v : Value) (j i k : Nat), l[k]? = some (z, v) → (∀ q x u, q < k → l[q]? = some (x, u) → x ≠ z) →
    Instr.findNow (.int .i64) (.int .i64 z) ((l.zipIdx j).map fun p => ({ key := .int .i64 p.1.1, val := p.1.2, born := p.2 } : MapEntry)) i = some (some (i + k, v))
  | [], z, v, j, i, k, h, _ => by simp at h
  | (x, u) :: l, z, v, j, i, 0, h, _ => by
    simp only [List.getElem?_cons_zero, Option.some.injEq, Prod.mk.injEq] at h
    obtain ⟨rfl, rfl⟩ := h
    rw [List.zipIdx_cons, List.map_cons]
    unfold Instr.findNow
    simp [Instr.sameNow]
  | (x, u) :: l, z, v, j, i, k + 1, h, hf => by
    have hx : x ≠ z := hf 0 x u (by omega) rfl
    have hb : (z == x) = false := by simpa using fun e : z = x => hx e.symm
    rw [List.zipIdx_cons, List.map_cons]
    unfold Instr.findNow
    simp only [Instr.sameNow, hb, if_true]
    rw [show i + (k + 1) = i + 1 + k by omega]
    exact findNow_some l z v (j + 1) (i + 1) k (by simpa using h) (fun q x u hq hx => hf (q + 1) x u (by omega) (by simpa using hx))
section
variable {P : Program} {w : World} {mty kt et : TypeId} {b : Nat} {l : List (Int × Value)} {z : Int} {val : Value}
theorem run_insert_at (hm : P.underlying mty = some (.map kt et)) (hk : P.underlying kt = some (.int .i64)) (hb : MapAt w b l) (hz : ∀ p ∈ l, p.1 ≠ z) :
    ∃ w', (Instr.mapUpdate mty (.map (some b)) (.int .i64 z) val).run P w = .ok () w' ∧ MapAt w' b (l ++ [(z, val)]) ∧ w.grownBy w' (some b) := by
  have hc : (Instr.checkKey false 10000 kt (.int .i64 z)).run P w = .ok () w := MapKept.run_checkKey (k := .int .i64 z) hk (by simp [MapKept.IsKey]) false 9999
  have hf := findNow_none l z 0 0 hz
  refine ⟨{ w with heap := w.heap.setIfInBounds b (.map ((((l ++ [(z, val)]).zipIdx.map fun p => ({ key := .int .i64 p.1.1, val := p.1.2, born := p.2 } : MapEntry)).toArray)) (l ++ [(z, val)]).length) }, ?_, (heap_set hb).1, ⟨rfl, rfl, rfl, by simp, fun i _ hi => (heap_set hb).2 i (fun e => hi (by rw [e]))⟩⟩
  simp [Instr.mapUpdate, run_underlying hm, MapKept.run_getObj_map hb, hc, MapKept.run_findKey hk hf, MapKept.run_setObj_map _ hb, Result.andThen, List.zipIdx_append]
theorem run_lookup_in {k : Nat} (hm : P.underlying mty = some (.map kt et)) (hk : P.underlying kt = some (.int .i64)) (hb : MapAt w b l) (hz : l[k]? = some (z, val)) (hn : ∀ q x u, q < k → l[q]? = some (x, u) → x ≠ z) :
    (Instr.lookup mty (.map (some b)) (.int .i64 z) true).run P w = .ok (.tuple #[val, .bool true]) w := by
  have hc : ∀ e, (Instr.checkKey e 10000 kt (.int .i64 z)).run P w = .ok () w := fun e => MapKept.run_checkKey (k := .int .i64 z) hk (by simp [MapKept.IsKey]) e 9999
  have hf := findNow_some l z val 0 0 k hz hn
  simp [Instr.lookup, run_underlying hm, MapKept.run_getObj_map hb, hc, MapKept.run_findKey hk hf, Result.andThen]
theorem run_lookup_out {u : Value} (hm : P.underlying mty = some (.map kt et)) (hk : P.underlying kt = some (.int .i64)) (hu : (zeroValue et).run P w = .ok u w) (hb : MapAt w b l) (hz : ∀ p ∈ l, p.1 ≠ z) :
    (Instr.lookup mty (.map (some b)) (.int .i64 z) true).run P w = .ok (.tuple #[u, .bool false]) w := by
  have hc : ∀ e, (Instr.checkKey e 10000 kt (.int .i64 z)).run P w = .ok () w := fun e => MapKept.run_checkKey (k := .int .i64 z) hk (by simp [MapKept.IsKey]) e 9999
  have hf := findNow_none l z 0 0 hz
  simp [Instr.lookup, run_underlying hm, MapKept.run_getObj_map hb, hc, MapKept.run_findKey hk hf, hu, Result.andThen]
end
def isInsert : Op → Bool
  | .insert .. => true
  | _ => false
section
variable {P : Program} {ops : Array Oper} {rest : List Oper} {o : Oper} {a : Act} {w : World} {Q : Exit → Act → World → Prop}
/-- ahead of an entry that is put in. -/
theorem stop_insert (ho : isInsert o.op = true) (h : Stop (wpList P ops Q (o :: rest) a w)) : wpList P ops Q (o :: rest) a w := h
theorem wpList_insert_at (hg : o.guard = none) (t : TypeId) (m x v : Operand) (hop : o.op = .insert t m x v) (kt et : TypeId) (hm : P.underlying t = some (.map kt et)) (hk : P.underlying kt = some (.int .i64)) (b : Nat) (l : List (Int × Value)) (z : Int) (val : Value)
    (hb : MapAt w b l) (em : a.eval m = .map (some b)) (ex : a.eval x = .int .i64 z) (ev : a.eval v = val) (hz : ∀ p ∈ l, p.1 ≠ z)
    (h : ∀ w', MapAt w' b (l ++ [(z, val)]) → w.grownBy w' (some b) → wpList P ops Q rest (a.put o.dst undef) w') : wpList P ops Q (o :: rest) a w := by
  obtain ⟨w', hr, h1, h2⟩ := run_insert_at (P := P) (val := val) hm hk hb hz
  refine wpList_plain hg fun K' hK' => ?_
  unfold Oper.wp
  simp [execOp, hop, em, ex, ev, hr, Result.andThen]
  exact hK' _ _ (h w' h1 h2)
theorem wpList_lookup_at (hg : o.guard = none) (t : TypeId) (m x : Operand) (hop : o.op = .lookup t m x true) (b : Nat) (z : Int) (r : Value) (em : a.eval m = .map (some b)) (ex : a.eval x = .int .i64 z)
    (hr : (Instr.lookup t (.map (some b)) (.int .i64 z) true).run P w = .ok r w) (h : wpList P ops Q rest (a.put o.dst r) w) : wpList P ops Q (o :: rest) a w := by
  refine wpList_plain hg fun K' hK' => ?_
  unfold Oper.wp
  simp [execOp, hop, em, ex, hr, Result.andThen]
  exact hK' _ _ h
end
end Go.Proofs.Ytikpbgkjghcidaa
