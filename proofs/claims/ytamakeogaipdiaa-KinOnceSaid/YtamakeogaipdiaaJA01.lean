import Derived.RangeFuncBox
import Derived.RangeFuncNested
import Derived.Test.YtamakeogaipdiaaJA00
import Derived.OwnWalk
import Derived.Laws.Rows
import Derived.Laws.Tables
import Derived.Deep.WholeRow
import Derived.Deep.Slices
import Derived.StillTail
import Derived.OrdersHeld
import Derived.Deep.RegionHeld
import Derived.Handy
import Derived.Maps.AppendAt
/- Blocks of the call's own that hold a struct of any number of cells, as an object of the heap: kept while an iterator runs. Nothing of the program stands here. -/
namespace Go.Proofs.Ytamakeogaipdiaa
open Go.RowKit
set_option linter.unusedVariables false
set_option linter.unusedSimpArgs false
def BoxN (W : World) (B : Nat) (t : TypeId) (vs : List Value) : Prop := W.heap[B]? = some (.cells vs.toArray t (0, 0))
theorem BoxN.lt {W : World} {B : Nat} {t : TypeId} {vs : List Value} (h : BoxN W B t vs) : B < W.heap.size := (Array.getElem?_eq_some_iff.1 h).1
theorem BoxN.box {W : World} {B : Nat} {t : TypeId} {vs : List Value} (h : BoxN W B t vs) : Box W B vs :=
  ⟨h.lt, fun o => by simp [World.frozen?, show W.heap[B]? = _ from h], fun j v hj => by simp [World.cell?, show W.heap[B]? = _ from h, hj]⟩
theorem BoxN.cell {W : World} {B : Nat} {t : TypeId} {vs : List Value} (h : BoxN W B t vs) {j : Nat} {v : Value} (hj : vs[j]? = some v) : W.cell? ⟨B, j, none⟩ = some v := h.box.2.2 j v hj
theorem BoxN.frozen {W : World} {B : Nat} {t : TypeId} {vs : List Value} (h : BoxN W B t vs) (j : Nat) : W.frozen? ⟨B, j, none⟩ = false := h.box.2.1 j
theorem BoxN.new (W : World) (t : TypeId) (vs : List Value) : BoxN (W.alloc (.cells vs.toArray t)) W.heap.size t vs := World.alloc_heap_new W _
theorem BoxN.kept {W W' : World} {row : Option Nat} {B : Nat} {t : TypeId} {vs : List Value} (h : BoxN W B t vs) (hg : W.grownBy W' row) (hne : some B ≠ row) : BoxN W' B t vs := (hg.block B h.lt hne).trans h
theorem BoxN.drew {W : World} {B : Nat} {t : TypeId} {vs : List Value} (h : BoxN W B t vs) : BoxN W.drew B t vs := h
theorem BoxN.alloc {W : World} {B : Nat} {t : TypeId} {vs : List Value} (h : BoxN W B t vs) (o : Obj) : BoxN (W.alloc o) B t vs := h.kept (World.grownBy_alloc W o none) (by simp)
theorem BoxN.below {W W' : World} {B n : Nat} {t : TypeId} {vs : List Value} (h : BoxN W B t vs) (hb : Below n W W') (hn : B < n) : BoxN W' B t vs := (hb.block B hn).trans h
theorem BoxN.set {W : World} {B : Nat} {t : TypeId} {vs : List Value} (h : BoxN W B t vs) (j : Nat) (v : Value) : BoxN (W.setCell ⟨B, j, none⟩ v) B t (vs.set j v) := by
  obtain ⟨hlt, hk⟩ := Array.getElem?_eq_some_iff.1 h
  show (W.heap.modify B _)[B]? = _
  rw [Array.getElem?_eq_getElem (by rw [Array.size_modify]; exact hlt), Array.getElem_modify_self, hk]
  simp
theorem BoxN.other {W : World} {B B' j : Nat} {t : TypeId} {vs : List Value} (h : BoxN W B t vs) (hne : B ≠ B') (u : Value) : BoxN (W.setCell ⟨B', j, none⟩ u) B t vs := by
  show (W.heap.modify B' _)[B]? = _
  rw [Array.getElem?_modify, if_neg (fun e => hne e.symm)]
  exact h
theorem grownBy_setCellN (W : World) (b j : Nat) (v : Value) : W.grownBy (W.setCell ⟨b, j, none⟩ v) (some b) :=
  ⟨rfl, rfl, rfl, (KeepsWalks.setCell W _ v).size, fun k _ hk => Below.heap_setCell _ _ _ k (fun e => hk (by rw [e]))⟩
/-- an iterator leaves it, wherever its own record lies. -/
theorem BoxN.own {k n : Nat} {t : TypeId} {vs : List Value} {X Y : World} {row : Option Nat} (hs : BoxN X k t vs) (hg : X.grownBy Y row) (hr : ∀ r, row = some r → n ≤ r ∧ ∃ o : Obj, X.heap[r]? = some o ∧ o.isCells = false) : BoxN Y k t vs :=
  hs.kept hg (fun e' => by
    obtain ⟨_, o, ho, hc⟩ := hr k e'.symm
    rw [show X.heap[k]? = _ from hs] at ho; cases ho; cases hc)
end Go.Proofs.Ytamakeogaipdiaa
/- A character of a script, written as UTF-8 anew, is the bytes that stand there. Nothing of the program stands here. -/
namespace Go.Proofs.Ytamakeogaipdiaa
open Go
set_option linter.unusedVariables false
set_option linter.unusedSimpArgs false
theorem get_data (s : ByteArray) (i : Nat) (h : i < s.size) : s.data[i]? = some (s.get! i) := by
  have h2 : i < s.data.size := h
  rw [Array.getElem?_eq_getElem h2]
  show some _ = some (s.data[i]!)
  rw [getElem!_pos s.data i h2]
theorem extract_list (s : ByteArray) (p : Nat) : ∀ (z : Nat) (l : List UInt8), l.length = z → p + z ≤ s.size → (∀ j u, l[j]? = some u → s.get! (p + j) = u) → s.extract p (p + z) = ⟨l.toArray⟩ := by
  intro z l hl hz hu
  apply ByteArray.ext
  rw [ByteArray.data_extract]
  apply Array.ext'
  apply List.ext_getElem?
  intro j
  have hs : s.data.size = s.size := rfl
  rw [Array.getElem?_toList, Array.getElem?_extract]
  simp only [List.getElem?_toArray, Array.getElem?_toList]
  by_cases hj : j < z
  · have hl2 : l[j]? = some l[j] := List.getElem?_eq_getElem (by omega)
    rw [hl2, ← hu j _ hl2]
    rw [if_pos (by omega)]
    exact get_data s (p + j) (by omega)
  · rw [List.getElem?_eq_none (by omega), if_neg (by omega)]
theorem ofNat_get (s : ByteArray) (i n : Nat) (h : n = (s.get! i).toNat) : s.get! i = UInt8.ofNat n := by
  subst h; simp
theorem encode_rune {s : ByteArray} {p : Nat} (hz : sizeB s p ≠ 0) : Utf8.encode (runeB s p (sizeB s p)) = s.extract p (p + sizeB s p) := by
  have hin := sizeB_in (s := s) (k := p) (by omega)
  have hk : p < s.size := by omega
  have hs := sizeB_sizeN s p hk
  have e0 : bAt s p = ((s.get! p).toNat : Int) := rfl
  have e1 : bAt s (p + 1) = ((s.get! (p + 1)).toNat : Int) := rfl
  have e2 : bAt s (p + 2) = ((s.get! (p + 2)).toNat : Int) := rfl
  have e3 : bAt s (p + 3) = ((s.get! (p + 3)).toNat : Int) := rfl
  have g0 := ofNat_get s p
  have g1 := ofNat_get s (p + 1)
  have g2 := ofNat_get s (p + 2)
  have g3 := ofNat_get s (p + 3)
  generalize hb0 : (s.get! p).toNat = b0 at *
  generalize hb1 : (s.get! (p + 1)).toNat = b1 at *
  generalize hb2 : (s.get! (p + 2)).toNat = b2 at *
  generalize hb3 : (s.get! (p + 3)).toNat = b3 at *
  unfold sizeN at hs
  split at hs
  · rename_i c
    have hr : runeB s p (sizeB s p) = (b0 : Int) := by rw [hs]; show bAt s p = _; rw [e0]
    rw [hs] at hin
    rw [hr, hs]
    rw [extract_list s p 1 [UInt8.ofNat b0] rfl hin (fun j u hj => by
      match j, hj with
      | 0, hj => exact (g0 b0 rfl).trans (Option.some.inj hj))]
    unfold Utf8.encode
    have v : Utf8.valid (b0 : Int) = true := by unfold Utf8.valid; simp; omega
    simp only [v, if_true, Int.toNat_natCast, show b0 < 128 by omega]
  split at hs
  · rename_i c1 c
    have hr : runeB s p (sizeB s p) = ((64 * (b0 - 192) + (b1 - 128) : Nat) : Int) := by rw [hs]; show 64 * (bAt s p - 192) + bAt s (p + 1) - 128 = _; rw [e0, e1]; omega
    rw [hs] at hin
    rw [hr, hs]
    generalize hc : 64 * (b0 - 192) + (b1 - 128) = cc
    rw [extract_list s p 2 [UInt8.ofNat (192 + cc / 64), UInt8.ofNat (128 + cc % 64)] rfl hin (fun j u hj => by
      match j, hj with
      | 0, hj => exact (g0 _ (by omega)).trans (Option.some.inj hj)
      | 1, hj => exact (g1 _ (by omega)).trans (Option.some.inj hj))]
    unfold Utf8.encode
    have v : Utf8.valid (cc : Int) = true := by unfold Utf8.valid; simp; omega
    simp only [v, if_true, Int.toNat_natCast, show ¬ cc < 128 by omega, show cc < 2048 by omega, if_false]
  split at hs
  · rename_i c1 c2 c
    have hr : runeB s p (sizeB s p) = ((64 * (64 * (b0 - 224) + (b1 - 128)) + (b2 - 128) : Nat) : Int) := by rw [hs]; show 64 * (64 * (bAt s p - 224) + bAt s (p + 1) - 128) + bAt s (p + 2) - 128 = _; rw [e0, e1, e2]; omega
    rw [hs] at hin
    rw [hr, hs]
    generalize hc : 64 * (64 * (b0 - 224) + (b1 - 128)) + (b2 - 128) = cc
    rw [extract_list s p 3 [UInt8.ofNat (224 + cc / 4096), UInt8.ofNat (128 + cc / 64 % 64), UInt8.ofNat (128 + cc % 64)] rfl hin (fun j u hj => by
      match j, hj with
      | 0, hj => exact (g0 _ (by omega)).trans (Option.some.inj hj)
      | 1, hj => exact (g1 _ (by omega)).trans (Option.some.inj hj)
      | 2, hj => exact (g2 _ (by omega)).trans (Option.some.inj hj))]
    unfold Utf8.encode
    have v : Utf8.valid (cc : Int) = true := by unfold Utf8.valid; simp; omega
    simp only [v, if_true, Int.toNat_natCast, show ¬ cc < 128 by omega, show ¬ cc < 2048 by omega, show cc < 65536 by omega, if_false]
  split at hs
  · rename_i c1 c2 c3 c
    have hr : runeB s p (sizeB s p) = ((64 * (64 * (64 * (b0 - 240) + (b1 - 128)) + (b2 - 128)) + (b3 - 128) : Nat) : Int) := by rw [hs]; show 64 * (64 * (64 * (bAt s p - 240) + bAt s (p + 1) - 128) + bAt s (p + 2) - 128) + bAt s (p + 3) - 128 = _; rw [e0, e1, e2, e3]; omega
    rw [hs] at hin
    rw [hr, hs]
    generalize hc : 64 * (64 * (64 * (b0 - 240) + (b1 - 128)) + (b2 - 128)) + (b3 - 128) = cc
    rw [extract_list s p 4 [UInt8.ofNat (240 + cc / 262144), UInt8.ofNat (128 + cc / 4096 % 64), UInt8.ofNat (128 + cc / 64 % 64), UInt8.ofNat (128 + cc % 64)] rfl hin (fun j u hj => by
      match j, hj with
      | 0, hj => exact (g0 _ (by omega)).trans (Option.some.inj hj)
      | 1, hj => exact (g1 _ (by omega)).trans (Option.some.inj hj)
      | 2, hj => exact (g2 _ (by omega)).trans (Option.some.inj hj)
      | 3, hj => exact (g3 _ (by omega)).trans (Option.some.inj hj))]
    unfold Utf8.encode
    have v : Utf8.valid (cc : Int) = true := by unfold Utf8.valid; simp; omega
    simp only [v, if_true, Int.toNat_natCast, show ¬ cc < 128 by omega, show ¬ cc < 2048 by omega, show ¬ cc < 65536 by omega, if_false]
  · exact absurd hs hz
theorem bAt_extract (s : ByteArray) (i j k : Nat) (hj : j ≤ s.size) (hk : i + k < j) : bAt (s.extract i j) k = bAt s (i + k) := by
  unfold bAt
  congr 2
  show (s.extract i j).data[k]! = s.data[i + k]!
  have hs : s.data.size = s.size := rfl
  rw [getElem!_def, getElem!_def, ByteArray.data_extract, Array.getElem?_extract, if_pos (by omega)]
theorem nstF_extract (s : ByteArray) (i j : Nat) (hj : j ≤ s.size) : ∀ (n k : Nat) (c : Bool), i + k + n ≤ j → nstF (s.extract i j) n k c = nstF s n (i + k) c
  | 0, k, c, _ => rfl
  | n + 1, k, c, h => by
    have ih := fun c => nstF_extract s i j hj n (k + 1) c (by omega)
    rw [nstF, nstF, bAt_extract s i j k hj (by omega)]
    simp only [ih, show i + (k + 1) = i + k + 1 by omega]
end Go.Proofs.Ytamakeogaipdiaa
/- A script, LF, and another one, as bytes. Nothing of the program stands here. -/
namespace Go.Proofs.Ytamakeogaipdiaa
open Go
set_option linter.unusedVariables false
set_option linter.unusedSimpArgs false
theorem bAt_left (x y : ByteArray) (i : Nat) (h : i < x.size) : bAt (x ++ y) i = bAt x i := by
  unfold bAt
  congr 2
  show (x ++ y).data[i]! = x.data[i]!
  rw [ByteArray.data_append, getElem!_def, getElem!_def, Array.getElem?_append_left h]
theorem bAt_right (x y : ByteArray) (i : Nat) : bAt (x ++ y) (x.size + i) = bAt y i := by
  unfold bAt
  congr 2
  show (x ++ y).data[x.size + i]! = y.data[i]!
  have hs : x.data.size = x.size := rfl
  rw [ByteArray.data_append, getElem!_def, getElem!_def, Array.getElem?_append_right (by omega), hs, Nat.add_sub_cancel_left]
theorem parted_append (a b : ByteArray) : Parted a b (a ++ ⟨#[10]⟩ ++ b) := by
  have h1 : (a ++ (⟨#[10]⟩ : ByteArray)).size = a.size + 1 := by rw [ByteArray.size_append]; rfl
  refine ⟨by rw [ByteArray.size_append, h1], fun i hi => ?_, ?_, fun i hi => ?_⟩
  · rw [bAt_left _ _ _ (by rw [h1]; omega), bAt_left _ _ _ hi]
  · rw [bAt_left _ _ _ (by rw [h1]; omega)]
    have := bAt_right a ⟨#[10]⟩ 0
    rw [Nat.add_zero] at this
    rw [this]; rfl
  · have := bAt_right (a ++ ⟨#[10]⟩) b i
    rw [h1] at this
    exact this
/-- each token stands somewhere. -/
theorem tok_stands {s : ByteArray} {o : List Tok} {q k : Nat} {x : Tok} (h : lexB s = (some o, q)) (hx : o[k]? = some x) : ∃ p, TokOk s x p := by
  obtain ⟨e, l, hp, _⟩ := lexB_placed h
  have hk : k < o.length := (List.getElem?_eq_some_iff.1 hx).1
  obtain ⟨e', l', hp'⟩ := hp.take o.length rfl (k + 1) (by omega)
  have e2 : o.take (k + 1) = o.take k ++ [x] := by rw [List.take_add_one, hx]; rfl
  rw [e2] at hp'
  obtain ⟨e1, l1, p, _, ht, _⟩ := hp'.last
  exact ⟨p, ht⟩
end Go.Proofs.Ytamakeogaipdiaa
/- A struct of many cells, read and written in one step: for a walk that would open it into its cells. Nothing of the program stands here. -/
namespace Go.Proofs.Ytamakeogaipdiaa
open Go.RowKit
set_option linter.unusedVariables false
set_option linter.unusedSimpArgs false
section
variable {P : Program} {ops : Array Oper} {rest : List Oper} {o : Oper} {a : Act} {w : World} {Q : Exit → Act → World → Prop}
theorem wpList_load_row (hgd : o.guard = none) (t : TypeId) (x : Operand) (ho : o.op = .load t x) (g : Nat) (hx : a.eval x = .pointer (some ⟨g, 0, none⟩)) (te : TypeId) (cs : Array Value) (d : TypeDesc)
    (hg : w.heap[g]? = some (.cells cs te (0, 0))) (hu : P.underlying t = some d) (hd : (match d with | .struct _ | .array _ _ => true | _ => false) = true) (hi : (P.info? t).map (·.size) = some cs.size)
    (h : wpList P ops Q rest (a.put o.dst (.agg cs)) w) : wpList P ops Q (o :: rest) a w := by
  refine wpList_plain hgd fun K hK => ?_
  have hr := run_loadVar_row (P := P) w g te t cs (0, 0) d hg hu hd hi
  unfold Oper.wp
  have he : (execOp a.eval o).run P w = .ok (.value (.agg cs)) w := by
    unfold execOp
    simp only [ho, hx, Instr.loadAt, Instr.sureAddr, Sem.run_bind, Sem.run_pure, Result.andThen_ok, hr]
  rw [he, Oper.upon_value]
  exact hK _ _ h
theorem wpList_store_row (hgd : o.guard = none) (t : TypeId) (x y : Operand) (ho : o.op = .store t x y) (g : Nat) (hx : a.eval x = .pointer (some ⟨g, 0, none⟩)) (te : TypeId) (old cs : Array Value) (hy : a.eval y = .agg cs)
    (hg : w.heap[g]? = some (.cells old te (0, 0))) (hi : (P.info? t).map (·.size) = some cs.size) (hs : old.size = cs.size) (h1 : cs.all (·.oneCell') = true)
    (h : ∀ w', w' = w.setRow g cs → wpList P ops Q rest (a.put o.dst undef) w') : wpList P ops Q (o :: rest) a w := by
  refine wpList_plain hgd fun K hK => ?_
  have hr := run_storeVar_row (P := P) w g te t old cs hg hi hs h1
  unfold Oper.wp
  have he : (execOp a.eval o).run P w = .ok .skip (w.setRow g cs) := by
    unfold execOp
    simp only [ho, hx, hy, Instr.storeAt, Instr.sureAddr, Sem.run_bind, Sem.run_pure, Result.andThen_ok, hr]
  rw [he, Oper.upon_skip]
  exact hK _ _ (h _ rfl)
end
theorem setRow_heap {w : World} {g : Nat} {old cs : Array Value} {te : TypeId} (hg : w.heap[g]? = some (.cells old te (0, 0))) : (w.setRow g cs).heap[g]? = some (.cells cs te (0, 0)) := by
  obtain ⟨hlt, hk⟩ := Array.getElem?_eq_some_iff.1 hg
  show (w.heap.modify g _)[g]? = _
  rw [Array.getElem?_eq_getElem (by rw [Array.size_modify]; exact hlt), Array.getElem_modify_self, hk]
theorem setRow_other {w : World} {g k : Nat} {cs : Array Value} (hk : k ≠ g) : (w.setRow g cs).heap[k]? = w.heap[k]? := by
  show (w.heap.modify g _)[k]? = _
  rw [Array.getElem?_modify, if_neg (fun e => hk e.symm)]
theorem setRow_size (w : World) (g : Nat) (cs : Array Value) : (w.setRow g cs).heap.size = w.heap.size := by
  show (w.heap.modify g _).size = _
  rw [Array.size_modify]
theorem below_setRow {B : Nat} {a w : World} (h : Below B a w) {g : Nat} (hg : B ≤ g) (cs : Array Value) : Below B a (w.setRow g cs) :=
  h.trans ⟨rfl, rfl, rfl, by rw [setRow_size]; exact Nat.le_refl _, fun k hk => setRow_other (by omega)⟩
/-- block g holds the cells vs. -/
def Blk (w : World) (g : Nat) (t : TypeId) (vs : List Value) : Prop := w.heap[g]? = some (.cells vs.toArray t (0, 0))
theorem Blk.box {w : World} {g : Nat} {t : TypeId} {vs : List Value} (h : Blk w g t vs) : Box w g vs := by
  refine ⟨(Array.getElem?_eq_some_iff.1 h).1, fun o => by simp [World.frozen?, show w.heap[g]? = _ from h], fun j v hv => ?_⟩
  simp [World.cell?, show w.heap[g]? = _ from h]
  simpa using hv
theorem Blk.below {w w' : World} {B g : Nat} {t : TypeId} {vs : List Value} (h : Blk w g t vs) (hb : Below B w w') (hg : g < B) : Blk w' g t vs := (hb.block g hg).trans h
theorem Blk.on {w w' : World} {g : Nat} {t : TypeId} {vs : List Value} (h : Blk w g t vs) (hb : Below w.heap.size w w') : Blk w' g t vs := h.below hb (Array.getElem?_eq_some_iff.1 h).1
theorem Blk.new (w : World) (t : TypeId) (vs : List Value) (g : Nat) (hg : g = w.heap.size) (cs : Array Value) (hc : cs = vs.toArray) : Blk (w.alloc (.cells cs t)) g t vs := by subst hg hc; exact World.alloc_heap_new w _
theorem Blk.alloc {w : World} {g : Nat} {t : TypeId} {vs : List Value} (h : Blk w g t vs) (o : Obj) : Blk (w.alloc o) g t vs := h.on ((Below.refl _ _).alloc (Nat.le_refl _) o)
theorem Blk.drew {w : World} {g : Nat} {t : TypeId} {vs : List Value} (h : Blk w g t vs) : Blk w.drew g t vs := h
theorem Blk.set {w : World} {g : Nat} {t : TypeId} {vs : List Value} (h : Blk w g t vs) (j : Nat) (v : Value) : Blk (w.setCell ⟨g, j, none⟩ v) g t (vs.set j v) := by
  obtain ⟨hlt, hk⟩ := Array.getElem?_eq_some_iff.1 h
  show (w.heap.modify g _)[g]? = _
  rw [Array.getElem?_eq_getElem (by rw [Array.size_modify]; exact hlt), Array.getElem_modify_self, hk]
  simp
theorem Blk.set_other {w : World} {g m : Nat} {t : TypeId} {vs : List Value} (h : Blk w g t vs) (hm : m ≠ g) (j : Nat) (v : Value) : Blk (w.setCell ⟨m, j, none⟩ v) g t vs := (Below.heap_setCell _ _ _ _ (fun e => hm e.symm)).trans h
theorem Blk.row {w : World} {g : Nat} {t : TypeId} {vs : List Value} (h : Blk w g t vs) (us : List Value) (cs : Array Value) (hc : cs = us.toArray) : Blk (w.setRow g cs) g t us := by subst hc; exact setRow_heap h
theorem Blk.row_other {w : World} {g m : Nat} {t : TypeId} {vs : List Value} (h : Blk w g t vs) (hm : g ≠ m) (cs : Array Value) : Blk (w.setRow m cs) g t vs := (setRow_other hm).trans h
theorem Blk.grown {w w' : World} {g : Nat} {t : TypeId} {vs : List Value} {row : Option Nat} (h : Blk w g t vs) (hg : w.grownBy w' row) (hr : ∀ k, row = some k → k ≠ g) : Blk w' g t vs :=
  (hg.block g (Array.getElem?_eq_some_iff.1 h).1 (fun e => hr g e.symm rfl)).trans h
theorem owns_set {w : World} {base : Nat} {e : TypeId} {size : Nat} {v : Value} {n : Nat} {xs : List Value} (h : w.ownsRow base e size v n xs) {m : Nat} (hm : m < base) (j : Nat) (u : Value) : (w.setCell ⟨m, j, none⟩ u).ownsRow base e size v n xs := by
  refine ⟨h.1, ?_⟩
  rcases h.2 with h2 | ⟨g, cap, cur, h1, h2, h3, h4⟩
  · exact .inl h2
  · exact .inr ⟨g, cap, cur, h1, h2, (Below.heap_setCell _ _ _ _ (fun e => by simp at e; omega)).trans h3, h4⟩
end Go.Proofs.Ytamakeogaipdiaa
/- Slices whose elements lie in k cells each: read, come in, and of the call's own. Nothing of the program stands here. -/
namespace Go.Proofs.Ytamakeogaipdiaa
open Go.ChangeShapes Go.WideShapes Go.ChangeAt Go.RowKit
set_option linter.unusedVariables false
set_option linter.unusedSimpArgs false

/-- the slice value '.slice A n c' holds zs: element i lies in the k cells 'enc zs[i]'. -/
def Rows {α : Type} (k : Nat) (enc : α → List Value) (w : World) (A : Option Addr) (n : Nat) (zs : List α) : Prop :=
  zs.length = n ∧ n ≤ 9223372036854775807 ∧ (0 < n → ∃ b off, A = some ⟨b, off, none⟩ ∧ b < w.heap.size ∧ ∀ i x, zs[i]? = some x → ∀ j v, (enc x)[j]? = some v → w.cell? ⟨b, off + i * k + j, none⟩ = some v)
section
variable {α : Type} {k : Nat} {enc : α → List Value} {w w' : World} {A : Option Addr} {n : Nat} {zs : List α}
theorem Rows.nil (w : World) (A : Option Addr) : Rows k enc w A 0 [] := ⟨rfl, by decide, fun h => absurd h (by decide)⟩
theorem Rows.len (h : Rows k enc w A n zs) : zs.length = n := h.1
theorem Rows.below (h : Rows k enc w A n zs) (hb : Below w.heap.size w w') : Rows k enc w' A n zs :=
  ⟨h.1, h.2.1, fun hn => by
    obtain ⟨b, off, e, hl, hc⟩ := h.2.2 hn
    have := hb.size
    exact ⟨b, off, e, by omega, fun i x hx j v hv => (below_cell hb hl).trans (hc i x hx j v hv)⟩⟩
theorem Rows.drew (h : Rows k enc w A n zs) : Rows k enc w.drew A n zs := h.below ((Below.refl _ _).drew)
theorem Rows.on (h : Rows k enc w A n zs) (ho : On w w') : Rows k enc w' A n zs := h.below ho
/-- element i: where it lies, and what it is. -/
theorem Rows.at_ (h : Rows k enc w A n zs) {i : Nat} (hi : i < n) : ∃ b off x, A = some ⟨b, off, none⟩ ∧ b < w.heap.size ∧ zs[i]? = some x ∧ ∀ j v, (enc x)[j]? = some v → w.cell? ⟨b, off + i * k + j, none⟩ = some v := by
  obtain ⟨b, off, e, hl, hc⟩ := h.2.2 (by omega)
  have hx : zs[i]? = some (zs[i]'(by rw [h.1]; exact hi)) := List.getElem?_eq_getElem _
  exact ⟨b, off, _, e, hl, hx, hc i _ hx⟩
theorem flat_get (hk : ∀ x : α, (enc x).length = k) : ∀ (zs : List α) (i : Nat) (x : α) (j : Nat) (v : Value), zs[i]? = some x → (enc x)[j]? = some v → (zs.flatMap enc)[i * k + j]? = some v
  | [], i, x, j, v, h, _ => by simp at h
  | z :: zs, 0, x, j, v, h, hv => by
    simp only [List.getElem?_cons_zero, Option.some.injEq] at h
    subst h
    rw [Nat.zero_mul, Nat.zero_add, List.flatMap_cons, List.getElem?_append_left (List.getElem?_eq_some_iff.1 hv).1]; exact hv
  | z :: zs, i + 1, x, j, v, h, hv => by
    rw [List.flatMap_cons, List.getElem?_append_right (by rw [hk, Nat.add_mul, Nat.one_mul]; omega), hk, show (i + 1) * k + j - k = i * k + j by rw [Nat.add_mul, Nat.one_mul]; omega]
    exact flat_get hk zs i x j v (by simpa using h) hv
theorem flat_len (hk : ∀ x : α, (enc x).length = k) (zs : List α) : (zs.flatMap enc).length = zs.length * k := by
  induction zs with
  | nil => simp
  | cons z zs ih => rw [List.flatMap_cons, List.length_append, hk, ih, List.length_cons, Nat.add_mul, Nat.one_mul]; omega
theorem Rows.cells (hk : ∀ x : α, (enc x).length = k) (h0 : 0 < k) (h : Rows k enc w A n zs) : Cells w A n k (zs.flatMap enc) := by
  obtain ⟨h1, h2, h3⟩ := h
  refine ⟨by rw [flat_len hk, h1], h2, fun hn => ?_⟩
  obtain ⟨b, off, e, hb, hc⟩ := h3 hn
  refine ⟨b, off, e, hb, fun j u hu => ?_⟩
  have hj : j < zs.length * k := by rw [← flat_len hk]; exact (List.getElem?_eq_some_iff.1 hu).1
  have hi : j / k < zs.length := Nat.div_lt_of_lt_mul (by rw [Nat.mul_comm]; exact hj)
  have hx : zs[j / k]? = some (zs[j / k]) := List.getElem?_eq_getElem hi
  have hm : j % k < (enc (zs[j / k])).length := by rw [hk]; exact Nat.mod_lt _ h0
  have hv : (enc (zs[j / k]))[j % k]? = some ((enc (zs[j / k]))[j % k]) := List.getElem?_eq_getElem hm
  have e1 := flat_get hk zs (j / k) _ (j % k) _ hx hv
  have e2 : j / k * k + j % k = j := by rw [Nat.mul_comm]; exact Nat.div_add_mod j k
  rw [e2] at e1
  rw [e1] at hu
  have := hc _ _ hx _ _ hv
  rw [Nat.add_assoc, e2] at this
  rw [this, hu]
theorem Cells.rows (hk : ∀ x : α, (enc x).length = k) (h0 : 0 < k) (h : Cells w A n k (zs.flatMap enc)) : Rows k enc w A n zs := by
  obtain ⟨h1, h2, h3⟩ := h
  rw [flat_len hk] at h1
  refine ⟨Nat.eq_of_mul_eq_mul_right h0 h1, h2, fun hn => ?_⟩
  obtain ⟨b, off, e, hb, hc⟩ := h3 hn
  exact ⟨b, off, e, hb, fun i x hx j v hv => by rw [Nat.add_assoc]; exact hc _ _ (flat_get hk zs i x j v hx hv)⟩
theorem ownsRow_rows {base : Nat} {e : TypeId} {c : Nat} (hk : ∀ x : α, (enc x).length = k) (h0 : 0 < k) (h : w.ownsRow base e k (.slice A n c) n (zs.flatMap enc)) : Rows k enc w A n zs := (ownsRow_cells h).rows hk h0
end
theorem owns_below {w w' : World} {base : Nat} {e : TypeId} {size : Nat} {v : Value} {n : Nat} {xs : List Value} (h : w.ownsRow base e size v n xs) (hb : Below w.heap.size w w') : w'.ownsRow base e size v n xs := by
  refine ⟨h.1, ?_⟩
  rcases h.2 with h2 | ⟨g, cap, cur, h1, h2, h3, h4⟩
  · exact .inl h2
  · have hlt : g < w.heap.size := by
      rcases Nat.lt_or_ge g w.heap.size with h' | h'
      · exact h'
      · rw [Array.getElem?_eq_none h'] at h3; cases h3
    exact .inr ⟨g, cap, cur, h1, h2, (hb.block g hlt).trans h3, h4⟩
theorem owns_block {w : World} {base : Nat} {e : TypeId} {size : Nat} {v : Value} {n : Nat} {xs : List Value} (h : w.ownsRow base e size v n xs) : ∀ k, v.ownBlock = some k → base ≤ k := by
  intro k hk
  rcases h.2 with ⟨rfl, _⟩ | ⟨g, cap, cur, rfl, h2, _⟩
  · cases hk
  · injection hk with hk; subst hk; exact h2
theorem owns_block_lt {w : World} {base : Nat} {e : TypeId} {size : Nat} {v : Value} {n : Nat} {xs : List Value} (h : w.ownsRow base e size v n xs) : ∀ k, v.ownBlock = some k → k < w.heap.size := by
  intro k hk
  rcases h.2 with ⟨rfl, _⟩ | ⟨g, cap, cur, rfl, h2, h3, _⟩
  · cases hk
  · injection hk with hk; subst hk
    show g < w.heap.size
    rcases Nat.lt_or_ge g w.heap.size with h' | h'
    · exact h'
    · rw [Array.getElem?_eq_none h'] at h3; cases h3
theorem Box.grown {w w' : World} {n : Nat} {vs : List Value} {row : Option Nat} (h : Box w n vs) (hg : w.grownBy w' row) (hr : ∀ k, row = some k → k ≠ n) : Box w' n vs := by
  have hb : w'.heap[n]? = w.heap[n]? := hg.block n h.lt (fun e => hr n e.symm rfl)
  exact ⟨Nat.lt_of_lt_of_le h.1 hg.size, fun o => (World.frozen?_of_block (w := w) (a := ⟨n, o, none⟩) hb).trans (h.2.1 o), fun j v hv => (World.cell?_of_block (w := w) (a := ⟨n, j, none⟩) hb).trans (h.2.2 j v hv)⟩
theorem owns_nil (w : World) (base : Nat) (e : TypeId) (size : Nat) : w.ownsRow base e size (.slice none 0 0) 0 [] := ⟨by simp, .inl ⟨rfl, rfl⟩⟩
theorem list_choose {α : Type} {p : Nat → α → Prop} : ∀ {n : Nat}, (∀ i, i < n → ∃ x, p i x) → ∃ zs : List α, zs.length = n ∧ ∀ i x, zs[i]? = some x → p i x
  | 0, _ => ⟨[], rfl, fun i x h => by simp at h⟩
  | n + 1, hx => by
    obtain ⟨zs, h1, h2⟩ := list_choose (n := n) (fun i hin => hx i (by omega))
    obtain ⟨x, hx1⟩ := hx n (by omega)
    refine ⟨zs ++ [x], by simp [h1], fun i y hy => ?_⟩
    rcases Nat.lt_or_ge i zs.length with hlt | hge
    · rw [List.getElem?_append_left hlt] at hy; exact h2 i y hy
    · rw [List.getElem?_append_right hge] at hy
      have e : i = zs.length := by
        have := (List.getElem?_eq_some_iff.1 hy).1; simp at this; omega
      subst e
      simp at hy
      subst hy
      rw [h1]; exact hx1
section
variable {H : Type} {enc : TypeId × Value → H} {P : Program} {W : World}
/-- a slice that came in, of whatever elements that can be told from their cells. -/
theorem open_rows {α : Type} {k : Nat} (ea : α → List Value) (good : α → Prop) {base : Nat} {t e : TypeId} {v : Value} {d : DataW H} {p : List MemPlace} (ht : P.underlying t = some (.slice e)) (hC : P.cellsOf e = k) (h0 : 0 < k) (hk : ∀ x : α, (ea x).length = k)
    (hdec : ∀ fuel cs y, DataW.trod enc P W 0 (fun _ => true) true fuel e cs = some y → ∃ x, cs = ea x ∧ good x)
    (hv : Value.okWide P W .any base t v) (h : DataW.Trod enc P W 0 (fun _ => true) true t v d p) :
    ∃ A n c zs, v = .slice A n c ∧ n ≤ c ∧ c ≤ maxLen ∧ Rows k ea W A n zs ∧ ∀ z ∈ zs, good z := by
  obtain ⟨A, n, c, rfl⟩ := okWide_slice ht hv
  obtain ⟨fuel, hf⟩ := h
  rcases Go.Deep.open_slice ht hf with ⟨hcs, _⟩ | ⟨a, len, cap, m, fu, D, Pl, hcs, _, hl, hm, hmm, _, hi⟩
  · simp [Value.cells] at hcs
    obtain ⟨rfl, rfl, rfl⟩ := hcs
    exact ⟨_, _, _, [], rfl, Nat.le_refl _, by decide, Rows.nil _ _, by simp⟩
  · simp [Value.cells] at hcs
    obtain ⟨rfl, rfl, rfl⟩ := hcs
    simp only [if_true] at hmm
    rw [hC] at hi
    have hx : ∀ i, i < n → ∃ x, W.cells? 0 (a.add (i * k)) k = some (ea x) ∧ good x := by
      intro i hin
      obtain ⟨cs', hc', ht'⟩ := hi i (by omega)
      obtain ⟨x, rfl, hg⟩ := hdec _ _ _ ht'
      exact ⟨x, hc', hg⟩
    have hex := list_choose (p := fun i x => W.cells? 0 (a.add (i * k)) k = some (ea x) ∧ good x) hx
    obtain ⟨zs, h1, h2⟩ := hex
    obtain ⟨b, off, spot⟩ := a
    refine ⟨_, _, _, zs, rfl, hl, hm, ⟨h1, by unfold maxLen at hm; omega, fun hn => ?_⟩, fun z hz => ?_⟩
    · have hcell : ∀ i x, zs[i]? = some x → ∀ j v, (ea x)[j]? = some v → W.cell? ((⟨b, off, spot⟩ : Addr).add (i * k + j)) = some v := by
        intro i x hx j v hv
        obtain ⟨hc, _⟩ := h2 i x hx
        obtain ⟨_, hlen, hat⟩ := World.cells?_some hc
        have hj : j < k := by rw [← hk x]; exact (List.getElem?_eq_some_iff.1 hv).1
        have := hat j hj
        rw [hv, Go.Deep.add_add] at this
        exact this
      have hz0 : zs[0]? = some (zs[0]'(by omega)) := List.getElem?_eq_getElem _
      have hv0 : (ea (zs[0]'(by omega)))[0]? = some ((ea (zs[0]'(by omega)))[0]'(by rw [hk]; exact h0)) := List.getElem?_eq_getElem _
      have hc0 := hcell 0 _ hz0 0 _ hv0
      have hspot : spot = none := by simpa [Addr.add] using World.cell?_spot hc0
      subst hspot
      refine ⟨b, off, rfl, ?_, fun i x hx j v hv => ?_⟩
      · have := cell_lt hc0; simpa [Addr.add] using this
      · have := hcell i x hx j v hv
        rwa [add_plain, ← Nat.add_assoc] at this
    · obtain ⟨i, hi2⟩ := List.mem_iff_getElem?.1 hz
      exact (h2 i z hi2).2
end
end Go.Proofs.Ytamakeogaipdiaa
/- A walk is stopped ahead of an operation, told by what it is. Nothing of the program stands here. -/
namespace Go.Proofs.Ytamakeogaipdiaa
open Go.RowKit
set_option linter.unusedVariables false
def Stop (p : Prop) : Prop := p
theorem Stop.intro {p : Prop} (h : p) : Stop p := h
section
variable {P : Program} {ops : Array Oper} {rest : List Oper} {o : Oper} {a : Act} {w : World} {Q : Exit → Act → World → Prop}
/-- ahead of this load. -/
theorem stop_load (t : TypeId) (x : Operand) (ho : o.op = .load t x) (h : Stop (wpList P ops Q (o :: rest) a w)) : wpList P ops Q (o :: rest) a w := h
/-- ahead of this store. -/
theorem stop_store (t : TypeId) (x y : Operand) (ho : o.op = .store t x y) (h : Stop (wpList P ops Q (o :: rest) a w)) : wpList P ops Q (o :: rest) a w := h
/-- ahead of the operation whose result goes there. -/
theorem stop_dst (d : Nat) (ho : o.dst = some d) (h : Stop (wpList P ops Q (o :: rest) a w)) : wpList P ops Q (o :: rest) a w := h
end
end Go.Proofs.Ytamakeogaipdiaa
/- A region that draws its order and whose last operation waits for all others: its head alone draws, and the last one comes behind. Nothing of the program stands here. -/
namespace Go.Proofs.Ytamakeogaipdiaa
open Go
set_option linter.unusedVariables false
set_option linter.unusedSimpArgs false
section
variable {P : Program} {ops : Array Oper} {Q : Exit → Act → World → Prop}
def headOf (ops : Array Oper) (n : Nat) : Array Oper := (ops.toList.take n).toArray
theorem headOf_lt {n i : Nat} (h : i < n) : (headOf ops n)[i]? = ops[i]? := by
  unfold headOf; simp [List.getElem?_take, h]
theorem headOf_ge {n i : Nat} (h : n ≤ i) : (headOf ops n)[i]? = none := by
  unfold headOf; simp [List.getElem?_take, Nat.not_lt.2 h]
theorem headOf_size {n : Nat} (h : n ≤ ops.size) : (headOf ops n).size = n := by
  unfold headOf; simp; omega
/-- what is asked behind the head: the last operation. -/
def TailPost (P : Program) (ops : Array Oper) (o : Oper) (Q : Exit → Act → World → Prop) : Exit → Act → World → Prop
  | .normal, a, w => wpList P ops Q [o] a w
  | e, a, w => Q e a w
/-- each operation waits for, and is guarded by, earlier ones alone. -/
def backB (ops : Array Oper) : Bool := (List.range ops.size).all fun i => match ops[i]? with
  | some o => (o.after.all fun e => decide (e.on < i)) && (match o.guard with | some (g, _) => decide (g < i) | none => true)
  | none => true
theorem backB_spec (h : backB ops = true) {i : Nat} {o : Oper} (ho : ops[i]? = some o) : (∀ e ∈ o.after, e.on < i) ∧ ∀ g b, o.guard = some (g, b) → g < i := by
  have hlt : i < ops.size := (Array.getElem?_eq_some_iff.1 ho).1
  have h1 := List.all_eq_true.1 h i (List.mem_range.2 hlt)
  simp only [ho, Bool.and_eq_true] at h1
  refine ⟨fun e he => ?_, fun g b hg => ?_⟩
  · have := Array.all_eq_true_iff_forall_mem.1 h1.1 e he
    simpa using this
  · have := h1.2
    rw [hg] at this
    simpa using this
theorem wp_tail {o' o : Oper} {a : Act} {w : World} {K K' : Act → World → Prop} (h : ∀ a w, K a w → K' a w)
    (hh : o.wp P a w K (TailPost P ops o' Q)) : o.wp P a w K' Q := by
  unfold Oper.wp at *
  generalize (execOp a.eval o).run P w = r at *
  cases r with
  | ok n w' =>
    cases n <;> simp only [Oper.upon] at hh ⊢ <;>
      first
        | exact h _ _ hh
        | exact Calls.mono hh (fun e w'' he => by cases e <;> first | exact h _ _ he | exact he)
        | exact Rows.mono hh (fun _ _ he => h _ _ he)
  | halt x w' => cases x <;> simp only [Oper.upon] at hh ⊢ <;> exact hh
theorem wanted_head {n i : Nat} (hb : backB ops = true) (hi : i < n) {o : Oper} (ho : ops[i]? = some o) (t : Array Value) :
    Region.wanted o (yielded (headOf ops n) t) = Region.wanted o (yielded ops t) := by
  unfold Region.wanted
  cases hg : o.guard with
  | none => rfl
  | some p =>
    obtain ⟨g, b⟩ := p
    have hlt := (backB_spec hb ho).2 g b hg
    show (yielded (headOf ops n) t g == some b) = (yielded ops t g == some b)
    unfold yielded
    rw [headOf_lt (by omega)]
theorem wpOp_tail {n i : Nat} {o' : Oper} (hb : backB ops = true) (hi : i < n) {a : Act} {w : World} {K K' : Act → World → Prop} (h : ∀ a w, K a w → K' a w)
    (hh : wpOp P (headOf ops n) (TailPost P ops o' Q) i K a w) : wpOp P ops Q i K' a w := by
  unfold wpOp at *
  rw [headOf_lt hi] at hh
  cases ho : ops[i]? with
  | none => simp only [ho] at hh; exact h _ _ hh
  | some o =>
    simp only [ho] at hh ⊢
    rw [wanted_head hb hi ho] at hh
    split
    · rename_i hw
      simp only [hw, if_true] at hh
      rcases hh with hh | ⟨h1, h2⟩
      · exact .inl (wp_tail h hh)
      · exact .inr ⟨h1, h2⟩
    · rename_i hw; simp only [hw] at hh; exact h _ _ hh
theorem wpAny_done {md : Region.Mode} {listed : Array Bool} {a : Act} {w : World} (hr : Region.ready md ops listed = []) (h : Q .normal a w) : ∀ f, wpAny P md ops Q f listed a w
  | 0 => ⟨hr, h⟩
  | f + 1 => ⟨fun _ => h, fun i hi => by rw [hr] at hi; cases hi⟩
theorem getD_of {l : Array Bool} {i : Nat} {b d : Bool} (h : l[i]? = some b) : l.getD i d = b := by
  simp [Array.getD_eq_getD_getElem?, h]
theorem ready_head {n : Nat} (hb : backB ops = true) {listed listedH : Array Bool} (hl : ∀ i, i < n → listedH[i]? = listed[i]?) {i : Nat} (hi : i < n) :
    i ∈ Region.ready .any (headOf ops n) listedH ↔ i ∈ Region.ready .any ops listed := by
  have hg : ∀ j d, j < n → listedH.getD j d = listed.getD j d := fun j d hj => by rw [Array.getD_eq_getD_getElem?, Array.getD_eq_getD_getElem?, hl j hj]
  rw [mem_ready, mem_ready, headOf_lt hi, hg i _ hi]
  constructor
  · rintro ⟨h0, o, ho, h⟩
    exact ⟨h0, o, ho, fun e he hm => by rw [← hg _ _ (Nat.lt_trans ((backB_spec hb ho).1 e he) hi)]; exact h e he hm⟩
  · rintro ⟨h0, o, ho, h⟩
    exact ⟨h0, o, ho, fun e he hm => by rw [hg _ _ (Nat.lt_trans ((backB_spec hb ho).1 e he) hi)]; exact h e he hm⟩
theorem tailEnd {n f : Nat} {o : Oper} {listed listedH : Array Bool} {a : Act} {w : World} (hsz : ops.size = n + 1) (hb : backB ops = true) (ho : ops[n]? = some o)
    (hr : Region.ready .any (headOf ops n) listedH = []) (h : TailPost P ops o Q .normal a w) (inv : HeadInv .any ops n listed) (hl : ∀ i, i < n → listedH[i]? = listed[i]?) : wpAny P .any ops Q (f + 1) listed a w := by
  have hsl : listed.size = n + 1 := inv.size.trans hsz
  have both : ∀ i, i < n + 1 → ∀ b, listed.getD i true = b → listed.getD i false = b := fun i hi b hb' => by
    simp only [Array.getD_eq_getD_getElem?, Array.getElem?_eq_getElem (by omega : i < listed.size), Option.getD_some] at hb' ⊢
    exact hb'
  have hall : ∀ i, i < n → listed.getD i true = true := by
    intro i
    induction i using Nat.strongRecOn with
    | _ i ih =>
      intro hi
      cases hv : listed.getD i true with
      | true => rfl
      | false =>
        exfalso
        have hoi : ops[i]? = some ops[i] := Array.getElem?_eq_getElem (by omega)
        have hm : i ∈ Region.ready .any ops listed := mem_ready.2 ⟨hv, ops[i], hoi, fun e he _ => by
          have hlt := (backB_spec hb hoi).1 e he
          exact both _ (by omega) _ (ih e.on hlt (by omega))⟩
        have := (ready_head hb hl hi).2 hm
        rw [hr] at this; cases this
  have hn : n ∈ Region.ready .any ops listed := mem_ready.2 ⟨inv.tail n (Nat.le_refl _) (by omega), o, ho, fun e he _ => by
    have hlt := (backB_spec hb ho).1 e he
    exact both _ (by omega) _ (hall e.on hlt)⟩
  refine ⟨fun h0 => (by rw [h0] at hn; cases hn), fun i hi => ?_⟩
  have hin : i = n := by
    obtain ⟨h0, oi, hoi, _⟩ := mem_ready.1 hi
    have hlt : i < ops.size := (Array.getElem?_eq_some_iff.1 hoi).1
    rcases Nat.lt_or_ge i n with h' | h'
    · rw [hall i h'] at h0; cases h0
    · omega
  subst hin
  have hnil : Region.ready .any ops (listed.setIfInBounds i true) = [] := by
    rw [List.eq_nil_iff_forall_not_mem]
    intro j hj
    obtain ⟨h0, oj, hoj, _⟩ := mem_ready.1 hj
    have hlt : j < ops.size := (Array.getElem?_eq_some_iff.1 hoj).1
    by_cases hij : i = j
    · subst hij
      simp [Array.getD_eq_getD_getElem?, Array.getElem?_setIfInBounds, hsl] at h0
    · rw [getD_set_ne true hij] at h0
      rw [hall j (by omega)] at h0; cases h0
  have hdone : ∀ a' w', wpList P ops Q [] a' w' → wpAny P .any ops Q f (listed.setIfInBounds i true) a' w' := fun a' w' hq => wpAny_done hnil hq f
  have h' : wpList P ops Q [o] a w := h
  unfold wpList at h'
  unfold wpOp
  simp only [ho]
  split
  · rename_i hw
    simp only [hw, if_true] at h'
    exact h'.imp (Oper.wp_mono hdone) id
  · rename_i hw
    simp only [hw] at h'
    exact hdone _ _ h'
def tailB (ops : Array Oper) (n : Nat) : Bool := ops.size == n + 1 && Region.sinkB .any ops n && backB ops
theorem wpAny_tail {n : Nat} {o : Oper} (hsz : ops.size = n + 1) (hs : Region.sinkB .any ops n = true) (hb : backB ops = true) (ho : ops[n]? = some o) :
    ∀ (f : Nat) (listed listedH : Array Bool) (a : Act) (w : World), HeadInv .any ops n listed → (∀ i, i < n → listedH[i]? = listed[i]?) →
      wpAny P .any (headOf ops n) (TailPost P ops o Q) f listedH a w → wpAny P .any ops Q (f + 1) listed a w := by
  have hc : Region.chainB .any ops n = true := List.all_eq_true.2 fun t ht => by
    have := List.mem_range.1 ht
    simp only [Bool.or_eq_true, decide_eq_true_eq]; left; omega
  intro f
  induction f with
  | zero =>
    intro listed listedH a w inv hl h
    exact tailEnd hsz hb ho h.1 h.2 inv hl
  | succ f ih =>
    intro listed listedH a w inv hl h
    by_cases hr : Region.ready .any (headOf ops n) listedH = []
    · exact tailEnd hsz hb ho hr (h.1 hr) inv hl
    · obtain ⟨i0, hi0⟩ := List.exists_mem_of_ne_nil _ hr
      have hi0n : i0 < n := by
        obtain ⟨_, o0, ho0, _⟩ := mem_ready.1 hi0
        rcases Nat.lt_or_ge i0 n with h' | h'
        · exact h'
        · rw [headOf_ge h'] at ho0; cases ho0
      have hi0' := (ready_head hb hl hi0n).1 hi0
      refine ⟨fun h0 => (by rw [h0] at hi0'; cases hi0'), fun i hi => ?_⟩
      rcases Nat.lt_or_ge i n with hin | hin
      · refine wpOp_tail hb hin (fun a' w' h' => ih _ _ a' w' (inv.set hi hin) (fun j hj => ?_) h') (h.2 i ((ready_head hb hl hin).2 hi))
        rw [Array.getElem?_setIfInBounds, Array.getElem?_setIfInBounds]
        have hsl : listed.size = n + 1 := inv.size.trans hsz
        have hsH : i < listedH.size := by
          have e1 := hl i hin
          rw [Array.getElem?_eq_getElem (by omega : i < listed.size)] at e1
          exact (Array.getElem?_eq_some_iff.1 e1).1
        by_cases hij : i = j
        · subst hij; rw [if_pos rfl, if_pos rfl, if_pos hsH, if_pos (by omega)]
        · rw [if_neg hij, if_neg hij]; exact hl j hj
      · exact absurd hi (tail_waits hs hc (by omega) inv _ i0 rfl hi0n (mem_ready.1 hi0').1 i hin)
theorem wp_region_tail (n : Nat) {id : Nat} {o : Oper} {a : Act} {w : World} (hm : P.follows .mixedOrders = true) (hB : tailB ops n = true) (ho : ops[n]? = some o)
    (h : wpAny P .any (headOf ops n) (TailPost P ops o Q) n (Array.replicate n false) a w.drew) : (Code.region id ops true).wp P Q a w := by
  unfold tailB at hB
  simp only [Bool.and_eq_true, beq_iff_eq] at hB
  obtain ⟨⟨hsz, hs⟩, hb⟩ := hB
  refine wp_region_any hm ?_
  rw [hsz]
  refine wpAny_tail hsz hs hb ho n (Array.replicate (n + 1) false) (Array.replicate n false) a w.drew ?_ (fun i hi => ?_) h
  · exact ⟨by simp [hsz], fun j oj hj hl => absurd hl (by rw [getD_replicate_false]; decide), fun t ht ht2 => by
      have : t = n := by omega
      subst this; simp⟩
  · rw [Array.getElem?_replicate, Array.getElem?_replicate, if_pos hi, if_pos (by omega)]
/-- .. its head reads alone, and its callees read, draw and make memory. -/
theorem wp_region_on_tail (n : Nat) {id : Nat} {o : Oper} {a : Act} {W : World} (hm : P.follows .mixedOrders = true) (hB : tailB ops n = true) (ho : ops[n]? = some o) (hL : Region.lexB .any (headOf ops n) = true)
    (h : wpQuiet P (headOf ops n) (fun w' => ∃ p : OnW W, w' = p.w) (fun a' => ∀ w', (∃ p : OnW W, w' = p.w) → wpList P ops Q [o] a' w') (headOf ops n).toList a) : (Code.region id ops true).wp P Q a W := by
  have hsz : ops.size = n + 1 := by
    unfold tailB at hB
    simp only [Bool.and_eq_true, beq_iff_eq] at hB
    exact hB.1.1
  have hn : (headOf ops n).size = n := headOf_size (by omega)
  simp only [Region.lexB, Bool.and_eq_true] at hL
  refine wp_region_tail n hm hB ho ?_
  refine wpAny_of_quiet (C := fun w' => ∃ p : OnW W, w' = p.w) (Q := fun a' => ∀ w', (∃ p : OnW W, w' = p.w) → wpList P ops Q [o] a' w') (fun _ w' hw' h => h w' hw') _ _ _ _ ⟨⟨W.drew, (On.refl W).drew⟩, rfl⟩ ?_
  have := wpAnyQ_lex (C := fun w' => ∃ p : OnW W, w' = p.w) (md := .any) hL.1 (headOf ops n).toList 0 (Array.replicate (headOf ops n).size false) a (by simp) (by simpa using hL.2) h
  rw [hn] at this
  simpa [hn] using this
/-- .. S holds in its head: no operation but the last one may change what S says. -/
theorem wp_region_held_tail (n : Nat) {id : Nat} {o : Oper} {a : Act} {w : World} {S : World → Prop} (hm : P.follows .mixedOrders = true) (hB : tailB ops n = true) (ho : ops[n]? = some o) (hS : S w.drew)
    (h : S w.drew → wpAnyH P .any (headOf ops n) (TailPost P ops o Q) S n (Array.replicate n false) a w.drew) : (Code.region id ops true).wp P Q a w :=
  wp_region_tail n hm hB ho (wpAny_of_held _ _ _ _ (h hS))
end
end Go.Proofs.Ytamakeogaipdiaa
/- Which nodes are a document's; how much they are. Nothing of the program stands here. -/
namespace Go.Proofs.Ytamakeogaipdiaa
open Go
set_option linter.unusedVariables false
set_option linter.unusedSimpArgs false
def fromB (n lo hi : Int) : Bool := decide (lo ≤ n) && decide (n ≤ hi)
theorem fromB_iff (n lo hi : Int) : fromB n lo hi = true ↔ okN n lo hi := by unfold fromB okN; simp
def styOkB (s : Sty) : Bool := fromB s.top 0 maxN && fromB s.bottom 0 maxN && fromB s.padTop 0 maxN && fromB s.padBottom 0 maxN && fromB s.inset 0 maxN && fromB s.orphans 1 maxN && fromB s.widows 1 maxN && fromB s.head 0 maxN && fromB s.before 0 4 && fromB s.after 0 4 && fromB s.inside 0 1 && fromB s.clear 0 3
theorem styOkB_iff (s : Sty) : styOkB s = true ↔ s.fits := by
  unfold styOkB Sty.fits
  simp only [Bool.and_eq_true, fromB_iff]
  constructor
  · rintro ⟨⟨⟨⟨⟨⟨⟨⟨⟨⟨⟨h1, h2⟩, h3⟩, h4⟩, h5⟩, h6⟩, h7⟩, h8⟩, h9⟩, h10⟩, h11⟩, h12⟩
    exact ⟨⟨h1, h2, h3, h4, h5, h6⟩, h7, h8, h9, h10, h11, h12⟩
  · rintro ⟨⟨h1, h2, h3, h4, h5, h6⟩, h7, h8, h9, h10, h11, h12⟩
    exact ⟨⟨⟨⟨⟨⟨⟨⟨⟨⟨⟨h1, h2⟩, h3⟩, h4⟩, h5⟩, h6⟩, h7⟩, h8⟩, h9⟩, h10⟩, h11⟩, h12⟩
/-- one node's numbers, as the document tells them. -/
def oneB (x : Nd) : Bool :=
  if x.kind = 1 then styOkB x.sty && decide (x.line = 0) && decide (x.space = 0) && decide (x.words = []) && decide (x.side = 0) && decide (x.w = 0) && decide (x.h = 0)
  else if x.sty ≠ .none then false
  else if x.kind = 2 then (x.words.all fun n => fromB n 1 maxN) && decide (x.words ≠ []) && fromB x.line 1 maxN && fromB x.space 0 maxN && decide (x.side = 0) && decide (x.w = 0) && decide (x.h = 0)
  else if x.line ≠ 0 ∨ x.space ≠ 0 ∨ x.words ≠ [] ∨ fromB x.w 1 maxN = false ∨ fromB x.h 1 maxN = false then false
  else (decide (x.kind = 3) && decide (x.side = 0)) || (decide (x.kind = 4) && fromB x.side 1 2)
theorem oneB_iff (x : Nd) : oneB x = true ↔ x.fits := by
  obtain ⟨k, size, s, line, space, ws, side, w, h⟩ := x
  unfold oneB Nd.fits
  simp only
  by_cases h1 : k = 1
  · subst h1
    simp only [if_true, Bool.and_eq_true, decide_eq_true_eq, styOkB_iff]
    constructor
    · rintro ⟨⟨⟨⟨⟨⟨a1, a2⟩, a3⟩, a4⟩, a5⟩, a6⟩, a7⟩
      exact .inl ⟨trivial, a1, a2, a3, a4, a6, a7, a5⟩
    · rintro (⟨_, a1, a2, a3, a4, a6, a7, a5⟩ | ⟨e, _⟩ | ⟨e, _⟩ | ⟨e, _⟩)
      · exact ⟨⟨⟨⟨⟨⟨a1, a2⟩, a3⟩, a4⟩, a5⟩, a6⟩, a7⟩
      · exact absurd e (by decide)
      · exact absurd e (by decide)
      · exact absurd e (by decide)
  rw [if_neg h1]
  by_cases h2 : s = .none
  rotate_left
  · rw [if_pos h2]
    constructor
    · intro e; cases e
    · rintro (⟨e, _⟩ | ⟨_, e, _⟩ | ⟨_, e, _⟩ | ⟨_, e, _⟩)
      · exact absurd e h1
      · exact absurd e h2
      · exact absurd e h2
      · exact absurd e h2
  rw [if_neg (by simpa using h2)]
  by_cases h3 : k = 2
  · subst h3
    simp only [if_true, Bool.and_eq_true, decide_eq_true_eq, List.all_eq_true, fromB_iff]
    constructor
    · rintro ⟨⟨⟨⟨⟨⟨a1, a2⟩, a3⟩, a4⟩, a5⟩, a6⟩, a7⟩
      exact .inr (.inl ⟨trivial, h2, a3, a4, a2, a1, a6, a7, a5⟩)
    · rintro (⟨e, _⟩ | ⟨_, _, a3, a4, a2, a1, a6, a7, a5⟩ | ⟨e, _⟩ | ⟨e, _⟩)
      · exact absurd e (by decide)
      · exact ⟨⟨⟨⟨⟨⟨a1, a2⟩, a3⟩, a4⟩, a5⟩, a6⟩, a7⟩
      · exact absurd e (by decide)
      · exact absurd e (by decide)
  rw [if_neg h3]
  by_cases h4 : line ≠ 0 ∨ space ≠ 0 ∨ ws ≠ [] ∨ fromB w 1 maxN = false ∨ fromB h 1 maxN = false
  · rw [if_pos h4]
    constructor
    · intro e; cases e
    · have no : ¬ (line = 0 ∧ space = 0 ∧ ws = [] ∧ okN w 1 maxN ∧ okN h 1 maxN) := by
        rintro ⟨a1, a2, a3, a4, a5⟩
        rw [← fromB_iff] at a4 a5
        rcases h4 with e | e | e | e | e
        · exact e a1
        · exact e a2
        · exact e a3
        · rw [a4] at e; cases e
        · rw [a5] at e; cases e
      rintro (⟨e, _⟩ | ⟨e, _⟩ | ⟨_, _, a1, a2, a3, a4, a5, _⟩ | ⟨_, _, a1, a2, a3, a4, a5, _⟩)
      · exact absurd e h1
      · exact absurd e h3
      · exact absurd ⟨a1, a2, a3, a4, a5⟩ no
      · exact absurd ⟨a1, a2, a3, a4, a5⟩ no
  rw [if_neg h4]
  rw [not_or, not_or, not_or, not_or, Decidable.not_not, Decidable.not_not, Decidable.not_not, Bool.not_eq_false, Bool.not_eq_false, fromB_iff, fromB_iff] at h4
  obtain ⟨a1, a2, a3, a4, a5⟩ := h4
  simp only [Bool.or_eq_true, Bool.and_eq_true, decide_eq_true_eq, fromB_iff]
  constructor
  · rintro (⟨b1, b2⟩ | ⟨b1, b2⟩)
    · exact .inr (.inr (.inl ⟨b1, h2, a1, a2, a3, a4, a5, b2⟩))
    · exact .inr (.inr (.inr ⟨b1, h2, a1, a2, a3, a4, a5, b2⟩))
  · rintro (⟨e, _⟩ | ⟨e, _⟩ | ⟨b1, _, _, _, _, _, _, b2⟩ | ⟨b1, _, _, _, _, _, _, b2⟩)
    · exact absurd e h1
    · exact absurd e h3
    · exact .inl ⟨b1, b2⟩
    · exact .inr ⟨b1, b2⟩
/-- rows within rows, told: node by node. -/
def forestF : Nat → List Nd → Bool
  | 0, l => decide (l = [])
  | _ + 1, [] => true
  | f + 1, x :: l => decide (1 ≤ x.size) && decide (x.size ≤ (l.length : Int) + 1) && (decide (x.kind = 1) || decide (x.size ≤ 1)) && forestF f (l.take (x.size.toNat - 1)) && forestF f (l.drop (x.size.toNat - 1))
def forestB (l : List Nd) : Bool := forestF l.length l
theorem forestF_ok : ∀ (f : Nat) (l : List Nd), forestF f l = true → Forest l
  | 0, l, h => by simp [forestF] at h; subst h; exact .nil
  | f + 1, [], _ => .nil
  | f + 1, x :: l, h => by
    simp only [forestF, Bool.and_eq_true, Bool.or_eq_true, decide_eq_true_eq] at h
    obtain ⟨⟨⟨⟨h1, h2⟩, h3⟩, h4⟩, h5⟩ := h
    have e : l = l.take (x.size.toNat - 1) ++ l.drop (x.size.toNat - 1) := (List.take_append_drop _ _).symm
    rw [e]
    refine .cons ?_ (fun hk => ?_) (forestF_ok f _ h4) (forestF_ok f _ h5)
    · rw [List.length_take]; omega
    · rcases h3 with h3 | h3
      · exact absurd h3 hk
      · have : x.size.toNat - 1 = 0 := by omega
        rw [this]; rfl
theorem forestF_of {l : List Nd} (h : Forest l) : ∀ f, l.length ≤ f → forestF f l = true := by
  induction h with
  | nil => intro f _; cases f <;> simp [forestF]
  | @cons x inner rest h1 h2 h3 h4 ih1 ih2 =>
    intro f hf
    cases f with
    | zero => simp at hf
    | succ f =>
      simp only [List.length_cons, List.length_append] at hf
      have e : x.size.toNat - 1 = inner.length := by omega
      simp only [forestF, Bool.and_eq_true, Bool.or_eq_true, decide_eq_true_eq, e, List.take_left', List.drop_left', List.length_append]
      refine ⟨⟨⟨⟨by omega, by omega⟩, ?_⟩, ih1 f (by omega)⟩, ih2 f (by omega)⟩
      by_cases hk : x.kind = 1
      · exact .inl hk
      · have := h2 hk; subst this; exact .inr (by simp at h1; omega)
theorem forestB_iff (l : List Nd) : forestB l = true ↔ Forest l := ⟨forestF_ok _ _, fun h => forestF_of h _ (Nat.le_refl _)⟩
theorem forestF_eq {l : List Nd} {f : Nat} (h : l.length ≤ f) : forestF f l = forestB l := by
  rcases hb : forestB l with _ | _
  · rcases hf : forestF f l with _ | _
    · rfl
    · have := (forestB_iff l).2 (forestF_ok _ _ hf)
      rw [hb] at this; cases this
  · exact forestF_of ((forestB_iff l).1 hb) _ h
theorem forestB_nil : forestB [] = true := rfl
theorem forestB_cons (x : Nd) (l : List Nd) : forestB (x :: l) = (decide (1 ≤ x.size) && decide (x.size ≤ (l.length : Int) + 1) && (decide (x.kind = 1) || decide (x.size ≤ 1)) && forestB (l.take (x.size.toNat - 1)) && forestB (l.drop (x.size.toNat - 1))) := by
  show forestF (l.length + 1) (x :: l) = _
  rw [forestF, forestF_eq (by rw [List.length_take]; omega), forestF_eq (by rw [List.length_drop]; omega)]
/-- nodes are a document's. -/
def docB (l : List Nd) : Bool := l.all oneB && forestB l
def IsDoc (l : List Nd) : Prop := (∀ x ∈ l, x.fits) ∧ Forest l
theorem docB_iff (l : List Nd) : docB l = true ↔ IsDoc l := by
  unfold docB IsDoc
  rw [Bool.and_eq_true, List.all_eq_true, forestB_iff]
  simp only [oneB_iff]
end Go.Proofs.Ytamakeogaipdiaa
/- Rows within rows, told by places; how much nodes are, place by place. Nothing of the program stands here. -/
namespace Go.Proofs.Ytamakeogaipdiaa
open Go
set_option linter.unusedVariables false
set_option linter.unusedSimpArgs false
/-- the node at place i: its Size keeps within what holds it. -/
def NestAt (l : List Nd) (i : Nat) : Prop := ∀ x, l[i]? = some x → 1 ≤ x.size ∧ (i : Int) + x.size ≤ l.length ∧ (x.kind ≠ 1 → x.size = 1) ∧
  ∀ (k : Nat) (y : Nd), k < i → l[k]? = some y → y.kind = 1 → (i : Int) < k + y.size → (i : Int) + x.size ≤ k + y.size
def Nested (l : List Nd) : Prop := ∀ i, NestAt l i
theorem get_parts {x y : Nd} {inner rest : List Nd} {i : Nat} (h : (x :: (inner ++ rest))[i]? = some y) :
    (i = 0 ∧ y = x) ∨ (∃ j, i = j + 1 ∧ j < inner.length ∧ inner[j]? = some y) ∨ (∃ j, i = inner.length + j + 1 ∧ rest[j]? = some y) := by
  cases i with
  | zero => simp at h; exact .inl ⟨rfl, h.symm⟩
  | succ i =>
    rw [List.getElem?_cons_succ] at h
    rcases Nat.lt_or_ge i inner.length with hi | hi
    · rw [List.getElem?_append_left hi] at h
      exact .inr (.inl ⟨i, rfl, hi, h⟩)
    · rw [List.getElem?_append_right hi] at h
      exact .inr (.inr ⟨i - inner.length, by omega, h⟩)
theorem Forest.nested {l : List Nd} (h : Forest l) : Nested l := by
  induction h with
  | nil => intro i x hx; simp at hx
  | @cons x inner rest h1 h2 h3 h4 ih1 ih2 =>
    intro i z hz
    have hlen : ((x :: (inner ++ rest)).length : Int) = 1 + inner.length + rest.length := by simp; omega
    rw [hlen]
    rcases get_parts hz with ⟨rfl, rfl⟩ | ⟨j, rfl, hj, hj2⟩ | ⟨j, rfl, hj2⟩
    · refine ⟨by omega, by omega, fun hk => ?_, fun k y hk => by omega⟩
      have := h2 hk; subst this; simp at h1; exact h1
    · obtain ⟨a1, a2, a3, a4⟩ := ih1 j z hj2
      refine ⟨a1, by omega, a3, fun k y hk hy hyk hlt => ?_⟩
      rcases get_parts hy with ⟨rfl, rfl⟩ | ⟨m, rfl, hm, hm2⟩ | ⟨m, rfl, hm2⟩
      · rw [h1]; omega
      · have := a4 m y (by omega) hm2 hyk (by omega)
        omega
      · omega
    · obtain ⟨a1, a2, a3, a4⟩ := ih2 j z hj2
      refine ⟨a1, by omega, a3, fun k y hk hy hyk hlt => ?_⟩
      rcases get_parts hy with ⟨rfl, rfl⟩ | ⟨m, rfl, hm, hm2⟩ | ⟨m, rfl, hm2⟩
      · rw [h1] at hlt; omega
      · obtain ⟨_, b2, _⟩ := ih1 m y hm2
        omega
      · have := a4 m y (by omega) hm2 hyk (by omega)
        omega
theorem nested_forest : ∀ (n : Nat) (l : List Nd), l.length ≤ n → Nested l → Forest l
  | _, [], _, _ => .nil
  | 0, x :: t, h, _ => by simp at h
  | n + 1, x :: t, h, hn => by
    have hlen : t.length ≤ n := by simpa using h
    obtain ⟨a1, a2, a3, _⟩ := hn 0 x rfl
    simp only [List.length_cons] at a2
    have e : t = t.take (x.size.toNat - 1) ++ t.drop (x.size.toNat - 1) := (List.take_append_drop _ _).symm
    have hil : (t.take (x.size.toNat - 1)).length = x.size.toNat - 1 := by rw [List.length_take]; omega
    have hdl : (t.drop (x.size.toNat - 1)).length = t.length - (x.size.toNat - 1) := List.length_drop
    rw [e]
    refine .cons (by rw [hil]; omega) (fun hk => ?_) (nested_forest n _ (by omega) ?_) (nested_forest n _ (by omega) ?_)
    · have := a3 hk
      rw [this]; rfl
    · intro j z hz
      have hj : j < x.size.toNat - 1 := by rw [← hil]; exact (List.getElem?_eq_some_iff.1 hz).1
      rw [List.getElem?_take_of_lt hj] at hz
      obtain ⟨b1, b2, b3, b4⟩ := hn (j + 1) z (by rw [List.getElem?_cons_succ]; exact hz)
      have hkind : x.kind = 1 := by
        rcases Decidable.em (x.kind = 1) with hk | hk
        · exact hk
        · have := a3 hk; omega
      have b5 := b4 0 x (by omega) rfl hkind (by omega)
      refine ⟨b1, by rw [hil]; omega, b3, fun k y hk hy hyk hlt => ?_⟩
      rw [List.getElem?_take_of_lt (by omega)] at hy
      have := b4 (k + 1) y (by omega) (by rw [List.getElem?_cons_succ]; exact hy) hyk (by omega)
      omega
    · intro j z hz
      rw [List.getElem?_drop] at hz
      obtain ⟨b1, b2, b3, b4⟩ := hn (x.size.toNat - 1 + j + 1) z (by rw [List.getElem?_cons_succ]; exact hz)
      simp only [List.length_cons] at b2
      refine ⟨b1, by rw [hdl]; omega, b3, fun k y hk hy hyk hlt => ?_⟩
      rw [List.getElem?_drop] at hy
      have := b4 (x.size.toNat - 1 + k + 1) y (by omega) (by rw [List.getElem?_cons_succ]; exact hy) hyk (by omega)
      omega
theorem forest_iff_nested (l : List Nd) : Forest l ↔ Nested l := ⟨Forest.nested, nested_forest _ l (Nat.le_refl _)⟩
/-- where the node at place i ends, if it is a block. -/
def endOf (l : List Nd) (i : Nat) : List Int := match l[i]? with
  | some x => if x.kind = 1 then [(i : Int) + x.size] else []
  | none => []
def AE (l : List Nd) : Nat → List Int
  | 0 => []
  | i + 1 => AE l i ++ endOf l i
theorem mem_endOf {l : List Nd} {i : Nat} {e : Int} : e ∈ endOf l i ↔ ∃ x, l[i]? = some x ∧ x.kind = 1 ∧ e = i + x.size := by
  unfold endOf
  rcases h : l[i]? with _ | x
  · simp
  · by_cases hk : x.kind = 1 <;> simp [hk]
theorem mem_AE {l : List Nd} {e : Int} : ∀ {i : Nat}, e ∈ AE l i ↔ ∃ k x, k < i ∧ l[k]? = some x ∧ x.kind = 1 ∧ e = k + x.size
  | 0 => by simp [AE]
  | i + 1 => by
    rw [AE, List.mem_append, mem_AE, mem_endOf]
    constructor
    · rintro (⟨k, x, h1, h2⟩ | ⟨x, h⟩)
      · exact ⟨k, x, by omega, h2⟩
      · exact ⟨i, x, by omega, h⟩
    · rintro ⟨k, x, h1, h2⟩
      rcases Nat.lt_or_ge k i with hk | hk
      · exact .inl ⟨k, x, hk, h2⟩
      · obtain rfl : k = i := by omega
        exact .inr ⟨x, h2⟩
/-- the ends of the blocks ahead of i that are open at z (still, at least). -/
def opnV (l : List Nd) (i : Nat) (z : Int) : List Int := (AE l i).filter (fun e => decide (z < e))
theorem opnV_zero (l : List Nd) (z : Int) : opnV l 0 z = [] := rfl
theorem opnV_succ (l : List Nd) (i : Nat) (z : Int) : opnV l (i + 1) z = opnV l i z ++ (endOf l i).filter (fun e => decide (z < e)) := by unfold opnV; rw [AE, List.filter_append]
theorem opnV_up (l : List Nd) (i : Nat) {z y : Int} (h : z ≤ y) : (opnV l i z).filter (fun e => decide (y < e)) = opnV l i y := by
  unfold opnV
  rw [List.filter_filter]
  congr 1
  funext e
  rw [Bool.eq_iff_iff]
  simp
  omega
theorem mem_opnV {l : List Nd} {i : Nat} {z e : Int} : e ∈ opnV l i z ↔ z < e ∧ ∃ k x, k < i ∧ l[k]? = some x ∧ x.kind = 1 ∧ e = k + x.size := by
  unfold opnV
  rw [List.mem_filter, mem_AE, decide_eq_true_eq]
  exact And.comm
/-- up to place i all keeps within what holds it. -/
def NestTo (l : List Nd) (i : Nat) : Prop := ∀ j, j < i → NestAt l j
theorem NestTo.zero (l : List Nd) : NestTo l 0 := fun j hj => by omega
theorem NestTo.succ {l : List Nd} {i : Nat} (h : NestTo l i) (k : NestAt l i) : NestTo l (i + 1) := fun j hj => by
  rcases Nat.lt_or_ge j i with hji | hji
  · exact h j hji
  · obtain rfl : j = i := by omega
    exact k
theorem NestTo.all {l : List Nd} {i : Nat} (h : NestTo l i) (hi : l.length ≤ i) : Nested l := fun j => by
  rcases Nat.lt_or_ge j i with hji | hji
  · exact h j hji
  · intro x hx
    rw [List.getElem?_eq_none (by omega)] at hx
    cases hx
/-- what holds place i, the innermost one: its end. -/
def lastEnd (l : List Nd) (i : Nat) : Int := (opnV l i i).getLast?.getD (l.length : Int)
/-- ends, the outermost first. -/
def Falls (L : List Int) : Prop := L.Pairwise (fun a b => b ≤ a)
theorem open_falls {l : List Nd} : ∀ {i : Nat} {z : Int}, NestTo l i → (i : Int) - 1 ≤ z → Falls (opnV l i z)
  | 0, z, _, _ => List.Pairwise.nil
  | i + 1, z, h, hz => by
    rw [opnV_succ]
    refine List.pairwise_append.2 ⟨open_falls (fun j hj => h j (by omega)) (by omega), ?_, fun a ha b hb => ?_⟩
    · refine List.Pairwise.filter _ ?_
      unfold endOf
      rcases l[i]? with _ | x
      · exact List.Pairwise.nil
      · by_cases hk : x.kind = 1
        · simp only [if_pos hk]
          exact List.pairwise_singleton _ _
        · simp only [if_neg hk]; exact List.Pairwise.nil
    · obtain ⟨hb1, _⟩ := List.mem_filter.1 hb
      obtain ⟨x, hx, hxk, rfl⟩ := mem_endOf.1 hb1
      obtain ⟨h1, k, y, hk, hy, hyk, rfl⟩ := mem_opnV.1 ha
      exact (h i (by omega) x hx).2.2.2 k y hk hy hyk (by omega)
theorem last_least {L : List Int} (h : Falls L) {z : Int} (hz : L.getLast? = some z) : ∀ a ∈ L, z ≤ a := by
  obtain ⟨K, rfl⟩ : ∃ K, L = K ++ [z] := by
    obtain ⟨h1, h2⟩ := List.getLast?_eq_some_iff.1 hz
    exact ⟨h1, h2⟩
  intro a ha
  rcases List.mem_append.1 ha with ha | ha
  · exact (List.pairwise_append.1 h).2.2 a ha z (by simp)
  · simp at ha; omega
/-- the node at place i keeps within what holds it just if it does within the innermost one. -/
theorem nestAt_iff {l : List Nd} {i : Nat} {x : Nd} (h : NestTo l i) (hx : l[i]? = some x) : NestAt l i ↔ 1 ≤ x.size ∧ x.size ≤ lastEnd l i - i ∧ (x.kind ≠ 1 → x.size = 1) := by
  have hf := open_falls (z := i) h (by omega)
  have hle : ∀ e ∈ opnV l i i, e ≤ l.length := by
    intro e he
    obtain ⟨_, k, y, hk, hy, _, rfl⟩ := mem_opnV.1 he
    exact (h k hk y hy).2.1
  constructor
  · intro hN
    obtain ⟨a1, a2, a3, a4⟩ := hN x hx
    refine ⟨a1, ?_, a3⟩
    unfold lastEnd
    rcases hg : (opnV l i i).getLast? with _ | z
    · simp; omega
    · obtain ⟨h1, k, y, hk, hy, hyk, rfl⟩ := mem_opnV.1 (List.mem_of_getLast? hg)
      have := a4 k y hk hy hyk h1
      simp; omega
  · rintro ⟨a1, a2, a3⟩ x' hx'
    rw [hx] at hx'
    injection hx' with hx'
    subst hx'
    have hll : lastEnd l i ≤ l.length := by
      unfold lastEnd
      rcases hg : (opnV l i i).getLast? with _ | z
      · simp
      · exact hle z (List.mem_of_getLast? hg)
    refine ⟨a1, by omega, a3, fun k y hk hy hyk hlt => ?_⟩
    have hm : (k : Int) + y.size ∈ opnV l i i := mem_opnV.2 ⟨hlt, k, y, hk, hy, hyk, rfl⟩
    have : lastEnd l i ≤ k + y.size := by
      unfold lastEnd
      rcases hg : (opnV l i i).getLast? with _ | z
      · rw [List.getLast?_eq_none_iff] at hg
        rw [hg] at hm; simp at hm
      · exact last_least hf hg _ hm
    omega
/-- ends that fall: those at c stand last. -/
theorem falls_split {c : Int} : ∀ {L : List Int}, Falls L → (∀ e ∈ L, c ≤ e) → ∃ m, L = L.filter (fun e => decide (c < e)) ++ List.replicate m c
  | [], _, _ => ⟨0, rfl⟩
  | a :: L, h, hc => by
    obtain ⟨h1, h2⟩ := List.pairwise_cons.1 h
    by_cases ha : c < a
    · obtain ⟨m, hm⟩ := falls_split h2 (fun e he => hc e (by simp [he]))
      refine ⟨m, ?_⟩
      rw [List.filter_cons_of_pos (by simpa using ha), List.cons_append, ← hm]
    · have hac : a = c := by have := hc a (by simp); omega
      refine ⟨L.length + 1, ?_⟩
      have hall : ∀ e ∈ L, e = c := fun e he => by have := h1 e he; have := hc e (by simp [he]); omega
      rw [List.filter_eq_nil_iff.2 (fun e he => by
        rcases List.mem_cons.1 he with rfl | he
        · simp; omega
        · have := hall e he; simp; omega)]
      rw [List.nil_append, List.replicate_succ, hac]
      congr 1
      exact List.eq_replicate_iff.2 ⟨rfl, hall⟩
end Go.Proofs.Ytamakeogaipdiaa
/- How much nodes are. Nothing of the program stands here. -/
namespace Go.Proofs.Ytamakeogaipdiaa
open Go
set_option linter.unusedVariables false
set_option linter.unusedSimpArgs false
structure Sm where
  depth : Int
  pieces : Int
  nodes : Int
  heights : Int
  deriving DecidableEq
def Sm.none : Sm := ⟨0, 0, 0, 0⟩
def piecesN (x : Nd) : Int := if x.kind = 1 then 0 else if x.kind = 2 then (x.words.length : Int) else 1
def highN (x : Nd) : Int := if x.kind = 1 then x.sty.top + x.sty.bottom + x.sty.padTop + x.sty.padBottom + x.sty.head else if x.kind = 2 then x.line * (x.words.length : Int) else x.h
def cutN : Int := 1099511627777
/-- a height, cut off. -/
def cut (z : Int) : Int := min z cutN
/-- how many blocks hold the node at place i. -/
def depN (l : List Nd) (i : Nat) : Nat := (opnV l (i + 1) i).length
def depTo (l : List Nd) : Nat → Int
  | 0 => 0
  | i + 1 => match l[i]? with
    | some x => if x.kind = 1 then max (depTo l i) (depN l i) else depTo l i
    | none => depTo l i
def sumI (f : Nd → Int) (l : List Nd) : Int := (l.map f).sum
theorem sumI_nil (f : Nd → Int) : sumI f [] = 0 := rfl
theorem sumI_append (f : Nd → Int) (a b : List Nd) : sumI f (a ++ b) = sumI f a + sumI f b := by unfold sumI; rw [List.map_append, List.sum_append]
theorem sumI_cons (f : Nd → Int) (x : Nd) (b : List Nd) : sumI f (x :: b) = f x + sumI f b := by unfold sumI; rw [List.map_cons, List.sum_cons]
theorem sumI_pos {f : Nd → Int} : ∀ {l : List Nd}, (∀ x ∈ l, 0 ≤ f x) → 0 ≤ sumI f l
  | [], _ => by simp [sumI]
  | x :: l, h => by
    rw [sumI_cons]
    have := h x (by simp)
    have := sumI_pos (l := l) (fun y hy => h y (by simp [hy]))
    omega
theorem sumI_take (f : Nd → Int) {l : List Nd} {i : Nat} {x : Nd} (h : l[i]? = some x) : sumI f (l.take (i + 1)) = sumI f (l.take i) + f x := by
  rw [List.take_add_one, h, sumI_append]
  simp [sumI]
theorem cut_step {a b : Int} (hb : 0 ≤ b) : cut (a + b) = min (cut a + b) cutN := by unfold cut cutN; omega
theorem cut_cut {a b : Int} (ha : 0 ≤ a) (hb : 0 ≤ b) : cut (a + b) = min (cut a + cut b) cutN := by unfold cut cutN; omega
theorem cut_le (z : Int) : cut z ≤ cutN := by unfold cut; omega
theorem cut_pos {z : Int} (h : 0 ≤ z) : 0 ≤ cut z := by unfold cut cutN; omega
theorem high_pos {x : Nd} (h : x.fits) : 0 ≤ highN x := by
  unfold highN
  rcases h with ⟨hk, hs, _⟩ | ⟨hk, _, hl, _⟩ | ⟨hk, _, _, _, _, _, hh, _⟩ | ⟨hk, _, _, _, _, _, hh, _⟩
  · rw [if_pos hk]
    obtain ⟨⟨h1, h2, h3, h4, _⟩, _, h5, _⟩ := hs
    unfold okN at *
    omega
  · rw [if_neg (by omega), if_pos hk]
    have := hl.1
    exact Int.mul_nonneg (by omega) (by omega)
  · rw [if_neg (by omega), if_neg (by omega)]; have := hh.1; omega
  · rw [if_neg (by omega), if_neg (by omega)]; have := hh.1; omega
theorem pieces_pos (x : Nd) : 0 ≤ piecesN x := by
  unfold piecesN
  split
  · omega
  · split <;> omega
/-- a whole number as the machine holds it. -/
def wr (z : Int) : Int := IntKind.i64.wrap z
theorem wr_add (a b : Int) : wr (wr a + b) = wr (a + b) := by unfold wr; rw [IntKind.wrap_i64, IntKind.wrap_i64, IntKind.wrap_i64]; omega
theorem wr_add2 (a b : Int) : wr (wr a + wr b) = wr (a + b) := by unfold wr; rw [IntKind.wrap_i64, IntKind.wrap_i64, IntKind.wrap_i64, IntKind.wrap_i64]; omega
theorem wr_wr (a : Int) : wr (wr a) = wr a := by unfold wr; rw [IntKind.wrap_i64, IntKind.wrap_i64]; omega
theorem wr_in {a : Int} (h1 : -9223372036854775808 ≤ a) (h2 : a ≤ 9223372036854775807) : wr a = a := by unfold wr; rw [IntKind.wrap_i64]; omega
/-- how much the first n nodes are. -/
def sumTo (l : List Nd) (n : Nat) : Sm := ⟨depTo l n, wr (sumI piecesN (l.take n)), n, cut (sumI highN (l.take n))⟩
def sumB (l : List Nd) : Sm := sumTo l l.length
theorem sumTo_zero (l : List Nd) : sumTo l 0 = .none := by unfold sumTo Sm.none; simp [depTo, sumI, cut, cutN, wr_in (a := 0) (by decide) (by decide)]; omega
theorem sumB_eq (l : List Nd) : sumB l = ⟨depTo l l.length, wr (sumI piecesN l), l.length, cut (sumI highN l)⟩ := by unfold sumB sumTo; rw [List.take_length]
theorem depTo_succ {l : List Nd} {i : Nat} {x : Nd} (h : l[i]? = some x) : depTo l (i + 1) = if x.kind = 1 then max (depTo l i) (depN l i) else depTo l i := by rw [depTo, h]
theorem depTo_pos (l : List Nd) : ∀ i, 0 ≤ depTo l i
  | 0 => by simp [depTo]
  | i + 1 => by
    have := depTo_pos l i
    rcases h : l[i]? with _ | x
    · rw [depTo, h]; exact this
    · rw [depTo_succ h]; split <;> omega
theorem depN_le (l : List Nd) (i : Nat) : depN l i ≤ i + 1 := by
  have hAE : ∀ i, (AE l i).length ≤ i := by
    intro i
    induction i with
    | zero => simp [AE]
    | succ i ih =>
      rw [AE, List.length_append]
      have : (endOf l i).length ≤ 1 := by
        unfold endOf
        split
        · split <;> simp
        · simp
      omega
  unfold depN opnV
  have := List.length_filter_le (fun e => decide ((i : Int) < e)) (AE l (i + 1))
  have := hAE (i + 1)
  omega
theorem depTo_le (l : List Nd) : ∀ i : Nat, depTo l i ≤ (i : Int)
  | 0 => by simp [depTo]
  | i + 1 => by
    have := depTo_le l i
    rcases h : l[i]? with _ | x
    · rw [depTo, h]; simp only; omega
    · rw [depTo_succ h]
      have := depN_le l i
      split <;> omega
/-! ### documents, one behind the other -/
theorem endOf_left {a b : List Nd} {i : Nat} (h : i < a.length) : endOf (a ++ b) i = endOf a i := by unfold endOf; rw [List.getElem?_append_left h]
theorem AE_left {a b : List Nd} : ∀ {i : Nat}, i ≤ a.length → AE (a ++ b) i = AE a i
  | 0, _ => rfl
  | i + 1, h => by rw [AE, AE, AE_left (by omega), endOf_left (by omega)]
theorem endOf_right (a b : List Nd) (j : Nat) : endOf (a ++ b) (a.length + j) = (endOf b j).map (fun e => (a.length : Int) + e) := by
  unfold endOf
  rw [List.getElem?_append_right (by omega), Nat.add_sub_cancel_left]
  rcases b[j]? with _ | x
  · rfl
  · by_cases hk : x.kind = 1
    · simp [hk]; omega
    · simp [hk]
theorem AE_right (a b : List Nd) : ∀ j : Nat, AE (a ++ b) (a.length + j) = AE a a.length ++ (AE b j).map (fun e => (a.length : Int) + e)
  | 0 => by rw [Nat.add_zero, AE_left (Nat.le_refl _)]; simp [AE]
  | j + 1 => by
    rw [← Nat.add_assoc, AE, AE_right a b j, endOf_right, AE, List.map_append, List.append_assoc]
theorem depN_left {a b : List Nd} {i : Nat} (h : i < a.length) : depN (a ++ b) i = depN a i := by unfold depN opnV; rw [AE_left (by omega)]
theorem filter_shift (L : List Int) (c z : Int) : ((L.map (fun e => c + e)).filter (fun e => decide (c + z < e))).length = (L.filter (fun e => decide (z < e))).length := by
  rw [List.filter_map, List.length_map]
  congr 2
  funext e
  rw [Bool.eq_iff_iff]
  simp
theorem depN_right {a b : List Nd} (ha : Nested a) (j : Nat) : depN (a ++ b) (a.length + j) = depN b j := by
  unfold depN opnV
  rw [Nat.add_assoc, AE_right, List.filter_append, List.length_append]
  have h1 : (AE a a.length).filter (fun e => decide (((a.length + j : Nat) : Int) < e)) = [] := by
    refine List.filter_eq_nil_iff.2 fun e he => ?_
    obtain ⟨k, x, hk, hx, _, rfl⟩ := mem_AE.1 he
    have := (ha k x hx).2.1
    simp; omega
  rw [h1, List.length_nil, Nat.zero_add]
  have := filter_shift (AE b (j + 1)) a.length j
  rw [← this]
  simp
theorem depTo_left {a b : List Nd} : ∀ {i : Nat}, i ≤ a.length → depTo (a ++ b) i = depTo a i
  | 0, _ => rfl
  | i + 1, h => by
    have hx : a[i]? = some (a[i]'(by omega)) := List.getElem?_eq_getElem _
    rw [depTo_succ hx, depTo_succ (l := a ++ b) (by rw [List.getElem?_append_left (by omega)]; exact hx), depTo_left (by omega), depN_left (by omega)]
theorem depTo_right {a b : List Nd} (ha : Nested a) : ∀ j : Nat, j ≤ b.length → depTo (a ++ b) (a.length + j) = max (depTo a a.length) (depTo b j)
  | 0, _ => by
    rw [Nat.add_zero, depTo_left (Nat.le_refl _)]
    have := depTo_pos a a.length
    simp only [depTo]
    omega
  | j + 1, h => by
    have hx : b[j]? = some (b[j]'(by omega)) := List.getElem?_eq_getElem _
    rw [← Nat.add_assoc, depTo_succ hx, depTo_succ (l := a ++ b) (i := a.length + j) (by rw [List.getElem?_append_right (by omega), Nat.add_sub_cancel_left]; exact hx), depTo_right ha j (by omega), depN_right ha]
    split <;> omega
theorem sumB_append {a b : List Nd} (ha : IsDoc a) (hb : IsDoc b) : sumB (a ++ b) = ⟨max (sumB a).depth (sumB b).depth, wr ((sumB a).pieces + (sumB b).pieces), (sumB a).nodes + (sumB b).nodes, min ((sumB a).heights + (sumB b).heights) cutN⟩ := by
  rw [sumB_eq, sumB_eq, sumB_eq, List.length_append, depTo_right ha.2.nested _ (Nat.le_refl _), sumI_append, sumI_append, cut_cut (sumI_pos fun x hx => high_pos (ha.1 x hx)) (sumI_pos fun x hx => high_pos (hb.1 x hx))]
  simp [wr_add2]
theorem IsDoc.append {a b : List Nd} (ha : IsDoc a) (hb : IsDoc b) : IsDoc (a ++ b) := ⟨fun x hx => by
  rcases List.mem_append.1 hx with h | h
  · exact ha.1 x h
  · exact hb.1 x h, ha.2.append hb.2⟩
/-! ### a node and what is within it -/
theorem depN_within {x : Nd} {inner : List Nd} (hx : x.kind = 1) (hs : x.size = 1 + inner.length) {j : Nat} (hj : j < inner.length) : depN (x :: inner) (j + 1) = depN inner j + 1 := by
  have h := AE_right [x] inner (j + 1)
  have e1 : AE [x] [x].length = [1 + (inner.length : Int)] := by simp [AE, endOf, hx, hs]
  rw [e1] at h
  unfold depN opnV
  rw [show x :: inner = [x] ++ inner from rfl, show j + 1 + 1 = [x].length + (j + 1) by simp; omega, h, List.filter_append, List.length_append]
  rw [List.filter_cons_of_pos (by simp; omega), List.filter_nil, List.length_singleton]
  have := filter_shift (AE inner (j + 1)) 1 j
  rw [← this, Nat.add_comm]
  congr 3
  funext e
  rw [Bool.eq_iff_iff]
  simp
  omega
theorem depTo_within {x : Nd} {inner : List Nd} (hx : x.kind = 1) (hs : x.size = 1 + inner.length) : ∀ j : Nat, j ≤ inner.length → depTo (x :: inner) (j + 1) = depTo inner j + 1
  | 0, _ => by
    rw [depTo_succ (l := x :: inner) (i := 0) rfl, if_pos hx]
    have : depN (x :: inner) 0 = 1 := by
      unfold depN
      rw [opnV_succ, opnV_zero]
      unfold endOf
      simp [hx, hs]
      rw [List.filter_cons_of_pos (by simp; omega)]; rfl
    rw [this]
    simp only [depTo]
    omega
  | j + 1, h => by
    have hj : inner[j]? = some (inner[j]'(by omega)) := List.getElem?_eq_getElem _
    rw [depTo_succ (l := x :: inner) (i := j + 1) (by rw [List.getElem?_cons_succ]; exact hj), depTo_succ hj, depTo_within hx hs j (by omega), depN_within hx hs (by omega)]
    split <;> omega
theorem sumB_cons {x : Nd} {inner : List Nd} (hx : x.fits) (hi : IsDoc inner) (hs : x.size = 1 + inner.length) : (x.kind = 1 → (sumB (x :: inner)).depth = (sumB inner).depth + 1) ∧ (sumB (x :: inner)).nodes = (sumB inner).nodes + 1 ∧ (sumB inner).heights ≤ (sumB (x :: inner)).heights := by
  rw [sumB_eq, sumB_eq]
  refine ⟨fun hk => depTo_within hk hs _ (Nat.le_refl _), by simp, ?_⟩
  simp only [sumI_cons]
  have := high_pos hx
  unfold cut
  omega
theorem Forest.at_ {l : List Nd} (h : Forest l) : ∀ (i : Nat) (x : Nd), l[i]? = some x → ∃ pre inner rest, l = pre ++ (x :: (inner ++ rest)) ∧ pre.length = i ∧ x.size = 1 + (inner.length : Int) ∧ (x.kind ≠ 1 → inner = []) ∧ Forest inner := by
  induction h with
  | nil => intro i x hx; simp at hx
  | @cons x inner rest h1 h2 h3 h4 ih1 ih2 =>
    intro i z hz
    rcases get_parts hz with ⟨rfl, rfl⟩ | ⟨j, rfl, hj, hj2⟩ | ⟨j, rfl, hj2⟩
    · exact ⟨[], inner, rest, rfl, rfl, h1, h2, h3⟩
    · obtain ⟨p, n, r, e, hp, hs, hk, hf⟩ := ih1 j z hj2
      refine ⟨x :: p, n, r ++ rest, ?_, by simp [hp], hs, hk, hf⟩
      rw [e]; simp
    · obtain ⟨p, n, r, e, hp, hs, hk, hf⟩ := ih2 j z hj2
      refine ⟨x :: (inner ++ p), n, r, ?_, by simp [hp], hs, hk, hf⟩
      rw [e]; simp
theorem IsDoc.at_ {l : List Nd} (h : IsDoc l) {i : Nat} {x : Nd} (hx : l[i]? = some x) : ∃ pre inner rest, l = pre ++ (x :: (inner ++ rest)) ∧ pre.length = i ∧ x.size = 1 + (inner.length : Int) ∧ IsDoc inner ∧ IsDoc (x :: inner) := by
  obtain ⟨p, n, r, e, hp, hs, hk, hf⟩ := h.2.at_ i x hx
  have hin : ∀ y ∈ n, y.fits := fun y hy => h.1 y (by rw [e]; simp [hy])
  have hxf : x.fits := h.1 x (List.mem_of_getElem? hx)
  have hf2 := Forest.cons hs hk hf .nil
  rw [List.append_nil] at hf2
  exact ⟨p, n, r, e, hp, hs, ⟨hin, hf⟩, ⟨fun y hy => by
    rcases List.mem_cons.1 hy with rfl | hy
    · exact hxf
    · exact hin y hy, hf2⟩⟩
/-- a row's first node and what is within it go ahead. -/
theorem Forest.front {l : List Nd} (h : Forest l) {x : Nd} {t : List Nd} (e : l = x :: t) : ∃ inner rest, t = inner ++ rest ∧ x.size = 1 + (inner.length : Int) ∧ Forest (x :: inner) ∧ Forest rest := by
  cases h with
  | nil => cases e
  | @cons y inner rest h1 h2 h3 h4 =>
    injection e with e1 e2
    subst e1
    have hf2 := Forest.cons h1 h2 h3 .nil
    rw [List.append_nil] at hf2
    exact ⟨inner, rest, e2.symm, h1, hf2, h4⟩
end Go.Proofs.Ytamakeogaipdiaa
/- append onto a row of the call's own, and where the new row lies: in the old one's block, or in the one just made. Nothing of the program stands here. -/
namespace Go.Proofs.Ytamakeogaipdiaa
open Go.ChangeShapes Go.WideShapes Go.ChangeAt Go.RowKit
set_option linter.unusedVariables false
set_option linter.unusedSimpArgs false
section
variable {P : Program} (w : World)
theorem run_append_cells_at (base : Nat) (t ty e : TypeId) (i : TypeInfo) (z : Value) (size bytes : Nat) (ht : P.underlying t = some (.slice e)) (hi : P.info? e = some i) (hz : i.zero = some z)
    (hsize : i.size = size) (hby : i.bytes = bytes) (hzs : z.cells.size = size) (hsz : 0 < size)
    (v : Value) (n : Nat) (xs : List Value) (hown : w.ownsRow base e size v n xs) (A : Option Addr) (m c : Nat) (news : List Value) (hm : 0 < m) (hc : Cells w A m size news) (h1 : ∀ u ∈ news, u.oneCell' = true)
    (h63 : n + m ≤ maxLen) (hbytes : (n + m) * bytes ≤ 140737488355328) (hbase : base ≤ w.heap.size) :
    ∃ A' c' w', (Builtin.append_ #[t, t] ty #[v, .slice A m c]).run P w = .ok (.slice A' (n + m) c') w' ∧ w'.ownsRow base e size (.slice A' (n + m) c') (n + m) (xs ++ news) ∧ w.grownBy w' v.ownBlock ∧
      ((Value.slice A' (n + m) c').ownBlock = v.ownBlock ∨ (Value.slice A' (n + m) c').ownBlock = some w.heap.size) := by
  obtain ⟨b, off, rfl, _, hcell⟩ := hc.2.2 hm
  obtain ⟨v', w', hr, h2, h3, _, h5⟩ := run_append_own_at (P := P) w base t ty e i z size bytes ht hi hz hsize hby hzs hsz v n xs hown ⟨b, off, none⟩ m c news hc.1 (fun j u hu => by rw [add_plain]; exact hcell j u hu) h1 h63 hbytes hbase
  obtain ⟨A', c', rfl⟩ := ownsRow_form h2
  exact ⟨A', c', w', hr, h2, h3, h5⟩
end
theorem wpList_append_cells_at {P : Program} {w : World} {ops : Array Oper} {rest : List Oper} {o : Oper} {a : Act} {Q : Exit → Act → World → Prop} (hgd : o.guard = none) (s x : Operand) (t : TypeId)
    (ho : o.op = .call { callee := .builtin .append, args := #[s, x], argTypes := #[t, t] })
    (base : Nat) (e : TypeId) (i : TypeInfo) (z : Value) (size bytes : Nat) (ht : P.underlying t = some (.slice e)) (hi : P.info? e = some i) (hz : i.zero = some z)
    (hsize : i.size = size) (hby : i.bytes = bytes) (hzs : z.cells.size = size) (hsz : 0 < size)
    (v : Value) (n : Nat) (xs : List Value) (hs : a.eval s = v) (hown : w.ownsRow base e size v n xs)
    (A : Option Addr) (m c : Nat) (news : List Value) (hm : 0 < m) (hx : a.eval x = .slice A m c) (hc : Cells w A m size news) (h1 : ∀ u ∈ news, u.oneCell' = true)
    (h63 : n + m ≤ maxLen) (hbytes : (n + m) * bytes ≤ 140737488355328) (hbase : base ≤ w.heap.size)
    (h : ∀ A' c' w', w'.ownsRow base e size (.slice A' (n + m) c') (n + m) (xs ++ news) → w.grownBy w' v.ownBlock → ((Value.slice A' (n + m) c').ownBlock = v.ownBlock ∨ (Value.slice A' (n + m) c').ownBlock = some w.heap.size) → wpList P ops Q rest (a.put o.dst (.slice A' (n + m) c')) w') : wpList P ops Q (o :: rest) a w := by
  obtain ⟨A', c', w', hr, h2, h3, h4⟩ := run_append_cells_at (P := P) w base t o.type e i z size bytes ht hi hz hsize hby hzs hsz v n xs hown A m c news hm hc h1 h63 hbytes hbase
  refine wpList_plain hgd fun _ hK => ?_
  unfold Oper.wp execOp
  simp only [ho, resolve, invoke, builtin, Sem.run_bind, Sem.run_pure, Result.andThen_ok, List.map_toArray, List.map_cons, List.map_nil, hs, hx, hr]
  exact hK _ _ (h A' c' w' h2 h3 h4)
/-- two rows apart. -/
def Apart (A : Option Addr) (n c : Nat) (B : Option Addr) (m d : Nat) : Prop := ∀ r, (Value.slice A n c).ownBlock = some r → (Value.slice B m d).ownBlock ≠ some r
theorem Apart.symm {A B : Option Addr} {n c m d : Nat} (h : Apart A n c B m d) : Apart B m d A n c := fun r h1 h2 => h r h2 h1
/-- the first row has grown. -/
theorem Apart.left {w : World} {A B A' : Option Addr} {n c m d n' c' : Nat} {base size q : Nat} {e : TypeId} {xs : List Value} (h : Apart A n c B m d) (hB : w.ownsRow base e size (.slice B m d) q xs)
    (h5 : (Value.slice A' n' c').ownBlock = (Value.slice A n c).ownBlock ∨ (Value.slice A' n' c').ownBlock = some w.heap.size) : Apart A' n' c' B m d := by
  intro r h1 h2
  rcases h5 with h5 | h5
  · rw [h5] at h1; exact h r h1 h2
  · rw [h5] at h1
    injection h1 with h1
    have := owns_block_lt hB r h2
    omega
theorem Apart.nil {B : Option Addr} {m d : Nat} : Apart none 0 0 B m d := fun r h => by cases h
/-- another row than the one that has grown stays. -/
theorem owns_other {w w' : World} {A B : Option Addr} {n c m d : Nat} {base size q : Nat} {e : TypeId} {xs : List Value} (h : Apart A n c B m d) (hB : w.ownsRow base e size (.slice B m d) q xs) (hg : w.grownBy w' (Value.slice A n c).ownBlock) :
    w'.ownsRow base e size (.slice B m d) q xs := by
  refine ⟨hB.1, ?_⟩
  rcases hB.2 with h2 | ⟨g, cap, cur, h1, h2, h3, h4⟩
  · exact .inl h2
  · have hgb : (Value.slice B m d).ownBlock = some g := by rw [h1]; rfl
    exact .inr ⟨g, cap, cur, h1, h2, (hg.block g (Array.getElem?_eq_some_iff.1 h3).1 (fun e => h.symm g hgb e.symm)).trans h3, h4⟩
end Go.Proofs.Ytamakeogaipdiaa
/- Who stands in whom among a document's nodes, by places. Nothing of the program stands here. -/
namespace Go.Proofs.Ytamakeogaipdiaa
open Go
set_option linter.unusedVariables false
set_option linter.unusedSimpArgs false
/-- the node at a, and all within it: is the one at b among them? -/
def holdP (L : List Nd) (a b : Nat) : Bool := match L[a]? with
  | some x => decide (b < L.length) && decide (a ≤ b) && decide ((b : Int) - a < x.size)
  | none => false
/-- those of the first i nodes that hold the one at b, the last one first. -/
def backTo (L : List Nd) (b : Nat) : Nat → List Nat
  | 0 => []
  | i + 1 => if holdP L i b then i :: backTo L b i else backTo L b i
/-- the nodes above the one at b, the innermost first. -/
def aboveP (L : List Nd) (b : Nat) : List Nat := if b < L.length then backTo L b b else []
def parentP (L : List Nd) (b : Nat) : Option Nat := (aboveP L b).head?
theorem up_succ (L : List Nd) (b i : Nat) : backTo L b (i + 1) = if holdP L i b then i :: backTo L b i else backTo L b i := rfl
theorem holdP_iff {L : List Nd} {a b : Nat} : holdP L a b = true ↔ ∃ x, L[a]? = some x ∧ b < L.length ∧ a ≤ b ∧ (b : Int) - a < x.size := by
  unfold holdP
  cases h : L[a]? with
  | none => simp
  | some x => simp [and_assoc]
theorem holdP_self {L : List Nd} (hn : Nested L) {b : Nat} (hb : b < L.length) : holdP L b b = true := by
  have hx : L[b]? = some (L[b]'hb) := List.getElem?_eq_getElem hb
  have := (hn b _ hx).1
  exact holdP_iff.2 ⟨_, hx, hb, Nat.le_refl _, by omega⟩
theorem up_mem {L : List Nd} {b : Nat} : ∀ {i j : Nat}, j ∈ backTo L b i ↔ j < i ∧ holdP L j b = true
  | 0, j => by simp [backTo]
  | i + 1, j => by
    unfold backTo
    split
    · rename_i h
      rw [List.mem_cons, up_mem (i := i)]
      constructor
      · rintro (rfl | ⟨h1, h2⟩)
        · exact ⟨by omega, h⟩
        · exact ⟨by omega, h2⟩
      · rintro ⟨h1, h2⟩
        rcases Nat.lt_or_ge j i with h3 | h3
        · exact .inr ⟨h3, h2⟩
        · exact .inl (by omega)
    · rename_i h
      rw [up_mem (i := i)]
      constructor
      · rintro ⟨h1, h2⟩; exact ⟨by omega, h2⟩
      · rintro ⟨h1, h2⟩
        refine ⟨?_, h2⟩
        rcases Nat.lt_or_ge j i with h3 | h3
        · exact h3
        · have : j = i := by omega
          subst this
          exact absurd h2 h
theorem up_len {L : List Nd} {b : Nat} : ∀ (i : Nat), (backTo L b i).length ≤ i
  | 0 => Nat.le_refl _
  | i + 1 => by
    unfold backTo
    have := up_len (L := L) (b := b) i
    split
    · rw [List.length_cons]; omega
    · omega
/-- what holds one place and not another one: nothing, if the same nodes hold both. -/
theorem up_same {L : List Nd} {b c : Nat} : ∀ {i : Nat}, (∀ j, j < i → holdP L j b = holdP L j c) → backTo L b i = backTo L c i
  | 0, _ => rfl
  | i + 1, h => by
    unfold backTo
    rw [h i (by omega), up_same (i := i) (fun j hj => h j (by omega))]
theorem up_none {L : List Nd} {b : Nat} : ∀ {i k : Nat}, k ≤ i → (∀ j, k ≤ j → j < i → holdP L j b = false) → backTo L b i = backTo L b k
  | 0, k, h, _ => by
    have : k = 0 := by omega
    subst this; rfl
  | i + 1, k, h, hno => by
    rcases Nat.lt_or_ge i k with h1 | h1
    · have : k = i + 1 := by omega
      subst this; rfl
    · conv => lhs; unfold backTo
      rw [if_neg (by rw [hno i h1 (by omega)]; decide)]
      exact up_none h1 (fun j h2 h3 => hno j h2 (by omega))
/-- the first one above. -/
theorem up_head {L : List Nd} {b : Nat} : ∀ {i p : Nat}, (backTo L b i).head? = some p → p < i ∧ holdP L p b = true ∧ (∀ j, p < j → j < i → holdP L j b = false) ∧ backTo L b i = p :: backTo L b p
  | 0, p, h => by simp [backTo] at h
  | i + 1, p, h => by
    rw [up_succ] at h ⊢
    split at h
    · rename_i h1
      rw [if_pos h1]
      simp at h
      subst h
      exact ⟨by omega, h1, fun j h2 h3 => by omega, rfl⟩
    · rename_i h1
      rw [if_neg h1]
      obtain ⟨h2, h3, h4, h5⟩ := up_head h
      refine ⟨by omega, h3, fun j h6 h7 => ?_, h5⟩
      rcases Nat.lt_or_ge j i with h8 | h8
      · exact h4 j h6 h8
      · have : j = i := by omega
        subst this
        simpa using h1
/-- a block holds what a node within it holds. -/
theorem holdP_in {L : List Nd} (hn : Nested L) {a p b : Nat} (h1 : holdP L a p = true) (h2 : holdP L p b = true) : holdP L a b = true := by
  obtain ⟨x, hx, _, h3, h4⟩ := holdP_iff.1 h1
  obtain ⟨y, hy, h5, h6, h7⟩ := holdP_iff.1 h2
  refine holdP_iff.2 ⟨x, hx, h5, by omega, ?_⟩
  rcases Nat.eq_or_lt_of_le h3 with rfl | h8
  · rw [hx] at hy; injection hy with hy; subst hy; exact h7
  · have hk : x.kind = 1 := by
      rcases Decidable.em (x.kind = 1) with hk | hk
      · exact hk
      · have := (hn a x hx).2.2.1 hk; omega
    have := (hn p y hy).2.2.2 a x h8 hx hk (by omega)
    omega
theorem holdP_of {L : List Nd} {a p b : Nat} (h1 : holdP L a b = true) (ha : a ≤ p) (hp : p ≤ b) : holdP L a p = true := by
  obtain ⟨x, hx, h2, _, h4⟩ := holdP_iff.1 h1
  exact holdP_iff.2 ⟨x, hx, by omega, ha, by omega⟩
/-- above a node stand its parent, and those above that. -/
theorem above_parent {L : List Nd} (hn : Nested L) {b p : Nat} (h : parentP L b = some p) : aboveP L b = p :: aboveP L p := by
  unfold parentP aboveP at h
  split at h
  · rename_i hb
    obtain ⟨h1, h2, h3, h4⟩ := up_head h
    unfold aboveP
    rw [if_pos hb, h4, if_pos (by omega)]
    congr 1
    refine up_same fun j hj => ?_
    rcases hq : holdP L j p with _ | _
    · rcases hr : holdP L j b with _ | _
      · rfl
      · rw [holdP_of hr (by omega) (by omega)] at hq; cases hq
    · exact holdP_in hn hq h2
  · cases h
theorem above_none {L : List Nd} {b : Nat} (h : parentP L b = none) : aboveP L b = [] := List.head?_eq_none_iff.1 h
theorem parent_lt {L : List Nd} {b p : Nat} (h : parentP L b = some p) : p < b ∧ b < L.length ∧ holdP L p b = true := by
  unfold parentP aboveP at h
  split at h
  · rename_i hb
    obtain ⟨h1, h2, _⟩ := up_head h
    exact ⟨h1, hb, h2⟩
  · cases h
theorem above_mem {L : List Nd} {a b : Nat} : a ∈ aboveP L b ↔ a < b ∧ holdP L a b = true := by
  unfold aboveP
  split
  · exact up_mem
  · rename_i hb
    constructor
    · intro h; cases h
    · rintro ⟨h1, h2⟩
      obtain ⟨x, _, h3, _⟩ := holdP_iff.1 h2
      exact absurd h3 hb
/-- one node holds another one just if they are the same, or it is above that. -/
theorem hold_above {L : List Nd} (hn : Nested L) {a b : Nat} (hb : b < L.length) : holdP L a b = true ↔ a = b ∨ a ∈ aboveP L b := by
  rw [above_mem]
  constructor
  · intro h
    obtain ⟨x, _, _, h2, _⟩ := holdP_iff.1 h
    rcases Nat.eq_or_lt_of_le h2 with h3 | h3
    · exact .inl h3
    · exact .inr ⟨h3, h⟩
  · rintro (rfl | ⟨_, h⟩)
    · exact holdP_self hn hb
    · exact h
/-! ### told by whole numbers -/
def hasI (L : List Nd) (a : Int) : Bool := decide (0 ≤ a) && decide (a < L.length)
def holdsI (L : List Nd) (a b : Int) : Bool := hasI L a && hasI L b && holdP L a.toNat b.toNat
def aboveI (L : List Nd) (a : Int) : List Int := if hasI L a then (aboveP L a.toNat).map (fun i : Nat => (i : Int)) else []
def parentI (L : List Nd) (a : Int) : Int := (aboveI L a).headD (-1)
def kidsI (L : List Nd) (a : Int) : List Int := ((List.range L.length).filter fun i : Nat => decide (parentI L (i : Int) = a)).map fun i : Nat => (i : Int)
theorem hasI_iff {L : List Nd} {a : Int} : hasI L a = true ↔ 0 ≤ a ∧ a < L.length := by unfold hasI; simp
theorem parentI_nat {L : List Nd} {b : Nat} (hb : b < L.length) : parentI L (b : Int) = (match parentP L b with | some p => (p : Int) | none => -1) := by
  unfold parentI aboveI parentP
  rw [if_pos (hasI_iff.2 ⟨by omega, by omega⟩), Int.toNat_natCast]
  cases aboveP L b <;> rfl
theorem parentI_bd {L : List Nd} {b : Nat} (hb : b < L.length) : -1 ≤ parentI L (b : Int) ∧ parentI L (b : Int) < b := by
  rw [parentI_nat hb]
  cases h : parentP L b with
  | none => simp only; omega
  | some p => have := parent_lt h; simp only; omega
theorem kids_mem {L : List Nd} {a k : Int} : k ∈ kidsI L a ↔ 0 ≤ k ∧ k < L.length ∧ parentI L k = a := by
  unfold kidsI
  rw [List.mem_map]
  constructor
  · rintro ⟨i, hi, rfl⟩
    rw [List.mem_filter, List.mem_range] at hi
    obtain ⟨h1, h2⟩ := hi
    exact ⟨by omega, by omega, by simpa using h2⟩
  · rintro ⟨h1, h2, h3⟩
    refine ⟨k.toNat, ?_, by omega⟩
    rw [List.mem_filter, List.mem_range]
    refine ⟨by omega, ?_⟩
    rw [show ((k.toNat : Nat) : Int) = k by omega]
    simpa using h3
/-! ### rooms -/
def maxX : Int := 1099511627776
/-- the room of the node at b: from x on, so wide. -/
def roomF (L : List Nd) (w : Int) : Nat → Nat → Int × Int
  | 0, _ => (0, w)
  | f + 1, b => match parentP L b with
    | none => (0, w)
    | some p => (min ((roomF L w f p).1 + ((L[p]?).map (·.sty.inset)).getD 0) maxX, max ((roomF L w f p).2 - ((L[p]?).map (·.sty.inset)).getD 0 - ((L[p]?).map (·.sty.inset)).getD 0) 1)
def roomP (L : List Nd) (w : Int) (b : Nat) : Int × Int := roomF L w (b + 1) b
theorem roomF_eq {L : List Nd} {w : Int} : ∀ (f g b : Nat), b < f → b < g → roomF L w f b = roomF L w g b
  | 0, _, _, h, _ => by omega
  | _, 0, _, _, h => by omega
  | f + 1, g + 1, b, h1, h2 => by
    unfold roomF
    cases h : parentP L b with
    | none => rfl
    | some p =>
      have := (parent_lt h).1
      simp only
      rw [roomF_eq f g p (by omega) (by omega)]
theorem room_top {L : List Nd} {w : Int} {b : Nat} (h : parentP L b = none) : roomP L w b = (0, w) := by
  unfold roomP roomF
  rw [h]
theorem room_some {L : List Nd} {w : Int} {b p : Nat} (h : parentP L b = some p) : roomP L w b = (min ((roomP L w p).1 + ((L[p]?).map (·.sty.inset)).getD 0) maxX, max ((roomP L w p).2 - ((L[p]?).map (·.sty.inset)).getD 0 - ((L[p]?).map (·.sty.inset)).getD 0) 1) := by
  have hl := (parent_lt h).1
  conv => lhs; unfold roomP roomF
  rw [h]
  simp only
  rw [roomF_eq b (p + 1) p hl (by omega)]
  rfl
/-- rooms keep within bounds. -/
theorem room_bd {L : List Nd} (hf : ∀ y ∈ L, y.fits) {w : Int} (h1 : 1 ≤ w) (h2 : w ≤ maxX) : ∀ (b : Nat), 0 ≤ (roomP L w b).1 ∧ (roomP L w b).1 ≤ maxX ∧ 1 ≤ (roomP L w b).2 ∧ (roomP L w b).2 ≤ w := by
  intro b
  induction b using Nat.strongRecOn with
  | _ b ih =>
    cases h : parentP L b with
    | none =>
      rw [room_top h]
      simp only
      unfold maxX at *
      omega
    | some p =>
      have hl := (parent_lt h).1
      obtain ⟨a1, a2, a3, a4⟩ := ih p hl
      have hi : 0 ≤ ((L[p]?).map (·.sty.inset)).getD 0 := by
        cases hq : L[p]? with
        | none => exact Int.le_refl _
        | some y =>
          have hy := hf y (List.mem_of_getElem? hq)
          show 0 ≤ y.sty.inset
          rcases hy with ⟨_, hs, _⟩ | ⟨_, hs, _⟩ | ⟨_, hs, _⟩ | ⟨_, hs, _⟩
          · exact hs.1.2.2.2.2.1.1
          · rw [hs]; decide
          · rw [hs]; decide
          · rw [hs]; decide
      rw [room_some h]
      simp only
      unfold maxX at *
      omega
end Go.Proofs.Ytamakeogaipdiaa
/- Rooms lie within their parents' ones; each node is a kid of one place. Nothing of the program stands here. -/
namespace Go.Proofs.Ytamakeogaipdiaa
open Go
set_option linter.unusedVariables false
set_option linter.unusedSimpArgs false
def insetAt (L : List Nd) (p : Nat) : Int := ((L[p]?).map (·.sty.inset)).getD 0
theorem inset_bd {L : List Nd} (hf : ∀ y ∈ L, y.fits) (p : Nat) : 0 ≤ insetAt L p ∧ insetAt L p ≤ maxX := by
  unfold insetAt maxX
  cases hq : L[p]? with
  | none => show (0 : Int) ≤ 0 ∧ (0 : Int) ≤ _; omega
  | some y =>
    have hy := hf y (List.mem_of_getElem? hq)
    show 0 ≤ y.sty.inset ∧ y.sty.inset ≤ _
    rcases hy with ⟨_, hs, _⟩ | ⟨_, hs, _⟩ | ⟨_, hs, _⟩ | ⟨_, hs, _⟩
    · exact hs.1.2.2.2.2.1
    · rw [hs]; decide
    · rw [hs]; decide
    · rw [hs]; decide
theorem room_step {L : List Nd} {w : Int} {b p : Nat} (h : parentP L b = some p) : roomP L w b = (min ((roomP L w p).1 + insetAt L p) maxX, max ((roomP L w p).2 - insetAt L p - insetAt L p) 1) := room_some h
/-- a room's end is within the whole width, or it is 1 wide. -/
theorem room_end {L : List Nd} (hf : ∀ y ∈ L, y.fits) {w : Int} (h1 : 1 ≤ w) (h2 : w ≤ maxX) : ∀ (b : Nat), (roomP L w b).1 + (roomP L w b).2 ≤ w ∨ (roomP L w b).2 = 1 := by
  intro b
  induction b using Nat.strongRecOn with
  | _ b ih =>
    cases h : parentP L b with
    | none => rw [room_top h]; left; simp only; omega
    | some p =>
      have hl := (parent_lt h).1
      have hi := inset_bd hf p
      obtain ⟨a1, a2, a3, a4⟩ := room_bd hf h1 h2 p
      rw [room_step h]
      simp only
      rcases ih p hl with h3 | h3 <;> omega
/-- a kid's room and its parent's. -/
theorem room_in {L : List Nd} (hf : ∀ y ∈ L, y.fits) {w : Int} (h1 : 1 ≤ w) (h2 : w ≤ maxX) {b p : Nat} (h : parentP L b = some p) :
    1 ≤ (roomP L w b).2 ∧ (roomP L w b).2 ≤ (roomP L w p).2 ∧ (roomP L w p).1 ≤ (roomP L w b).1 ∧
    (1 ≤ (roomP L w p).2 - 2 * insetAt L p → (roomP L w b).1 = (roomP L w p).1 + insetAt L p ∧ (roomP L w b).1 + (roomP L w b).2 = (roomP L w p).1 + (roomP L w p).2 - insetAt L p) := by
  have hi := inset_bd hf p
  obtain ⟨a1, a2, a3, a4⟩ := room_bd hf h1 h2 p
  have he := room_end hf h1 h2 p
  rw [room_step h]
  simp only
  omega
/-! ### each node is a kid of one place -/
theorem kids_nat {L : List Nd} {a : Int} : kidsI L a = ((List.range L.length).filter fun i : Nat => decide (parentI L (i : Int) = a)).map fun i : Nat => (i : Int) := rfl
/-- kids of one place rise. -/
theorem kids_rise {L : List Nd} {a : Int} : (kidsI L a).Pairwise (· < ·) := by
  rw [kids_nat, List.pairwise_map]
  refine (List.pairwise_lt_range.filter _).imp fun h => by omega
/-- how often a node has been met: all kids of the places ahead of a, and the first t ones of a. -/
def metI (L : List Nd) (a : Int) (t : Nat) (j : Nat) : Int := if parentI L (j : Int) < a ∨ (j : Int) ∈ (kidsI L a).take t then 1 else 0
theorem met_start (L : List Nd) {j : Nat} (hj : j < L.length) : metI L (-1) 0 j = 0 := by
  have := (parentI_bd hj).1
  unfold metI
  rw [if_neg]
  rintro (h | h)
  · omega
  · simp at h
theorem met_next (L : List Nd) (a : Int) {j : Nat} (hj : j < L.length) : metI L (a + 1) 0 j = metI L a (kidsI L a).length j := by
  unfold metI
  rw [List.take_zero, List.take_of_length_le (Nat.le_refl _)]
  have : ((j : Int) ∈ kidsI L a) ↔ parentI L (j : Int) = a := by
    rw [kids_mem]
    constructor
    · rintro ⟨_, _, h⟩; exact h
    · intro h; exact ⟨by omega, by omega, h⟩
  congr 1
  rw [this, eq_iff_iff]
  constructor
  · rintro (h | h)
    · omega
    · cases h
  · rintro (h | h)
    · exact .inl (by omega)
    · exact .inl (by omega)
theorem met_step (L : List Nd) (a : Int) {t j k : Nat} (hk : (kidsI L a)[t]? = some (k : Int)) : metI L a (t + 1) j = if j = k then metI L a t j + 1 else metI L a t j := by
  have ht := (List.getElem?_eq_some_iff.1 hk).1
  have hs : (kidsI L a).take (t + 1) = (kidsI L a).take t ++ [(k : Int)] := by
    rw [List.take_succ_eq_append_getElem ht, (List.getElem?_eq_some_iff.1 hk).2]
  have hp : parentI L (k : Int) = a := (kids_mem.1 (List.mem_of_getElem? hk)).2.2
  have hno : (k : Int) ∉ (kidsI L a).take t := by
    intro hm
    obtain ⟨i, hi, he⟩ := List.getElem_of_mem hm
    rw [List.length_take] at hi
    have hi2 : i < t := by omega
    have hr := List.pairwise_iff_getElem.1 (kids_rise (L := L) (a := a)) i t (by omega) ht hi2
    rw [List.getElem_take] at he
    rw [he, (List.getElem?_eq_some_iff.1 hk).2] at hr
    omega
  unfold metI
  rw [hs]
  by_cases hjk : j = k
  · subst hjk
    rw [if_pos rfl, if_pos (.inr (by simp)), if_neg]
    · rfl
    · rintro (h | h)
      · omega
      · exact hno h
  · rw [if_neg hjk]
    congr 1
    rw [eq_iff_iff]
    constructor
    · rintro (h | h)
      · exact .inl h
      · rcases List.mem_append.1 h with h | h
        · exact .inr h
        · simp at h; omega
    · rintro (h | h)
      · exact .inl h
      · exact .inr (List.mem_append_left _ h)
theorem met_all (L : List Nd) {j : Nat} (hj : j < L.length) : metI L (L.length : Int) 0 j = 1 := by
  have := (parentI_bd hj).2
  unfold metI
  rw [if_pos (.inl (by omega))]
theorem kid_bd {L : List Nd} {a k : Int} {t : Nat} (h : (kidsI L a)[t]? = some k) : a < k ∧ 0 ≤ k ∧ k < L.length ∧ parentI L k = a := by
  obtain ⟨h1, h2, h3⟩ := kids_mem.1 (List.mem_of_getElem? h)
  have := (parentI_bd (L := L) (b := k.toNat) (by omega)).2
  rw [show ((k.toNat : Nat) : Int) = k by omega] at this
  exact ⟨by omega, h1, h2, h3⟩
theorem kid_rise {L : List Nd} {a k k' : Int} {t : Nat} (h1 : (kidsI L a)[t]? = some k) (h2 : (kidsI L a)[t + 1]? = some k') : k < k' := by
  obtain ⟨a1, a2⟩ := List.getElem?_eq_some_iff.1 h1
  obtain ⟨b1, b2⟩ := List.getElem?_eq_some_iff.1 h2
  have := List.pairwise_iff_getElem.1 (kids_rise (L := L) (a := a)) t (t + 1) a1 b1 (by omega)
  rw [a2, b2] at this
  exact this
/-- the nodes above, by whole numbers: each is the parent of the one ahead. -/
theorem aboveI_nat {L : List Nd} {b : Nat} (hb : b < L.length) : aboveI L (b : Int) = (aboveP L b).map fun i : Nat => (i : Int) := by
  unfold aboveI
  rw [if_pos (hasI_iff.2 ⟨by omega, by omega⟩), Int.toNat_natCast]
theorem above_step {L : List Nd} (hn : Nested L) : ∀ (m : Nat) (b t : Nat), (aboveP L b).length ≤ m → b < L.length → t ≤ (aboveP L b).length →
    ∃ c, c < L.length ∧ (c = if t = 0 then b else ((aboveP L b)[t - 1]?).getD 0) ∧ aboveP L c = (aboveP L b).drop t
  | m, b, 0, hm, hb, _ => ⟨b, hb, rfl, rfl⟩
  | 0, b, t + 1, hm, hb, ht => by omega
  | m + 1, b, t + 1, hm, hb, ht => by
    cases h : parentP L b with
    | none => rw [above_none h] at ht; simp at ht
    | some p =>
      have hl := parent_lt h
      have ha := above_parent hn h
      rw [ha] at hm ht ⊢
      simp only [List.length_cons] at hm ht
      obtain ⟨c, h1, h2, h3⟩ := above_step hn m p t (by omega) (by omega) (by omega)
      refine ⟨c, h1, ?_, by rw [List.drop_succ_cons]; exact h3⟩
      rw [if_neg (by omega), h2]
      cases t with
      | zero => simp
      | succ t => simp
end Go.Proofs.Ytamakeogaipdiaa
/- How kids of one place follow one another. Nothing of the program stands here. -/
namespace Go.Proofs.Ytamakeogaipdiaa
open Go
set_option linter.unusedVariables false
set_option linter.unusedSimpArgs false
theorem hold_end {L : List Nd} (hn : Nested L) {k e : Nat} {x : Nd} (hx : L[k]? = some x) (he : (e : Int) = (k : Int) + x.size) {j : Nat} (hj : k ≤ j) (hje : j < e) : holdP L j e = false := by
  rcases hq : holdP L j e with _ | _
  · rfl
  · obtain ⟨y, hy, h1, h2, h3⟩ := holdP_iff.1 hq
    rcases Nat.eq_or_lt_of_le hj with rfl | h4
    · rw [hx] at hy; injection hy with hy; subst hy; omega
    · have hk : x.kind = 1 := by
        rcases Decidable.em (x.kind = 1) with hk | hk
        · exact hk
        · have := (hn k x hx).2.2.1 hk; omega
      have := (hn j y hy).2.2.2 k x h4 hx hk (by omega)
      omega
/-- what ends where k's node ends stands in the same nodes as it. -/
theorem above_next {L : List Nd} (hn : Nested L) {k e : Nat} {x : Nd} (hx : L[k]? = some x) (he : (e : Int) = (k : Int) + x.size) (hel : e < L.length)
    (hk : ∀ j, j < k → holdP L j k = true → holdP L j e = true) : aboveP L e = aboveP L k := by
  have hs := (hn k x hx).1
  have hkl := (List.getElem?_eq_some_iff.1 hx).1
  unfold aboveP
  rw [if_pos hel, if_pos hkl, up_none (k := k) (by omega) (fun j h1 h2 => hold_end hn hx he h1 h2)]
  refine up_same fun j hj => ?_
  rcases hq : holdP L j k with _ | _
  · rcases hr : holdP L j e with _ | _
    · rfl
    · rw [holdP_of hr (by omega) (by omega)] at hq; cases hq
  · exact hk j hj hq
theorem next_none {L : List Nd} (hn : Nested L) {k e : Nat} {x : Nd} (hx : L[k]? = some x) (he : (e : Int) = (k : Int) + x.size) (hel : e < L.length) (hp : parentP L k = none) : parentP L e = none := by
  have ha := above_none hp
  unfold parentP
  rw [above_next hn hx he hel (fun j hj hh => ?_), ha]
  · rfl
  · have : j ∈ aboveP L k := above_mem.2 ⟨hj, hh⟩
    rw [ha] at this
    cases this
theorem next_some {L : List Nd} (hn : Nested L) {k e a : Nat} {x y : Nd} (hx : L[k]? = some x) (he : (e : Int) = (k : Int) + x.size) (hp : parentP L k = some a) (hy : L[a]? = some y) (hlt : (e : Int) < (a : Int) + y.size) : parentP L e = some a := by
  have hl := parent_lt hp
  have ht := (hn a y hy).2.1
  have hs := (hn k x hx).1
  have hae : holdP L a e = true := holdP_iff.2 ⟨y, hy, by omega, by omega, by omega⟩
  have hab := above_parent hn hp
  unfold parentP
  rw [above_next hn hx he (by omega) (fun j hj hh => ?_), hab]
  · rfl
  · have : j ∈ aboveP L k := above_mem.2 ⟨hj, hh⟩
    rw [hab] at this
    rcases List.mem_cons.1 this with rfl | hm
    · exact hae
    · exact holdP_in hn (above_mem.1 hm).2 hae
theorem first_some {L : List Nd} (hn : Nested L) {a : Nat} {y : Nd} (hy : L[a]? = some y) (hlt : (a : Int) + 1 < (a : Int) + y.size) : parentP L (a + 1) = some a := by
  have ht := (hn a y hy).2.1
  unfold parentP aboveP
  rw [if_pos (by omega), up_succ, if_pos (holdP_iff.2 ⟨y, hy, by omega, by omega, by omega⟩)]
  rfl
theorem first_none {L : List Nd} : parentP L 0 = none := by
  unfold parentP aboveP
  split <;> rfl
/-- the parent of what stands within a node is not ahead of that. -/
theorem parent_in {L : List Nd} {k j p : Nat} (h : holdP L k j = true) (hkj : k < j) (hp : parentP L j = some p) : k ≤ p := by
  unfold parentP aboveP at hp
  split at hp
  · obtain ⟨_, _, h3, _⟩ := up_head hp
    rcases Nat.lt_or_ge p k with h4 | h4
    · rw [h3 k h4 hkj] at h; cases h
    · exact h4
  · cases hp
/-! ### kids from a place on -/
def kidsFrom (L : List Nd) (a : Int) (k : Nat) : List Int := ((List.range' k (L.length - k)).filter fun i : Nat => decide (parentI L (i : Int) = a)).map fun i : Nat => (i : Int)
theorem kidsFrom_zero (L : List Nd) (a : Int) : kidsFrom L a 0 = kidsI L a := by
  unfold kidsFrom
  rw [kids_nat, List.range_eq_range', Nat.sub_zero]
theorem kidsFrom_end {L : List Nd} {a : Int} {k : Nat} (h : L.length ≤ k) : kidsFrom L a k = [] := by
  unfold kidsFrom
  rw [show L.length - k = 0 by omega]
  rfl
theorem kidsFrom_step {L : List Nd} {a : Int} {k : Nat} (h : k < L.length) : kidsFrom L a k = if parentI L (k : Int) = a then (k : Int) :: kidsFrom L a (k + 1) else kidsFrom L a (k + 1) := by
  unfold kidsFrom
  rw [show L.length - k = (L.length - (k + 1)) + 1 by omega, List.range'_succ, List.filter_cons]
  by_cases hq : parentI L (k : Int) = a
  · rw [if_pos (by simpa using hq), if_pos hq]; rfl
  · rw [if_neg (by simpa using hq), if_neg hq]
theorem kidsFrom_skip {L : List Nd} {a : Int} {e : Nat} : ∀ (d k : Nat), e = k + d → (∀ j : Nat, k ≤ j → j < e → j < L.length → parentI L (j : Int) ≠ a) → kidsFrom L a k = kidsFrom L a e
  | 0, k, h, _ => by rw [h]; rfl
  | d + 1, k, h, hq => by
    rw [← kidsFrom_skip d (k + 1) (by omega) (fun j h1 h2 h3 => hq j (by omega) h2 h3)]
    by_cases hk : k < L.length
    · rw [kidsFrom_step hk, if_neg (hq k (Nat.le_refl _) (by omega) hk)]
    · rw [kidsFrom_end (by omega), kidsFrom_end (by omega)]
theorem parI_some {L : List Nd} {k a : Nat} (hk : k < L.length) : parentI L (k : Int) = (a : Int) ↔ parentP L k = some a := by
  rw [parentI_nat hk]
  cases h : parentP L k with
  | none => simp only; constructor; intro h; omega; intro h; cases h
  | some p => simp only; constructor; intro h; congr 1; omega; intro h; injection h with h; omega
theorem parI_none {L : List Nd} {k : Nat} (hk : k < L.length) : parentI L (k : Int) = -1 ↔ parentP L k = none := by
  rw [parentI_nat hk]
  cases h : parentP L k with
  | none => simp
  | some p => simp only; constructor; intro h; omega; intro h; cases h
/-- behind a kid, the next one is where it ends, or further on. -/
theorem kidsFrom_kid {L : List Nd} (hn : Nested L) {a : Int} {k e : Nat} {x : Nd} (hx : L[k]? = some x) (he : (e : Int) = (k : Int) + x.size) (hp : parentI L (k : Int) = a) : kidsFrom L a k = (k : Int) :: kidsFrom L a e := by
  have hkl := (List.getElem?_eq_some_iff.1 hx).1
  have hs := (hn k x hx).1
  have hb := (parentI_bd hkl).2
  rw [kidsFrom_step hkl, if_pos hp]
  congr 1
  refine kidsFrom_skip (e - (k + 1)) (k + 1) (by omega) fun j h1 h2 h3 hq => ?_
  rw [parentI_nat h3] at hq
  have hh : holdP L k j = true := holdP_iff.2 ⟨x, hx, h3, by omega, by omega⟩
  cases h : parentP L j with
  | none =>
    have : k ∈ aboveP L j := above_mem.2 ⟨by omega, hh⟩
    rw [above_none h] at this
    cases this
  | some p =>
    have := parent_in hh (by omega) h
    rw [h] at hq
    simp only at hq
    omega
/-- the kids of a node stand behind it, and within it. -/
theorem kidsFrom_first {L : List Nd} {a : Nat} : kidsFrom L (a : Int) (a + 1) = kidsI L (a : Int) := by
  rw [← kidsFrom_zero]
  refine (kidsFrom_skip (a + 1) 0 (by omega) fun j _ h2 h3 hq => ?_).symm
  have := (parentI_bd h3).2
  omega
theorem kidsFrom_last {L : List Nd} {a e : Nat} {y : Nd} (hy : L[a]? = some y) (he : (a : Int) + y.size ≤ (e : Int)) : kidsFrom L (a : Int) e = [] := by
  by_cases hel : e ≤ L.length
  · rw [kidsFrom_skip (e := L.length) (L.length - e) e (by omega) (fun j h1 h2 h3 hq => ?_), kidsFrom_end (Nat.le_refl _)]
    have hp := (parI_some h3).1 hq
    obtain ⟨_, _, hh⟩ := parent_lt hp
    obtain ⟨z, hz, _, _, h4⟩ := holdP_iff.1 hh
    rw [hy] at hz
    injection hz with hz
    subst hz
    omega
  · exact kidsFrom_end (by omega)
theorem kidsI_odd {L : List Nd} {a : Int} (h : a < -1 ∨ (L.length : Int) ≤ a) : kidsI L a = [] := by
  rw [kids_nat, List.map_eq_nil_iff, List.filter_eq_nil_iff]
  intro i hi
  rw [List.mem_range] at hi
  have := parentI_bd hi
  simp only [decide_eq_true_eq]
  omega
/-- where what is within a node begins, and where it ends. -/
def innerI (L : List Nd) (a : Int) : Int × Int := if a = -1 then (0, L.length) else match L[a.toNat]? with
  | some x => if hasI L a then (a + 1, a + x.size) else (0, 0)
  | none => (0, 0)
theorem innerI_one (L : List Nd) : innerI L (-1) = (0, (L.length : Int)) := by unfold innerI; rw [if_pos rfl]
theorem innerI_nat {L : List Nd} {i : Nat} {y : Nd} (hy : L[i]? = some y) : innerI L (i : Int) = ((i : Int) + 1, (i : Int) + y.size) := by
  have hl := (List.getElem?_eq_some_iff.1 hy).1
  unfold innerI
  rw [if_neg (by omega), Int.toNat_natCast, hy]
  simp only
  rw [if_pos (hasI_iff.2 ⟨by omega, by omega⟩)]
theorem innerI_no {L : List Nd} {a : Int} (h1 : a ≠ -1) (h : hasI L a = false) : innerI L a = (0, 0) := by
  unfold innerI
  rw [if_neg h1, h]
  cases L[a.toNat]? <;> rfl
/-- at k stands a kid of a, or all have been. -/
def KidAt (L : List Nd) (a q : Int) (k : Nat) : Prop := (q ≤ (k : Int) ∧ kidsFrom L a k = []) ∨ ((k : Int) < q ∧ parentI L (k : Int) = a ∧ k < L.length)
theorem inner_cases (L : List Nd) (a : Int) : a = -1 ∨ (∃ (i : Nat) (y : Nd), a = (i : Int) ∧ L[i]? = some y) ∨ (a ≠ -1 ∧ hasI L a = false) := by
  by_cases h1 : a = -1
  · exact .inl h1
  · rcases hq : hasI L a with _ | _
    · exact .inr (.inr ⟨h1, rfl⟩)
    · obtain ⟨h2, h3⟩ := hasI_iff.1 hq
      exact .inr (.inl ⟨a.toNat, L[a.toNat]'(by omega), by omega, List.getElem?_eq_getElem _⟩)
theorem kidAt_start {L : List Nd} (hn : Nested L) {a p q : Int} (hv : innerI L a = (p, q)) : ∃ k : Nat, p = (k : Int) ∧ k ≤ L.length + 1 ∧ q ≤ L.length ∧ kidsFrom L a k = kidsI L a ∧ KidAt L a q k := by
  rcases inner_cases L a with rfl | ⟨i, y, rfl, hy⟩ | ⟨h1, h2⟩
  · rw [innerI_one] at hv
    injection hv with hp hq
    refine ⟨0, by omega, by omega, by omega, kidsFrom_zero _ _, ?_⟩
    by_cases h0 : 0 < L.length
    · exact .inr ⟨by omega, (parI_none h0).2 first_none, h0⟩
    · exact .inl ⟨by omega, kidsFrom_end (by omega)⟩
  · rw [innerI_nat hy] at hv
    injection hv with hp hq
    have ht := (hn i y hy).2.1
    have hl := (List.getElem?_eq_some_iff.1 hy).1
    refine ⟨i + 1, by omega, by omega, by omega, kidsFrom_first, ?_⟩
    by_cases h0 : (i : Int) + 1 < (i : Int) + y.size
    · exact .inr ⟨by omega, (parI_some (by omega)).2 (first_some hn hy h0), by omega⟩
    · exact .inl ⟨by omega, kidsFrom_last hy (by omega)⟩
  · rw [innerI_no h1 h2] at hv
    injection hv with hp hq
    have hk : kidsI L a = [] := kidsI_odd (by
      rcases Int.lt_or_le a (-1) with h | h
      · exact .inl h
      · right
        rcases Int.lt_or_le a L.length with h3 | h3
        · rw [hasI_iff.2 ⟨by omega, h3⟩] at h2; cases h2
        · exact h3)
    refine ⟨0, by omega, by omega, by omega, kidsFrom_zero _ _, .inl ⟨by omega, by rw [kidsFrom_zero, hk]⟩⟩
theorem kidAt_step {L : List Nd} (hn : Nested L) {a p q : Int} (hv : innerI L a = (p, q)) {k : Nat} {x : Nd} (hx : L[k]? = some x) (hp : parentI L (k : Int) = a) (hlt : (k : Int) < q) :
    ∃ e : Nat, (k : Int) + x.size = (e : Int) ∧ k < e ∧ (e : Int) ≤ q ∧ kidsFrom L a k = (k : Int) :: kidsFrom L a e ∧ KidAt L a q e := by
  have hs := hn k x hx
  have hkl := (List.getElem?_eq_some_iff.1 hx).1
  obtain ⟨e, he⟩ : ∃ e : Nat, (k : Int) + x.size = (e : Int) := ⟨((k : Int) + x.size).toNat, by have := hs.1; omega⟩
  refine ⟨e, he, by have := hs.1; omega, ?_⟩
  rcases inner_cases L a with rfl | ⟨i, y, rfl, hy⟩ | ⟨h1, h2⟩
  · rw [innerI_one] at hv
    injection hv with hp' hq
    have ht := hs.2.1
    refine ⟨by omega, kidsFrom_kid hn hx he.symm hp, ?_⟩
    by_cases h0 : e < L.length
    · exact .inr ⟨by omega, (parI_none h0).2 (next_none hn hx he.symm h0 ((parI_none hkl).1 hp)), h0⟩
    · exact .inl ⟨by omega, kidsFrom_end (by omega)⟩
  · rw [innerI_nat hy] at hv
    injection hv with hp' hq
    have ht := (hn i y hy).2.1
    have hpp := (parI_some hkl).1 hp
    obtain ⟨h3, _, hh⟩ := parent_lt hpp
    have heq : (e : Int) ≤ (i : Int) + y.size := by
      have hk1 : y.kind = 1 := by
        rcases Decidable.em (y.kind = 1) with hk | hk
        · exact hk
        · have := (hn i y hy).2.2.1 hk; omega
      have := hs.2.2.2 i y h3 hy hk1 (by omega)
      omega
    refine ⟨by omega, kidsFrom_kid hn hx he.symm hp, ?_⟩
    by_cases h0 : (e : Int) < (i : Int) + y.size
    · exact .inr ⟨by omega, (parI_some (by omega)).2 (next_some hn hx he.symm hpp hy h0), by omega⟩
    · exact .inl ⟨by omega, kidsFrom_last hy (by omega)⟩
  · rw [innerI_no h1 h2] at hv
    injection hv with hp' hq
    omega
end Go.Proofs.Ytamakeogaipdiaa
/- What is answered of nodes. Nothing of the program stands here. -/
namespace Go.Proofs.Ytamakeogaipdiaa
open Go
set_option linter.unusedVariables false
set_option linter.unusedSimpArgs false
/-- how much they are, and the error. -/
def ansV (l : List Nd) : Sm × Int := if docB l then (sumB l, 0) else (.none, 4)
def overB (s : Sm) : Bool := decide (16 < s.depth) || decide (2000 < s.pieces) || decide (2000 < s.nodes) || decide (1099511627776 < s.heights)
/-- what is wrong with them. -/
def chkV (l : List Nd) : Int := if docB l then (if overB (sumB l) then 2 else 0) else 4
theorem ansV_err {l : List Nd} {s : Sm} {f : Int} (h : ansV l = (s, f)) : (f = 0 ∧ docB l = true ∧ s = sumB l) ∨ (f = 4 ∧ docB l = false ∧ s = .none) := by
  unfold ansV at h
  rcases hd : docB l with _ | _
  · rw [hd] at h; simp at h; exact .inr ⟨h.2.symm, rfl, h.1.symm⟩
  · rw [hd] at h; simp at h; exact .inl ⟨h.2.symm, rfl, h.1.symm⟩
end Go.Proofs.Ytamakeogaipdiaa
/- Ends of blocks, pieces: mathematics. (Split off ValidStep.) -/
namespace Go.Proofs.Ytamakeogaipdiaa
open Go
set_option linter.unusedVariables false
set_option linter.unusedSimpArgs false
theorem endOf_at {l : List Nd} {k : Nat} {x : Nd} (hx : l[k]? = some x) : endOf l k = if x.kind = 1 then [(k : Int) + x.size] else [] := by unfold endOf; rw [hx]
theorem pieces_take (l : List Nd) (hw : ∀ x ∈ l, x.words.length ≤ 100000) : ∀ k : Nat, sumI piecesN (l.take k) ≤ 100000 * k
  | 0 => by simp [sumI]
  | k + 1 => by
    have ih := pieces_take l hw k
    rcases hx : l[k]? with _ | x
    · rw [List.take_add_one, hx]
      simp only [Option.toList_none, List.append_nil]
      omega
    · rw [sumI_take piecesN hx]
      have : piecesN x ≤ 100000 := by
        have := hw x (List.mem_of_getElem? hx)
        unfold piecesN
        split
        · omega
        · split <;> omega
      omega
end Go.Proofs.Ytamakeogaipdiaa
