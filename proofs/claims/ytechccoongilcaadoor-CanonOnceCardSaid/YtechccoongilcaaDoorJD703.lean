import Derived.Test.YtechccoongilcaaDoorJD700
import Derived.Test.YtechccoongilcaaDoorRows
import Derived.Lib.FrozenHead2
import Derived.Lib.OthersKept
import Derived.Lib.Builder
import Derived.Lib.UnsafeStr
import Derived.Lib.AppendStr
import Derived.Laws.Externs
import Derived.Shelf.RegionOpenPlain
import Derived.Test.YtechccoongilcaaDoorJD701
import Derived.Laws.RangeAny
import Derived.OwnWalk
import Derived.Deep.WholeRow
import Derived.DeepKeys
import Derived.ChangeMaps5
import Derived.Test.YtechccoongilcaaDoorJD702
import Derived.Deep.QuietTactic
import Derived.BigQuiet
/- A strings.Builder that lies in a writer of the call's own: its methods. -/
namespace Go.Proofs.YtechccoongilcaaDoor
open Go.RowKit
set_option linter.unusedVariables false
set_option linter.unusedSimpArgs false
/-- the writer in block b holds the bytes l. -/
def Wr (B b : Nat) (l : List UInt8) (w : World) : Prop := Lib.IsBuilderF 57 5 B b (Lib.byteCells l) w
/-- blocks that are not b, and no rows of bytes, stay; what lies below B stays. -/
def Kept (B b : Nat) (w w' : World) : Prop := Below B w w' ∧ Lib.OthersKept 5 (some b) w w'
theorem Kept.refl (B b : Nat) (w : World) : Kept B b w w := ⟨Below.refl _ _, Lib.OthersKept.refl _ _ _⟩
theorem Kept.trans {B b : Nat} {u v w : World} (h : Kept B b u v) (k : Kept B b v w) : Kept B b u w := ⟨h.1.trans k.1, h.2.trans k.2⟩
theorem Kept.size {B b : Nat} {u v : World} (h : Kept B b u v) : u.heap.size ≤ v.heap.size := h.1.size
theorem Kept.drew {B b : Nat} {u v : World} (h : Kept B b u v) : Kept B b u v.drew := ⟨Below.drew h.1, h.2.drew⟩
theorem Kept.alloc {B b : Nat} {u v : World} (h : Kept B b u v) (hB : B ≤ v.heap.size) (o : Obj) : Kept B b u (v.alloc o) := ⟨h.1.alloc hB o, h.2.alloc o⟩
/-- a step that makes memory alone. -/
theorem Kept.below {B b : Nat} {u v w : World} (h : Kept B b u v) (hB : B ≤ v.heap.size) (hb : Below v.heap.size v w) : Kept B b u w :=
  h.trans ⟨hb.mono hB, fun k o hk _ _ => (hb.block k (Array.getElem?_eq_some_iff.1 hk).1).trans hk⟩
theorem Wr.below {B b : Nat} {l : List UInt8} {v w : World} (h : Wr B b l v) (hb : Below v.heap.size v w) : Wr B b l w := by
  have f : ∀ p, Lib.BuilderAtF 57 5 B b p (Lib.byteCells l) v → Lib.BuilderAtF 57 5 B b p (Lib.byteCells l) w := by
    rintro p ⟨hB, x, hx, hown, hne⟩
    refine ⟨hB, x, (hb.block b (Array.getElem?_eq_some_iff.1 hx).1).trans hx, ⟨hown.1, ?_⟩, hne⟩
    rcases hown.2 with hn | ⟨g, cap, cur, fz, hv, hbg, hg, rest⟩
    · exact .inl hn
    · exact .inr ⟨g, cap, cur, fz, hv, hbg, (hb.block g (Array.getElem?_eq_some_iff.1 hg).1).trans hg, rest⟩
  exact h.elim (fun x => .inl (f _ x)) (fun x => .inr (f _ x))
theorem Wr.drew {B b : Nat} {l : List UInt8} {w : World} (h : Wr B b l w) : Wr B b l w.drew := h.elim (fun x => .inl x.drew) (fun x => .inr x.drew)
theorem Wr.alloc {B b : Nat} {l : List UInt8} {w : World} (h : Wr B b l w) (o : Obj) : Wr B b l (w.alloc o) := Lib.IsBuilderF.alloc h o
theorem Wr.new (w : World) : Wr w.heap.size w.heap.size [] (w.alloc (.cells #[.pointer none, .slice none 0 0] 57)) := Lib.IsBuilderF.of (Lib.fresh_isBuilder _ _ w)
theorem wr_info : (Tryd.prog.info? 55).map (·.size) = some 2 := by kernel_rfl
theorem wr_lies : liesAt Tryd.prog Tryd.prog.depth 57 (2 / Tryd.prog.cellsOf 57) 0 55 1 = true := by kernel_rfl
theorem byte_info : (Tryd.prog.info? 5).map (fun i => (i.zero, i.size, i.bytes)) = some (some (.int .u8 0), 1, 1) := by kernel_rfl
theorem byte_cells : Tryd.prog.cellsOf 5 = 1 := by kernel_rfl
set_option maxRecDepth 100000 in
theorem wr_check_used (b : Nat) (w : World) (h0 : w.cell? ⟨b, 0, none⟩ = some (.pointer (some ⟨b, 0, none⟩))) : Calls Tryd.prog 43 #[.pointer (some ⟨b, 0, none⟩)] w fun e w' => e = .returned (.tuple #[]) ∧ w = w' := by
  obtain ⟨j, hj, _⟩ := Option.map_eq_some_iff.1 wr_info
  go_enter Tryd.func43, Tryd.ntmps43
  go_wp2
  rw [Lib.run_neq_ptr_same w _ Tryd.underlying52 hj]
  go_wp2
  go_end0
  exact ⟨rfl, rfl⟩
set_option maxRecDepth 100000 in
theorem wr_check_fresh (b : Nat) (w : World) (h0 : w.cell? ⟨b, 0, none⟩ = some (.pointer none)) (hsh : w.shape? b = some (57, 2)) (hfz : w.frozen? ⟨b, 0, none⟩ = false) :
    Calls Tryd.prog 43 #[.pointer (some ⟨b, 0, none⟩)] w fun e w' => e = .returned (.tuple #[]) ∧ w' = w.setCell ⟨b, 0, none⟩ (.pointer (some ⟨b, 0, none⟩)) := by
  obtain ⟨j, hj, hjs⟩ := Option.map_eq_some_iff.1 wr_info
  go_enter Tryd.func43, Tryd.ntmps43
  go_wp2
  rw [Lib.run_to_unsafe w ⟨b, 0, none⟩ Tryd.underlying52 Tryd.underlying126 hj (by rw [hjs]; decide) hsh (Nat.zero_lt_succ 1)]
  simp only [Result.andThen]
  rw [Oper.upon_value]
  go_wp2
  rw [run_callFunc_extern Tryd.func67 (by kernel_rfl) (by kernel_rfl) (by kernel_rfl) (e := Extern.AbiNoEscape.same) (by kernel_rfl)]
  rw [Lib.run_noEscape]
  simp only [Result.andThen]
  rw [Oper.upon_value]
  go_wp2
  rw [Lib.run_from_unsafe w ⟨b, 0, none⟩ Tryd.underlying126 Tryd.underlying52 hj hsh wr_lies]
  simp only [Result.andThen]
  rw [Oper.upon_value]
  go_wp2
  go_end0
  exact ⟨rfl, rfl⟩
/-- behind the check the builder is a used one. -/
def Used (B b : Nat) (l : List UInt8) (w : World) : Prop := Lib.BuilderAtF 57 5 B b (.pointer (some ⟨b, 0, none⟩)) (Lib.byteCells l) w
theorem wr_check (B b : Nat) (l : List UInt8) (w : World) (h : Wr B b l w) : Calls Tryd.prog 43 #[.pointer (some ⟨b, 0, none⟩)] w fun e w' => e = .returned (.tuple #[]) ∧ Used B b l w' ∧ Kept B b w w' := by
  rcases h with h | h
  · refine (wr_check_fresh b w h.cell0 h.shape h.frozen0).mono ?_
    rintro e w' ⟨rfl, rfl⟩
    exact ⟨rfl, h.used _, (Below.refl B w).setCell (p := ⟨b, 0, none⟩) h.1 _, (Lib.OthersKept.refl _ _ w).setCell ⟨b, 0, none⟩ rfl _⟩
  · refine (wr_check_used b w h.cell0).mono ?_
    rintro e w' ⟨rfl, rfl⟩
    exact ⟨rfl, h, Kept.refl _ _ _⟩
set_option maxHeartbeats 2000000 in
set_option maxRecDepth 100000 in
theorem wr_byte (B b : Nat) (l : List UInt8) (c : Nat) (w : World) (h : Wr B b l w) (hc : c < 256) (hlen : l.length + 1 ≤ 140737488355328) (hBw : B ≤ w.heap.size) :
    Calls Tryd.prog 23 #[.pointer (some ⟨b, 0, none⟩), .int .u8 (c : Int)] w fun e w' => e = .returned .nilIface ∧ Wr B b (l ++ [UInt8.ofNat c]) w' ∧ Kept B b w w' := by
  obtain ⟨i0, hi, hz0, hz1, hz2⟩ := info_parts byte_info
  have HC := Lib.hid (show Lib.byteCells (l ++ [UInt8.ofNat c]) = Lib.byteCells l ++ [.int .u8 (c : Int)] by
    rw [Lib.byteCells_append]
    have : (UInt8.ofNat c).toNat = c := by rw [UInt8.toNat_ofNat']; omega
    simp [Lib.byteCells, this])
  go_enter Tryd.func23, Tryd.ntmps23
  go_wp2_with fail
  refine (wr_check B b l _ h).mono ?_
  rintro e w1 ⟨rfl, h1, hk1⟩
  obtain ⟨hB, v, hbk, hown, hne⟩ := h1
  have hbl := Lib.byteCells_length l
  have hs1 := hk1.size
  have c0 : w1.cell? ⟨b, 0, none⟩ = some (.pointer (some ⟨b, 0, none⟩)) := by rw [Lib.cell_of_heap hbk]; rfl
  have c1 : w1.cell? ⟨b, 1, none⟩ = some v := by rw [Lib.cell_of_heap hbk]; rfl
  go_wp2_with (at_builtin; refine wpList_append_ownF _ rfl _ _ 53 rfl B 5 i0 (.int .u8 0) 1 1 Tryd.underlying53 hi hz0 hz1 hz2 rfl (by decide) _ _ _ rfl (hown.alloc _) ⟨w1.heap.size, 0, none⟩ 1 1 [.int .u8 (c : Int)] rfl rfl ?c1 ?c2 ?c3 ?c4 ?c5 ?_)
  case c1 =>
    intro j u hj
    match j, hj with
    | 0, hj => simp at hj; subst hj; simp [Addr.add]
  case c2 => intro u hu; simp at hu; subst hu; rfl
  case c3 => unfold maxLen; omega
  case c4 => omega
  case c5 => simp; omega
  intro v' w2 hown' hgrow _
  have hlt : b < w1.heap.size := (Array.getElem?_eq_some_iff.1 hbk).1
  have hb2 : w2.heap[b]? = some (.cells #[.pointer (some ⟨b, 0, none⟩), v] 57 (0, 0)) := by
    rw [hgrow.block b (by simp; omega) (fun e => hne e.symm), Lib.alloc_old w1 _ b hlt]
    exact hbk
  have d0 : w2.cell? ⟨b, 0, none⟩ = some (.pointer (some ⟨b, 0, none⟩)) := by rw [Lib.cell_of_heap hb2]; rfl
  have d1 : w2.cell? ⟨b, 1, none⟩ = some v := by rw [Lib.cell_of_heap hb2]; rfl
  have f1 : w2.frozen? ⟨b, 1, none⟩ = false := Lib.frozen_of_heap hb2 1
  obtain ⟨g, cap, rfl⟩ : ∃ g cap, v' = .slice (some ⟨g, 0, none⟩) (l.length + 1) cap := by
    rcases hown'.2 with ⟨_, h0⟩ | ⟨g, cap, cur, fz, hv, _⟩
    · omega
    · exact ⟨g, cap, hv⟩
  clear hbl
  go_wp2
  go_ret
  refine ⟨rfl, .inr ?_, ?_, ((hk1.2.alloc _).grown hgrow (Lib.ownsRowF_kind (hown.alloc _))).setCell ⟨b, 1, none⟩ rfl _⟩
  · rw [HC.out]
    exact Lib.BuilderAtF.put (T := 57) (e := 5) hB hb2 (bs' := Lib.byteCells l ++ [.int .u8 (c : Int)]) (by rw [List.length_append, Lib.byteCells_length]; exact hown') (by decide)
  · exact ((hk1.1.alloc (by omega) _).grown hgrow (by simp; omega) (fun k hk => (hown.lt k hk).1)).setCell (p := ⟨b, 1, none⟩) hB _
set_option maxHeartbeats 2000000 in
set_option maxRecDepth 100000 in
theorem wr_string (B b : Nat) (l : List UInt8) (s : ByteArray) (w : World) (h : Wr B b l w) (hlen : l.length + s.size ≤ 140737488355328) (hBw : B ≤ w.heap.size) :
    Calls Tryd.prog 65 #[.pointer (some ⟨b, 0, none⟩), .string s] w fun e w' => e = .returned (.tuple #[.int .i64 s.size, .nilIface]) ∧ Wr B b (l ++ s.data.toList) w' ∧ Kept B b w w' := by
  obtain ⟨i0, hi, hz0, hz1, hz2⟩ := info_parts byte_info
  have HC := Lib.hid (show Lib.byteCells (l ++ s.data.toList) = Lib.byteCells l ++ Lib.strCells s by rw [Lib.byteCells_append]; rfl)
  go_enter Tryd.func65, Tryd.ntmps65
  go_wp2_with fail
  refine (wr_check B b l _ h).mono ?_
  rintro e w1 ⟨rfl, h1, hk1⟩
  obtain ⟨hB, v, hbk, hown, hne⟩ := h1
  have hbl := Lib.byteCells_length l
  have hs1 := hk1.size
  have c0 : w1.cell? ⟨b, 0, none⟩ = some (.pointer (some ⟨b, 0, none⟩)) := by rw [Lib.cell_of_heap hbk]; rfl
  have c1 : w1.cell? ⟨b, 1, none⟩ = some v := by rw [Lib.cell_of_heap hbk]; rfl
  go_wp2_with (at_builtin; refine Lib.wpList_append_own_stringF _ rfl _ _ 53 9 rfl B 5 i0 Tryd.underlying53 Tryd.underlying9 hi hz0 hz1 hz2 _ _ _ rfl hown s rfl ?c3 ?c4 ?c5 ?_)
  case c3 => unfold maxLen; omega
  case c4 => omega
  case c5 => omega
  intro v' w2 hown' hgrow _
  have hlt : b < w1.heap.size := (Array.getElem?_eq_some_iff.1 hbk).1
  have hb2 : w2.heap[b]? = some (.cells #[.pointer (some ⟨b, 0, none⟩), v] 57 (0, 0)) := by
    rw [hgrow.block b hlt (fun e => hne e.symm)]
    exact hbk
  have d0 : w2.cell? ⟨b, 0, none⟩ = some (.pointer (some ⟨b, 0, none⟩)) := by rw [Lib.cell_of_heap hb2]; rfl
  have d1 : w2.cell? ⟨b, 1, none⟩ = some v := by rw [Lib.cell_of_heap hb2]; rfl
  have f1 : w2.frozen? ⟨b, 1, none⟩ = false := Lib.frozen_of_heap hb2 1
  obtain ⟨ao, n', cap, rfl⟩ : ∃ ao n' cap, v' = .slice ao n' cap := by
    rcases hown'.2 with ⟨hv, _⟩ | ⟨g, cap, cur, fz, hv, _⟩
    · exact ⟨_, _, _, hv⟩
    · exact ⟨_, _, _, hv⟩
  clear hbl
  go_wp2
  go_ret2
  refine ⟨rfl, .inr ?_, ?_, (hk1.2.grown hgrow (Lib.ownsRowF_kind hown)).setCell ⟨b, 1, none⟩ rfl _⟩
  · rw [HC.out]
    exact Lib.BuilderAtF.put (T := 57) (e := 5) hB hb2 (bs' := Lib.byteCells l ++ Lib.strCells s) (by rw [List.length_append, Lib.byteCells_length, Lib.strCells_length]; exact hown') (by decide)
  · exact (hk1.1.grown hgrow (by omega) (fun k hk => (hown.lt k hk).1)).setCell (p := ⟨b, 1, none⟩) hB _
/-- what String answers: where the row of bytes lies. -/
def Said (B b : Nat) (l : List UInt8) (w : World) (e : Ending) (w' : World) : Prop := e = .returned (.string ⟨l.toArray⟩) ∧ Kept B b w w'
set_option maxHeartbeats 2000000 in
set_option maxRecDepth 100000 in
theorem wr_text_some (B b : Nat) (l : List UInt8) (w : World) (h : Wr B b l w) (h0 : l ≠ []) : Calls Tryd.prog 24 #[.pointer (some ⟨b, 0, none⟩)] w (Said B b l w) := by
  obtain ⟨p, hB, v, hbk, hown, hne⟩ : ∃ p, Lib.BuilderAtF 57 5 B b p (Lib.byteCells l) w := h.elim (fun x => ⟨_, x⟩) (fun x => ⟨_, x⟩)
  have hl0 : l.length ≠ 0 := by simpa using h0
  rw [Lib.byteCells_length] at hown
  obtain ⟨g, cap, cur, fz, rfl, hbg, hg, hfz, hnc, hcm, hcs, htake⟩ : ∃ g cap cur fz, v = .slice (some ⟨g, 0, none⟩) l.length cap ∧ B ≤ g ∧ w.heap[g]? = some (.cells cur 5 fz) ∧ fz.2 ≤ l.length * 1 ∧ l.length ≤ cap ∧ cap ≤ maxLen ∧ cur.size = cap * 1 ∧ cur.toList.take (l.length * 1) = Lib.byteCells l := by
    rcases hown.2 with ⟨_, hz⟩ | ⟨g, cap, cur, fz, hv, r⟩
    · exact absurd hz hl0
    · exact ⟨g, cap, cur, fz, hv, r⟩
  have c1 : w.drew.cell? ⟨b, 1, none⟩ = some (.slice (some ⟨g, 0, none⟩) l.length cap) := by
    have : w.drew.heap[b]? = some (.cells #[p, .slice (some ⟨g, 0, none⟩) l.length cap] 57 (0, 0)) := hbk
    rw [Lib.cell_of_heap this]; rfl
  have hSD : (Builtin.unsafeSliceData_ #[53] 93 #[.slice (some ⟨g, 0, none⟩) l.length cap]).run Tryd.prog w.drew = .ok (.pointer (some ⟨g, 0, none⟩)) w.drew :=
    Lib.run_unsafeSliceData_row _ _ _ _ _ _ (by omega)
  have hUS : (Builtin.unsafeString_ #[93, 3] 9 #[.pointer (some ⟨g, 0, none⟩), .int .i64 l.length]).run Tryd.prog w.drew = .ok (.string ⟨l.toArray⟩) (w.drew.freeze ⟨g, 0, none⟩ l.length) := by
    refine Lib.run_unsafeString_row w.drew 93 3 9 5 Tryd.underlying93 byte_cells g cur.size (by have hg' : w.drew.heap[g]? = some (.cells cur 5 fz) := hg; simp [World.shape?, hg']) l h0 (by omega) (by unfold maxLen at hcm; omega) ?_
    intro j x hx
    exact hown.cells (g := g) rfl j (.int .u8 x.toNat) (by simp [Lib.byteCells, hx])
  have HK := Lib.hid (show Kept B b w (w.drew.freeze ⟨g, 0, none⟩ l.length) from ⟨Lib.below_freeze (Below.drew (Below.refl B w)) (p := ⟨g, 0, none⟩) hbg _, ((Lib.OthersKept.refl _ _ w).drew).freeze ⟨g, 0, none⟩ _ ⟨cur, fz, hg⟩⟩)
  clear hcs htake hfz
  go_enter Tryd.func24, Tryd.ntmps24
  go_wp2
  go_region
  all_goals (go_wp2; go_ret; exact ⟨rfl, HK.out⟩)
theorem unsafe_none (W : World) (q : Option Addr) : (Builtin.unsafeString_ #[93, 3] 9 #[.pointer q, .int .i64 0]).run Tryd.prog W = .ok (.string .empty) W := Lib.run_unsafeString_none W _ _ _ q
set_option maxHeartbeats 2000000 in
set_option maxRecDepth 100000 in
theorem wr_text_nil (B b : Nat) (p : Value) (w : World) (hbk : w.heap[b]? = some (.cells #[p, .slice none 0 0] 57 (0, 0))) : Calls Tryd.prog 24 #[.pointer (some ⟨b, 0, none⟩)] w (Said B b [] w) := by
  have hUS := unsafe_none
  have c1 : w.drew.cell? ⟨b, 1, none⟩ = some (.slice none 0 0) := by
    have : w.drew.heap[b]? = some (.cells #[p, .slice none 0 0] 57 (0, 0)) := hbk
    rw [Lib.cell_of_heap this]; rfl
  have hSD : (Builtin.unsafeSliceData_ #[53] 93 #[.slice none 0 0]).run Tryd.prog w.drew = .ok (.pointer none) w.drew := rfl
  go_enter Tryd.func24, Tryd.ntmps24
  go_wp2
  go_region
  all_goals (go_wp2; go_ret; exact ⟨rfl, (Kept.refl _ _ _).drew⟩)
set_option maxHeartbeats 2000000 in
set_option maxRecDepth 100000 in
theorem wr_text_room (B b g cap : Nat) (p : Value) (w : World) (hc0 : cap ≠ 0) (hbk : w.heap[b]? = some (.cells #[p, .slice (some ⟨g, 0, none⟩) 0 cap] 57 (0, 0))) : Calls Tryd.prog 24 #[.pointer (some ⟨b, 0, none⟩)] w (Said B b [] w) := by
  have hUS := unsafe_none
  have c1 : w.drew.cell? ⟨b, 1, none⟩ = some (.slice (some ⟨g, 0, none⟩) 0 cap) := by
    have : w.drew.heap[b]? = some (.cells #[p, .slice (some ⟨g, 0, none⟩) 0 cap] 57 (0, 0)) := hbk
    rw [Lib.cell_of_heap this]; rfl
  have hSD : (Builtin.unsafeSliceData_ #[53] 93 #[.slice (some ⟨g, 0, none⟩) 0 cap]).run Tryd.prog w.drew = .ok (.pointer (some ⟨g, 0, none⟩)) w.drew := Lib.run_unsafeSliceData_row _ _ _ _ _ _ hc0
  clear hc0
  go_enter Tryd.func24, Tryd.ntmps24
  go_wp2
  go_region
  all_goals (go_wp2; go_ret; exact ⟨rfl, (Kept.refl _ _ _).drew⟩)
set_option maxHeartbeats 2000000 in
set_option maxRecDepth 100000 in
theorem wr_text_noroom (B b g : Nat) (p : Value) (cur : Array Value) (fz : Nat × Nat) (w : World) (hBw : B ≤ w.heap.size) (hbk : w.heap[b]? = some (.cells #[p, .slice (some ⟨g, 0, none⟩) 0 0] 57 (0, 0))) (hg : w.heap[g]? = some (.cells cur 5 fz)) : Calls Tryd.prog 24 #[.pointer (some ⟨b, 0, none⟩)] w (Said B b [] w) := by
  have hUS := unsafe_none
  have hlt : b < w.heap.size := (Array.getElem?_eq_some_iff.1 hbk).1
  have c1 : w.drew.cell? ⟨b, 1, none⟩ = some (.slice (some ⟨g, 0, none⟩) 0 0) := by
    have : w.drew.heap[b]? = some (.cells #[p, .slice (some ⟨g, 0, none⟩) 0 0] 57 (0, 0)) := hbk
    rw [Lib.cell_of_heap this]; rfl
  have hSD : (Builtin.unsafeSliceData_ #[53] 93 #[.slice (some ⟨g, 0, none⟩) 0 0]).run Tryd.prog w.drew = .ok (.pointer (some ⟨w.drew.heap.size, 0, none⟩)) (w.drew.alloc (.view ⟨g, 0, none⟩ 5)) :=
    Lib.run_unsafeSliceData_zero w.drew _ _ 5 Tryd.underlying93 ⟨g, 0, none⟩ 0 (5, cur.size) (by have hg' : w.drew.heap[g]? = some (.cells cur 5 fz) := hg; simp [World.shape?, hg'])
  have c2 : (w.drew.alloc (.view ⟨g, 0, none⟩ 5)).cell? ⟨b, 1, none⟩ = some (.slice (some ⟨g, 0, none⟩) 0 0) := by
    have : (w.drew.alloc (.view ⟨g, 0, none⟩ 5)).heap[b]? = _ := (Lib.alloc_old w.drew _ b hlt).trans hbk
    rw [Lib.cell_of_heap this]; rfl
  have c3 : (w.alloc (.view ⟨g, 0, none⟩ 5)).drew.cell? ⟨b, 1, none⟩ = some (.slice (some ⟨g, 0, none⟩) 0 0) := c2
  have c0 : w.cell? ⟨b, 1, none⟩ = some (.slice (some ⟨g, 0, none⟩) 0 0) := c1
  go_enter Tryd.func24, Tryd.ntmps24
  go_wp2
  go_region
  all_goals (go_wp2; go_ret; exact ⟨rfl, ((Kept.refl _ _ _).drew).alloc hBw _⟩)
theorem wr_text (B b : Nat) (l : List UInt8) (w : World) (h : Wr B b l w) (hBw : B ≤ w.heap.size) : Calls Tryd.prog 24 #[.pointer (some ⟨b, 0, none⟩)] w (Said B b l w) := by
  by_cases h0 : l = []
  · subst h0
    obtain ⟨p, hB, v, hbk, hown, hne⟩ : ∃ p, Lib.BuilderAtF 57 5 B b p (Lib.byteCells []) w := h.elim (fun x => ⟨_, x⟩) (fun x => ⟨_, x⟩)
    rcases hown.2 with ⟨rfl, _⟩ | ⟨g, cap, cur, fz, rfl, hbg, hg, _⟩
    · exact wr_text_nil B b p w hbk
    · by_cases hc0 : cap = 0
      · subst hc0
        exact wr_text_noroom B b g p cur fz w hBw hbk hg
      · exact wr_text_room B b g cap p w hc0 hbk
  · exact wr_text_some B b l w h h0
end Go.Proofs.YtechccoongilcaaDoor
/- The program's package lex: the functions that tell of one character. -/
namespace Go.Proofs.YtechccoongilcaaDoor
open Go.RowKit
set_option linter.unusedVariables false
set_option linter.unusedSimpArgs false
def whiteC (c : Int) : Bool := c == 32 || c == 9 || c == 10
def digitC (c : Int) : Bool := decide (48 ≤ c) && decide (c ≤ 57)
theorem white_any (c : Int) (w : World) : Calls Tryd.prog 74 #[.int .i32 c] w fun e w' => e = .returned (.bool (whiteC c)) ∧ w = w' := by
  by_cases h1 : c = 32
  · subst h1
    go_enter Tryd.func74, Tryd.ntmps74
    go_wp2
    go_ret
    exact ⟨rfl, rfl⟩
  · by_cases h2 : c = 9
    · subst h2
      go_enter Tryd.func74, Tryd.ntmps74
      go_wp2
      go_ret
      exact ⟨rfl, rfl⟩
    · have e1 : (c == 32) = false := by simp [h1]
      have e2 : (c == 9) = false := by simp [h2]
      go_enter Tryd.func74, Tryd.ntmps74
      go_wp2
      go_ret
      exact ⟨ret_bool (by simp [whiteC, h1, h2]), rfl⟩
theorem digit_any (c : Int) (w : World) : Calls Tryd.prog 77 #[.int .i32 c] w fun e w' => e = .returned (.bool (digitC c)) ∧ w = w' := by
  by_cases h1 : 48 ≤ c
  · by_cases h2 : c ≤ 57
    all_goals
      go_enter Tryd.func77, Tryd.ntmps77
      go_wp2
      go_ret
      exact ⟨ret_bool (by simp [digitC, h1, h2]), rfl⟩
  · go_enter Tryd.func77, Tryd.ntmps77
    go_wp2
    go_ret
    exact ⟨ret_bool (by simp [digitC]; omega), rfl⟩
theorem hash_any (c : Int) (w : World) : Calls Tryd.prog 87 #[.int .i32 c] w fun e w' => e = .returned (.bool (c != 10)) ∧ w = w' := by
  go_enter Tryd.func87, Tryd.ntmps87
  go_wp2
  go_ret
  exact ⟨rfl, rfl⟩
theorem sgn_any (c : Int) (w : World) : Calls Tryd.prog 88 #[.int .i32 c] w fun e w' => e = .returned (.bool false) ∧ w = w' := by
  go_enter Tryd.func88, Tryd.ntmps88
  go_wp2
  go_ret
  exact ⟨rfl, rfl⟩
/-- which characters go on with a piece. -/
inductive More where
  | white | digit | hash | sign
  deriving DecidableEq
def More.fn : More → Value
  | .white => .func (.func 74) #[] #[]
  | .digit => .func (.func 77) #[] #[]
  | .hash => .func (.func 87) #[] #[]
  | .sign => .func (.func 88) #[] #[]
def More.goes : More → Int → Bool
  | .white, c => whiteC c
  | .digit, c => digitC c
  | .hash, c => c != 10
  | .sign, _ => false
def More.behind (c : Int) : More := if whiteC c then .white else if digitC c then .digit else if c = 35 then .hash else .sign
theorem behind_any (c : Int) (w : World) : Calls Tryd.prog 75 #[.int .i32 c] w fun e w' => e = .returned (More.behind c).fn ∧ w = w' := by
  rcases hw : whiteC c with _ | _
  · rcases hd : digitC c with _ | _
    · by_cases h : c = 35
      · subst h
        go_enter Tryd.func75, Tryd.ntmps75
        go_wp2_with (first | (go_at_call 74; refine (white_any _ _).mono ?_; rintro e w' ⟨rfl, rfl⟩) | (go_at_call 77; refine (digit_any _ _).mono ?_; rintro e w' ⟨rfl, rfl⟩))
        go_ret
        exact ⟨rfl, rfl⟩
      · have h35 : (c == 35) = false := by simp [h]
        go_enter Tryd.func75, Tryd.ntmps75
        go_wp2_with (first | (go_at_call 74; refine (white_any _ _).mono ?_; rintro e w' ⟨rfl, rfl⟩) | (go_at_call 77; refine (digit_any _ _).mono ?_; rintro e w' ⟨rfl, rfl⟩))
        go_ret
        exact ⟨by simp [More.behind, hw, hd, h, More.fn], rfl⟩
    · go_enter Tryd.func75, Tryd.ntmps75
      go_wp2_with (first | (go_at_call 74; refine (white_any _ _).mono ?_; rintro e w' ⟨rfl, rfl⟩) | (go_at_call 77; refine (digit_any _ _).mono ?_; rintro e w' ⟨rfl, rfl⟩))
      go_ret
      exact ⟨by simp [More.behind, hw, hd, More.fn], rfl⟩
  · go_enter Tryd.func75, Tryd.ntmps75
    go_wp2_with (first | (go_at_call 74; refine (white_any _ _).mono ?_; rintro e w' ⟨rfl, rfl⟩))
    go_ret
    exact ⟨by simp [More.behind, hw, More.fn], rfl⟩
/-- a call of the function that tells which characters go on. -/
theorem more_calls (m : More) (c : Int) (w : World) : ∃ f, m.fn = .func (.func f) #[] #[] ∧ Calls Tryd.prog f #[.int .i32 c] w fun e w' => e = .returned (.bool (m.goes c)) ∧ w = w' := by
  cases m
  · exact ⟨_, rfl, white_any c w⟩
  · exact ⟨_, rfl, digit_any c w⟩
  · exact ⟨_, rfl, hash_any c w⟩
  · exact ⟨_, rfl, sgn_any c w⟩
end Go.Proofs.YtechccoongilcaaDoor
/- The program's package lex: a row of digits as a number; white and comments. -/
namespace Go.Proofs.YtechccoongilcaaDoor
open Go.RowKit
set_option linter.unusedVariables false
set_option linter.unusedSimpArgs false
theorem numF_big {s : ByteArray} : ∀ (f : Nat) (n : Int) (e : Nat), 1099511627776 < n → 1099511627776 < (numF s f n e).1
  | 0, n, e, h => h
  | f + 1, n, e, h => by
    rw [numF]; split
    · rename_i hd
      have := bAt_bd s e
      have hd2 : 48 ≤ bAt s e := by
        unfold digB inB at hd; simp at hd; omega
      exact numF_big f _ _ (by omega)
    · exact h
def numV (t : ByteArray) : Value := if 1099511627776 < (numB t 0).1 ∨ (bAt t 0 = 48 ∧ 1 < t.size) then .tuple #[.int .i64 0, .bool false] else .tuple #[.int .i64 (numB t 0).1, .bool true]
theorem toList_one {t : ByteArray} (h : 0 < t.size) : (t.toList == [48]) = decide (bAt t 0 = 48 ∧ t.size = 1) := by
  have hl : t.toList.length = t.size := by rw [Go.ByteArray.toList_eq]; rfl
  have h0 : t.toList[0]? = some (t[0]'h) := by rw [Go.ByteArray.toList_eq]; exact (Array.getElem?_toList ..).trans (Array.getElem?_eq_getElem h)
  have hb := bAt_get t 0 h
  rcases he : t.toList with _ | ⟨x, xs⟩
  · rw [he] at hl; simp at hl; omega
  · rw [he] at hl h0
    simp at hl h0
    subst h0
    rw [Bool.eq_iff_iff]
    simp only [beq_iff_eq, List.cons.injEq, decide_eq_true_eq]
    constructor
    · rintro ⟨q, rfl⟩
      simp at hl
      exact ⟨by rw [← hb, q]; rfl, by omega⟩
    · rintro ⟨q, r⟩
      refine ⟨?_, List.length_eq_zero_iff.1 (by omega)⟩
      rw [← hb] at q
      exact UInt8.toNat_inj.1 (by simpa using (by omega : (t[0]'h).toNat = 48))
theorem number_any (t : ByteArray) (w : World) (h1 : 0 < t.size) (hd : ∀ i, i < t.size → digB t i = true) (ht : t.size ≤ 600000) : Calls Tryd.prog 78 #[.string t] w fun e w' => e = .returned (numV t) ∧ Below w.heap.size w w' := by
  have HD := Lib.hid hd
  clear hd
  have hb0 := bAt_get t 0 h1
  obtain ⟨b, hb⟩ : ∃ b, bAt t 0 = b := ⟨_, rfl⟩
  rw [hb] at hb0
  have HB := Lib.hid hb
  have HN := Lib.hid (show numF t (t.size + 1) 0 0 = numB t 0 from rfl)
  have h40 := toList_one h1
  rw [hb] at h40
  clear hb
  have h40' := h40
  by_cases hbad : b = 48 ∧ 1 < t.size
  · have e1 : (t.toList == [48]) = false := by rw [h40']; simp; omega
    obtain ⟨rfl, h2⟩ := hbad
    go_enter Tryd.func78, Tryd.ntmps78
    go_wp2_with fail
    go_ret2
    exact ⟨by rw [numV, if_pos (.inr ⟨HB.out, h2⟩)]; rfl, Below.refl _ _⟩
  · have HOK := Lib.hid (show ¬(b = 48 ∧ 1 < t.size) from hbad)
    have hor : ((b == 48) = true ∧ (t.toList == [48]) = true) ∨ (b == 48) = false := by
      by_cases q : b = 48
      · exact .inl ⟨by simp [q], by rw [h40']; simp; omega⟩
      · exact .inr (by simp [q])
    clear hbad h40 h40'
    rcases hor with ⟨hz, hz2⟩ | hz
    all_goals
      go_enter Tryd.func78, Tryd.ntmps78
      go_wp2_with fail
      go_loopw [2, 5] (fun v c wr => ∃ (k f : Nat) (n : Int), k ≤ t.size ∧ t.size ≤ k + f ∧ v = .int .i64 n ∧ (0 ≤ n ∧ n ≤ 1099511627776) ∧ numF t f n k = numB t 0 ∧ wr = w.iter t k) (fun _ _ wr => t.size - wr.iterPos w.heap.size)
      case atStart => exact ⟨0, t.size + 1, 0, by omega, by omega, rfl, by omega, HN.out, rfl⟩
      case round =>
        obtain ⟨k, f, n, hk, hf, rfl, ⟨hn1, hn2⟩, hnf, rfl⟩ := hrel
        have HNf := Lib.hid hnf
        clear hnf
        by_cases hlt : k < t.size
        · have hdk := HD.out k hlt
          obtain ⟨f3, hf3, hst⟩ := numF_step (n := n) hdk hf
          rw [HNf.out] at hst
          have hbk0 := bAt_get t k hlt
          have h48 : 48 ≤ bAt t k ∧ bAt t k ≤ 57 := by
            have q := inB_at hlt 48 57
            rw [show inB t k 48 57 = true from hdk] at q
            have q2 := q.symm
            simp only [Bool.and_eq_true, decide_eq_true_eq] at q2
            exact q2
          have hbn : ((t[k]'hlt).toNat : Int) = bAt t k := hbk0
          have hnx := fun ty => run_next_ascii (P := Tryd.prog) w t k ty hlt (by omega)
          obtain ⟨c, hc⟩ : ∃ c, bAt t k = c := ⟨_, rfl⟩
          rw [hc] at hbn hst h48
          rw [hbn] at hnx
          have HSt := Lib.hid hst
          clear hst hbk0 hdk hc hbn
          have o1 : IntKind.i32.wrap (c - 48) = c - 48 := by rw [IntKind.wrap_i32]; omega
          by_cases hbig : 1099511627776 < 10 * n + (c - 48)
          · have hmin : 1099511627776 < min (10 * n + (c - 48)) 2199023255552 := by omega
            have hgt := numF_big (s := t) f3 _ (k + 1) hmin
            rw [← HSt.out] at hgt
            have hW := Below.alloc (Below.refl w.heap.size w) (Nat.le_refl _) (.stringIter t (k + 1))
            go_wp2_with fail
            go_ret2
            exact ⟨by rw [numV, if_pos (.inl hgt)]; rfl, hW⟩
          · go_wp2_with fail
            go_roundw
            case rel => exact ⟨k + 1, f3, 10 * n + (c - 48), by omega, by omega, by go_num, by omega, by rw [HSt.out]; congr 1; omega, rfl⟩
            case measure => simp; omega
        · have hnx := fun ty => run_next_end (P := Tryd.prog) w t k ty hlt
          have hend : digB t k = false := inB_ge hlt _ _
          have hn := numF_end (f := f) (n := n) hend
          rw [HNf.out] at hn
          have hW := Below.alloc (Below.refl w.heap.size w) (Nat.le_refl _) (.stringIter t k)
          go_wp2_with fail
          go_ret2
          refine ⟨?_, hW⟩
          rw [numV, if_neg (by rw [hn]; have := HOK.out; have := HB.out; omega), hn]; rfl
theorem toList_ne {t : ByteArray} (h : 0 < t.size) : t.toList.isEmpty = false := by
  have : t.toList.length = t.size := by rw [Go.ByteArray.toList_eq]; rfl
  rcases hl : t.toList with _ | ⟨x, xs⟩
  · rw [hl] at this; simp at this; omega
  · rfl
theorem noth_any (t : ByteArray) (w : World) (ht : t.size ≤ 600000) : Calls Tryd.prog 53 #[.string t] w fun e w' => e = .returned (.bool (decide (t.size = 0) || bAt t 0 == 35 || whiteC (bAt t 0))) ∧ w = w' := by
  by_cases h0 : t.size = 0
  · obtain rfl : t = ⟨#[]⟩ := by
      cases t with | mk d => exact congrArg ByteArray.mk (Array.size_eq_zero_iff.1 h0)
    go_enter Tryd.func53, Tryd.ntmps53
    go_wp2
    go_ret
    exact ⟨rfl, rfl⟩
  · have h1 : 0 < t.size := by omega
    have he := toList_ne h1
    have hb0 := bAt_get t 0 h1
    have hbd := bAt_bd t 0
    obtain ⟨b, hb⟩ : ∃ b, bAt t 0 = b := ⟨_, rfl⟩
    rw [hb] at hb0 hbd ⊢
    clear hb
    go_enter Tryd.func53, Tryd.ntmps53
    go_wp2_with (go_at_call 74; refine (white_any _ _).mono ?_; rintro e w' ⟨rfl, rfl⟩)
    all_goals go_ret
    · rename_i hb
      subst hb
      exact ⟨ret_bool (by simp), rfl⟩
    · rename_i hb
      exact ⟨ret_bool (by simp [h0, hb]), rfl⟩
end Go.Proofs.YtechccoongilcaaDoor
/- The document's answers for package lex: one byte, and the size of a character. -/
namespace Go.Proofs.YtechccoongilcaaDoor
open Go.RowKit
set_option linter.unusedVariables false
set_option linter.unusedSimpArgs false
theorem in_any (s : ByteArray) (k : Nat) (a b : Int) (w : World) (hk : k ≤ 1000000) (hs : s.size ≤ 1000000) : Calls Tryd.prog 45 #[.string s, .int .i64 k, .int .u8 a, .int .u8 b] w fun e w' => e = .returned (.bool (inB s k a b)) ∧ w = w' := by
  by_cases h1 : k < s.size
  · have hb := bAt_get s k h1
    have h2 : (k : Int) < (s.size : Int) := by omega
    by_cases h3 : a ≤ bAt s k
    all_goals
      go_enter Tryd.func45, Tryd.ntmps45
      go_wp2
      go_ret
      exact ⟨ret_bool (by rw [inB_at h1]; first | (simp [h3]; done) | (rw [decide_eq_false (show ¬ a ≤ bAt s k by omega)]; rfl)), rfl⟩
  · have h2 : (s.size : Int) ≤ (k : Int) := by omega
    go_enter Tryd.func45, Tryd.ntmps45
    go_wp2
    go_ret
    exact ⟨ret_bool (inB_ge h1 a b).symm, rfl⟩
theorem in_at {s : ByteArray} {x : Int} {k : Nat} (hx : x = (k : Int)) (a b : Int) (w : World) (hk : k ≤ 1000000) (hs : s.size ≤ 1000000) : Calls Tryd.prog 45 #[.string s, .int .i64 x, .int .u8 a, .int .u8 b] w fun e w' => e = .returned (.bool (inB s k a b)) ∧ w = w' := by
  subst hx; exact in_any s k a b w hk hs
theorem more_any (s : ByteArray) (k n : Nat) (w : World) (hk : k ≤ 900000) (hn : n ≤ 3) (hs : s.size ≤ 1000000) : Calls Tryd.prog 68 #[.string s, .int .i64 k, .int .i64 n] w fun e w' => e = .returned (.bool (moreB s k n)) ∧ w = w' := by
  go_enter Tryd.func68, Tryd.ntmps68
  go_wp2_with fail
  go_loopw [7] (fun i wr => ∃ j : Nat, j ≤ n ∧ i = .int .i64 j ∧ moreB s k j = true ∧ wr = w) (fun i _ => n - (intOf i).toNat)
  case atStart => exact ⟨0, by omega, rfl, rfl, rfl⟩
  case round =>
    obtain ⟨j, hj, rfl, hm, rfl⟩ := hrel
    have HM := Lib.hid hm
    clear hm
    by_cases hlt : j < n
    · obtain ⟨v, hv⟩ : ∃ v, inB s (k + j) 128 191 = v := ⟨_, rfl⟩
      cases v
      · have HN := Lib.hid (moreB_no (i := k) hlt hv)
        go_wp2_with (go_at_call 45; refine (in_at (k := k + j) (by omega) _ _ _ (by omega) hs).mono ?_; rintro e w' ⟨rfl, rfl⟩)
        go_ret
        exact ⟨ret_bool HN.out.symm, rfl⟩
      · have HN := Lib.hid (show moreB s k (j + 1) = true by show (moreB s k j && inB s (k + j) 128 191) = true; rw [HM.out, hv]; rfl)
        go_wp2_with (go_at_call 45; refine (in_at (k := k + j) (by omega) _ _ _ (by omega) hs).mono ?_; rintro e w' ⟨rfl, rfl⟩)
        go_roundw
        case rel => exact ⟨j + 1, by omega, by go_num, HN.out, by first | rfl | trivial⟩
        case measure => simp [intOf]; omega
    · obtain rfl : j = n := by omega
      go_wp2_with fail
      go_ret
      exact ⟨ret_bool HM.out.symm, rfl⟩
theorem more_at {s : ByteArray} {x y : Int} {k n : Nat} (hx : x = (k : Int)) (hy : y = (n : Int)) (w : World) (hk : k ≤ 900000) (hn : n ≤ 3) (hs : s.size ≤ 1000000) : Calls Tryd.prog 68 #[.string s, .int .i64 x, .int .i64 y] w fun e w' => e = .returned (.bool (moreB s k n)) ∧ w = w' := by
  subst hx hy; exact more_any s k n w hk hn hs
theorem in_k1 (s : ByteArray) (k : Nat) (a b : Int) (w : World) (hk : k ≤ 800000) (hs : s.size ≤ 1000000) : Calls Tryd.prog 45 #[.string s, .int .i64 ((k : Int) + 1), .int .u8 a, .int .u8 b] w fun e w' => e = .returned (.bool (inB s (k + 1) a b)) ∧ w = w' := in_at (by omega) a b w (by omega) hs
theorem more_k1_1 (s : ByteArray) (k : Nat) (w : World) (hk : k ≤ 800000) (hs : s.size ≤ 1000000) : Calls Tryd.prog 68 #[.string s, .int .i64 ((k : Int) + 1), .int .i64 1] w fun e w' => e = .returned (.bool (moreB s (k + 1) 1)) ∧ w = w' := more_at (by omega) (by omega) w (by omega) (by omega) hs
theorem more_k1_2 (s : ByteArray) (k : Nat) (w : World) (hk : k ≤ 800000) (hs : s.size ≤ 1000000) : Calls Tryd.prog 68 #[.string s, .int .i64 ((k : Int) + 1), .int .i64 2] w fun e w' => e = .returned (.bool (moreB s (k + 1) 2)) ∧ w = w' := more_at (by omega) (by omega) w (by omega) (by omega) hs
theorem more_k1_3 (s : ByteArray) (k : Nat) (w : World) (hk : k ≤ 800000) (hs : s.size ≤ 1000000) : Calls Tryd.prog 68 #[.string s, .int .i64 ((k : Int) + 1), .int .i64 3] w fun e w' => e = .returned (.bool (moreB s (k + 1) 3)) ∧ w = w' := more_at (by omega) (by omega) w (by omega) (by omega) hs
theorem more_k2_1 (s : ByteArray) (k : Nat) (w : World) (hk : k ≤ 800000) (hs : s.size ≤ 1000000) : Calls Tryd.prog 68 #[.string s, .int .i64 ((k : Int) + 2), .int .i64 1] w fun e w' => e = .returned (.bool (moreB s (k + 2) 1)) ∧ w = w' := more_at (by omega) (by omega) w (by omega) (by omega) hs
theorem more_k2_2 (s : ByteArray) (k : Nat) (w : World) (hk : k ≤ 800000) (hs : s.size ≤ 1000000) : Calls Tryd.prog 68 #[.string s, .int .i64 ((k : Int) + 2), .int .i64 2] w fun e w' => e = .returned (.bool (moreB s (k + 2) 2)) ∧ w = w' := more_at (by omega) (by omega) w (by omega) (by omega) hs
theorem more_k2_3 (s : ByteArray) (k : Nat) (w : World) (hk : k ≤ 800000) (hs : s.size ≤ 1000000) : Calls Tryd.prog 68 #[.string s, .int .i64 ((k : Int) + 2), .int .i64 3] w fun e w' => e = .returned (.bool (moreB s (k + 2) 3)) ∧ w = w' := more_at (by omega) (by omega) w (by omega) (by omega) hs
end Go.Proofs.YtechccoongilcaaDoor
/- The document's answer for package lex: the size of a character. -/
namespace Go.Proofs.YtechccoongilcaaDoor
open Go.RowKit
set_option linter.unusedVariables false
set_option linter.unusedSimpArgs false
set_option maxRecDepth 100000 in
set_option maxHeartbeats 2000000 in
theorem size_any (s : ByteArray) (k : Nat) (w : World) (hk : k ≤ 800000) (hs : s.size ≤ 800000) : Calls Tryd.prog 44 #[.string s, .int .i64 k] w fun e w' => e = .returned (.int .i64 (sizeB s k)) ∧ w = w' := by
  have hs2 : s.size ≤ 1000000 := by omega
  rcases byte_classes s k with ⟨c0, c1, c2, c3, c4, c5, c6, c7, c8⟩ | ⟨c0, c1, c2, c3, c4, c5, c6, c7, c8⟩ | ⟨c0, c1, c2, c3, c4, c5, c6, c7, c8⟩ | ⟨c0, c1, c2, c3, c4, c5, c6, c7, c8⟩ | ⟨c0, c1, c2, c3, c4, c5, c6, c7, c8⟩ | ⟨c0, c1, c2, c3, c4, c5, c6, c7, c8⟩ | ⟨c0, c1, c2, c3, c4, c5, c6, c7, c8⟩ | ⟨c0, c1, c2, c3, c4, c5, c6, c7, c8⟩ | ⟨c0, c1, c2, c3, c4, c5, c6, c7, c8⟩ | ⟨c0, c1, c2, c3, c4, c5, c6, c7, c8⟩
  all_goals
    generalize hr : sizeB s k = r
    unfold sizeB at hr
    simp only [c0, c1, c2, c3, c4, c5, c6, c7, c8, Bool.false_and, Bool.true_and, Bool.false_or, Bool.or_false, Bool.false_eq_true, if_false, if_true] at hr
  · all_goals
      subst hr
      go_enter Tryd.func44, Tryd.ntmps44
      go_wp2_with (first
        | (go_at_call 45; with_reducible refine (in_any s k _ _ _ (by omega) hs2).mono ?_; rintro e w' ⟨rfl, rfl⟩)
        | (go_at_call 45; with_reducible refine (in_k1 s k _ _ _ hk hs2).mono ?_; rintro e w' ⟨rfl, rfl⟩)
        | (go_at_call 68; with_reducible refine (more_k1_1 s k _ hk hs2).mono ?_; rintro e w' ⟨rfl, rfl⟩)
        | (go_at_call 68; with_reducible refine (more_k1_2 s k _ hk hs2).mono ?_; rintro e w' ⟨rfl, rfl⟩)
        | (go_at_call 68; with_reducible refine (more_k1_3 s k _ hk hs2).mono ?_; rintro e w' ⟨rfl, rfl⟩)
        | (go_at_call 68; with_reducible refine (more_k2_1 s k _ hk hs2).mono ?_; rintro e w' ⟨rfl, rfl⟩)
        | (go_at_call 68; with_reducible refine (more_k2_2 s k _ hk hs2).mono ?_; rintro e w' ⟨rfl, rfl⟩)
        | (go_at_call 68; with_reducible refine (more_k2_3 s k _ hk hs2).mono ?_; rintro e w' ⟨rfl, rfl⟩))
      go_ret
      exact ⟨rfl, rfl⟩
  · all_goals
      subst hr
      go_enter Tryd.func44, Tryd.ntmps44
      go_wp2_with (first
        | (go_at_call 45; with_reducible refine (in_any s k _ _ _ (by omega) hs2).mono ?_; rintro e w' ⟨rfl, rfl⟩)
        | (go_at_call 45; with_reducible refine (in_k1 s k _ _ _ hk hs2).mono ?_; rintro e w' ⟨rfl, rfl⟩)
        | (go_at_call 68; with_reducible refine (more_k1_1 s k _ hk hs2).mono ?_; rintro e w' ⟨rfl, rfl⟩)
        | (go_at_call 68; with_reducible refine (more_k1_2 s k _ hk hs2).mono ?_; rintro e w' ⟨rfl, rfl⟩)
        | (go_at_call 68; with_reducible refine (more_k1_3 s k _ hk hs2).mono ?_; rintro e w' ⟨rfl, rfl⟩)
        | (go_at_call 68; with_reducible refine (more_k2_1 s k _ hk hs2).mono ?_; rintro e w' ⟨rfl, rfl⟩)
        | (go_at_call 68; with_reducible refine (more_k2_2 s k _ hk hs2).mono ?_; rintro e w' ⟨rfl, rfl⟩)
        | (go_at_call 68; with_reducible refine (more_k2_3 s k _ hk hs2).mono ?_; rintro e w' ⟨rfl, rfl⟩))
      go_ret
      exact ⟨rfl, rfl⟩
  · obtain ⟨v0, m0⟩ : ∃ v, moreB s (k + 1) 1 = v := ⟨_, rfl⟩
    cases v0
    all_goals
      simp only [m0, Bool.false_and, Bool.true_and, Bool.and_true, Bool.and_false, Bool.false_eq_true, if_false, if_true] at hr
      subst hr
      go_enter Tryd.func44, Tryd.ntmps44
      go_wp2_with (first
        | (go_at_call 45; with_reducible refine (in_any s k _ _ _ (by omega) hs2).mono ?_; rintro e w' ⟨rfl, rfl⟩)
        | (go_at_call 45; with_reducible refine (in_k1 s k _ _ _ hk hs2).mono ?_; rintro e w' ⟨rfl, rfl⟩)
        | (go_at_call 68; with_reducible refine (more_k1_1 s k _ hk hs2).mono ?_; rintro e w' ⟨rfl, rfl⟩)
        | (go_at_call 68; with_reducible refine (more_k1_2 s k _ hk hs2).mono ?_; rintro e w' ⟨rfl, rfl⟩)
        | (go_at_call 68; with_reducible refine (more_k1_3 s k _ hk hs2).mono ?_; rintro e w' ⟨rfl, rfl⟩)
        | (go_at_call 68; with_reducible refine (more_k2_1 s k _ hk hs2).mono ?_; rintro e w' ⟨rfl, rfl⟩)
        | (go_at_call 68; with_reducible refine (more_k2_2 s k _ hk hs2).mono ?_; rintro e w' ⟨rfl, rfl⟩)
        | (go_at_call 68; with_reducible refine (more_k2_3 s k _ hk hs2).mono ?_; rintro e w' ⟨rfl, rfl⟩))
      go_ret
      exact ⟨rfl, rfl⟩
  · obtain ⟨v0, m0⟩ : ∃ v, inB s (k + 1) 160 191 = v := ⟨_, rfl⟩
    obtain ⟨v1, m1⟩ : ∃ v, moreB s (k + 2) 1 = v := ⟨_, rfl⟩
    cases v0 <;> cases v1
    all_goals
      simp only [m0, m1, Bool.false_and, Bool.true_and, Bool.and_true, Bool.and_false, Bool.false_eq_true, if_false, if_true] at hr
      subst hr
      go_enter Tryd.func44, Tryd.ntmps44
      go_wp2_with (first
        | (go_at_call 45; with_reducible refine (in_any s k _ _ _ (by omega) hs2).mono ?_; rintro e w' ⟨rfl, rfl⟩)
        | (go_at_call 45; with_reducible refine (in_k1 s k _ _ _ hk hs2).mono ?_; rintro e w' ⟨rfl, rfl⟩)
        | (go_at_call 68; with_reducible refine (more_k1_1 s k _ hk hs2).mono ?_; rintro e w' ⟨rfl, rfl⟩)
        | (go_at_call 68; with_reducible refine (more_k1_2 s k _ hk hs2).mono ?_; rintro e w' ⟨rfl, rfl⟩)
        | (go_at_call 68; with_reducible refine (more_k1_3 s k _ hk hs2).mono ?_; rintro e w' ⟨rfl, rfl⟩)
        | (go_at_call 68; with_reducible refine (more_k2_1 s k _ hk hs2).mono ?_; rintro e w' ⟨rfl, rfl⟩)
        | (go_at_call 68; with_reducible refine (more_k2_2 s k _ hk hs2).mono ?_; rintro e w' ⟨rfl, rfl⟩)
        | (go_at_call 68; with_reducible refine (more_k2_3 s k _ hk hs2).mono ?_; rintro e w' ⟨rfl, rfl⟩))
      go_ret
      exact ⟨rfl, rfl⟩
  · obtain ⟨v0, m0⟩ : ∃ v, moreB s (k + 1) 2 = v := ⟨_, rfl⟩
    cases v0
    all_goals
      simp only [m0, Bool.false_and, Bool.true_and, Bool.and_true, Bool.and_false, Bool.false_eq_true, if_false, if_true] at hr
      subst hr
      go_enter Tryd.func44, Tryd.ntmps44
      go_wp2_with (first
        | (go_at_call 45; with_reducible refine (in_any s k _ _ _ (by omega) hs2).mono ?_; rintro e w' ⟨rfl, rfl⟩)
        | (go_at_call 45; with_reducible refine (in_k1 s k _ _ _ hk hs2).mono ?_; rintro e w' ⟨rfl, rfl⟩)
        | (go_at_call 68; with_reducible refine (more_k1_1 s k _ hk hs2).mono ?_; rintro e w' ⟨rfl, rfl⟩)
        | (go_at_call 68; with_reducible refine (more_k1_2 s k _ hk hs2).mono ?_; rintro e w' ⟨rfl, rfl⟩)
        | (go_at_call 68; with_reducible refine (more_k1_3 s k _ hk hs2).mono ?_; rintro e w' ⟨rfl, rfl⟩)
        | (go_at_call 68; with_reducible refine (more_k2_1 s k _ hk hs2).mono ?_; rintro e w' ⟨rfl, rfl⟩)
        | (go_at_call 68; with_reducible refine (more_k2_2 s k _ hk hs2).mono ?_; rintro e w' ⟨rfl, rfl⟩)
        | (go_at_call 68; with_reducible refine (more_k2_3 s k _ hk hs2).mono ?_; rintro e w' ⟨rfl, rfl⟩))
      go_ret
      exact ⟨rfl, rfl⟩
  · obtain ⟨v0, m0⟩ : ∃ v, inB s (k + 1) 128 159 = v := ⟨_, rfl⟩
    obtain ⟨v1, m1⟩ : ∃ v, moreB s (k + 2) 1 = v := ⟨_, rfl⟩
    cases v0 <;> cases v1
    all_goals
      simp only [m0, m1, Bool.false_and, Bool.true_and, Bool.and_true, Bool.and_false, Bool.false_eq_true, if_false, if_true] at hr
      subst hr
      go_enter Tryd.func44, Tryd.ntmps44
      go_wp2_with (first
        | (go_at_call 45; with_reducible refine (in_any s k _ _ _ (by omega) hs2).mono ?_; rintro e w' ⟨rfl, rfl⟩)
        | (go_at_call 45; with_reducible refine (in_k1 s k _ _ _ hk hs2).mono ?_; rintro e w' ⟨rfl, rfl⟩)
        | (go_at_call 68; with_reducible refine (more_k1_1 s k _ hk hs2).mono ?_; rintro e w' ⟨rfl, rfl⟩)
        | (go_at_call 68; with_reducible refine (more_k1_2 s k _ hk hs2).mono ?_; rintro e w' ⟨rfl, rfl⟩)
        | (go_at_call 68; with_reducible refine (more_k1_3 s k _ hk hs2).mono ?_; rintro e w' ⟨rfl, rfl⟩)
        | (go_at_call 68; with_reducible refine (more_k2_1 s k _ hk hs2).mono ?_; rintro e w' ⟨rfl, rfl⟩)
        | (go_at_call 68; with_reducible refine (more_k2_2 s k _ hk hs2).mono ?_; rintro e w' ⟨rfl, rfl⟩)
        | (go_at_call 68; with_reducible refine (more_k2_3 s k _ hk hs2).mono ?_; rintro e w' ⟨rfl, rfl⟩))
      go_ret
      exact ⟨rfl, rfl⟩
  · obtain ⟨v0, m0⟩ : ∃ v, moreB s (k + 1) 2 = v := ⟨_, rfl⟩
    cases v0
    all_goals
      simp only [m0, Bool.false_and, Bool.true_and, Bool.and_true, Bool.and_false, Bool.false_eq_true, if_false, if_true] at hr
      subst hr
      go_enter Tryd.func44, Tryd.ntmps44
      go_wp2_with (first
        | (go_at_call 45; with_reducible refine (in_any s k _ _ _ (by omega) hs2).mono ?_; rintro e w' ⟨rfl, rfl⟩)
        | (go_at_call 45; with_reducible refine (in_k1 s k _ _ _ hk hs2).mono ?_; rintro e w' ⟨rfl, rfl⟩)
        | (go_at_call 68; with_reducible refine (more_k1_1 s k _ hk hs2).mono ?_; rintro e w' ⟨rfl, rfl⟩)
        | (go_at_call 68; with_reducible refine (more_k1_2 s k _ hk hs2).mono ?_; rintro e w' ⟨rfl, rfl⟩)
        | (go_at_call 68; with_reducible refine (more_k1_3 s k _ hk hs2).mono ?_; rintro e w' ⟨rfl, rfl⟩)
        | (go_at_call 68; with_reducible refine (more_k2_1 s k _ hk hs2).mono ?_; rintro e w' ⟨rfl, rfl⟩)
        | (go_at_call 68; with_reducible refine (more_k2_2 s k _ hk hs2).mono ?_; rintro e w' ⟨rfl, rfl⟩)
        | (go_at_call 68; with_reducible refine (more_k2_3 s k _ hk hs2).mono ?_; rintro e w' ⟨rfl, rfl⟩))
      go_ret
      exact ⟨rfl, rfl⟩
  · obtain ⟨v0, m0⟩ : ∃ v, inB s (k + 1) 144 191 = v := ⟨_, rfl⟩
    obtain ⟨v1, m1⟩ : ∃ v, moreB s (k + 2) 2 = v := ⟨_, rfl⟩
    cases v0 <;> cases v1
    all_goals
      simp only [m0, m1, Bool.false_and, Bool.true_and, Bool.and_true, Bool.and_false, Bool.false_eq_true, if_false, if_true] at hr
      subst hr
      go_enter Tryd.func44, Tryd.ntmps44
      go_wp2_with (first
        | (go_at_call 45; with_reducible refine (in_any s k _ _ _ (by omega) hs2).mono ?_; rintro e w' ⟨rfl, rfl⟩)
        | (go_at_call 45; with_reducible refine (in_k1 s k _ _ _ hk hs2).mono ?_; rintro e w' ⟨rfl, rfl⟩)
        | (go_at_call 68; with_reducible refine (more_k1_1 s k _ hk hs2).mono ?_; rintro e w' ⟨rfl, rfl⟩)
        | (go_at_call 68; with_reducible refine (more_k1_2 s k _ hk hs2).mono ?_; rintro e w' ⟨rfl, rfl⟩)
        | (go_at_call 68; with_reducible refine (more_k1_3 s k _ hk hs2).mono ?_; rintro e w' ⟨rfl, rfl⟩)
        | (go_at_call 68; with_reducible refine (more_k2_1 s k _ hk hs2).mono ?_; rintro e w' ⟨rfl, rfl⟩)
        | (go_at_call 68; with_reducible refine (more_k2_2 s k _ hk hs2).mono ?_; rintro e w' ⟨rfl, rfl⟩)
        | (go_at_call 68; with_reducible refine (more_k2_3 s k _ hk hs2).mono ?_; rintro e w' ⟨rfl, rfl⟩))
      go_ret
      exact ⟨rfl, rfl⟩
  · obtain ⟨v0, m0⟩ : ∃ v, moreB s (k + 1) 3 = v := ⟨_, rfl⟩
    cases v0
    all_goals
      simp only [m0, Bool.false_and, Bool.true_and, Bool.and_true, Bool.and_false, Bool.false_eq_true, if_false, if_true] at hr
      subst hr
      go_enter Tryd.func44, Tryd.ntmps44
      go_wp2_with (first
        | (go_at_call 45; with_reducible refine (in_any s k _ _ _ (by omega) hs2).mono ?_; rintro e w' ⟨rfl, rfl⟩)
        | (go_at_call 45; with_reducible refine (in_k1 s k _ _ _ hk hs2).mono ?_; rintro e w' ⟨rfl, rfl⟩)
        | (go_at_call 68; with_reducible refine (more_k1_1 s k _ hk hs2).mono ?_; rintro e w' ⟨rfl, rfl⟩)
        | (go_at_call 68; with_reducible refine (more_k1_2 s k _ hk hs2).mono ?_; rintro e w' ⟨rfl, rfl⟩)
        | (go_at_call 68; with_reducible refine (more_k1_3 s k _ hk hs2).mono ?_; rintro e w' ⟨rfl, rfl⟩)
        | (go_at_call 68; with_reducible refine (more_k2_1 s k _ hk hs2).mono ?_; rintro e w' ⟨rfl, rfl⟩)
        | (go_at_call 68; with_reducible refine (more_k2_2 s k _ hk hs2).mono ?_; rintro e w' ⟨rfl, rfl⟩)
        | (go_at_call 68; with_reducible refine (more_k2_3 s k _ hk hs2).mono ?_; rintro e w' ⟨rfl, rfl⟩))
      go_ret
      exact ⟨rfl, rfl⟩
  · obtain ⟨v0, m0⟩ : ∃ v, inB s (k + 1) 128 143 = v := ⟨_, rfl⟩
    obtain ⟨v1, m1⟩ : ∃ v, moreB s (k + 2) 2 = v := ⟨_, rfl⟩
    cases v0 <;> cases v1
    all_goals
      simp only [m0, m1, Bool.false_and, Bool.true_and, Bool.and_true, Bool.and_false, Bool.false_eq_true, if_false, if_true] at hr
      subst hr
      go_enter Tryd.func44, Tryd.ntmps44
      go_wp2_with (first
        | (go_at_call 45; with_reducible refine (in_any s k _ _ _ (by omega) hs2).mono ?_; rintro e w' ⟨rfl, rfl⟩)
        | (go_at_call 45; with_reducible refine (in_k1 s k _ _ _ hk hs2).mono ?_; rintro e w' ⟨rfl, rfl⟩)
        | (go_at_call 68; with_reducible refine (more_k1_1 s k _ hk hs2).mono ?_; rintro e w' ⟨rfl, rfl⟩)
        | (go_at_call 68; with_reducible refine (more_k1_2 s k _ hk hs2).mono ?_; rintro e w' ⟨rfl, rfl⟩)
        | (go_at_call 68; with_reducible refine (more_k1_3 s k _ hk hs2).mono ?_; rintro e w' ⟨rfl, rfl⟩)
        | (go_at_call 68; with_reducible refine (more_k2_1 s k _ hk hs2).mono ?_; rintro e w' ⟨rfl, rfl⟩)
        | (go_at_call 68; with_reducible refine (more_k2_2 s k _ hk hs2).mono ?_; rintro e w' ⟨rfl, rfl⟩)
        | (go_at_call 68; with_reducible refine (more_k2_3 s k _ hk hs2).mono ?_; rintro e w' ⟨rfl, rfl⟩))
      go_ret
      exact ⟨rfl, rfl⟩
end Go.Proofs.YtechccoongilcaaDoor
/- Tokens in memory; what a reader of scripts answers. -/
namespace Go.Proofs.YtechccoongilcaaDoor
open Go.RowKit
set_option linter.unusedVariables false
set_option linter.unusedSimpArgs false
def textV : Option Nat → Value
  | none => .tuple #[.int .i64 0, .bool true]
  | some p => .tuple #[.int .i64 (p : Int), .bool false]
def encT (t : Tok) : List Value := [.int .i64 t.kind, .int .i32 t.sign, .int .i64 t.n, .int .i64 t.at_]
theorem encT_len (t : Tok) : (encT t).length = 4 := rfl
theorem toks_at {w : World} {A : Option Addr} {n : Nat} {zs : List Tok} (h : Rows 4 encT w A n zs) {i : Nat} (hi : i < n) :
    ∃ b off x y u v, A = some ⟨b, off, none⟩ ∧ b < w.heap.size ∧ zs[i]? = some ⟨x, y, u, v⟩ ∧ w.cell? ⟨b, off + i * 4, none⟩ = some (.int .i64 x) ∧ w.cell? ⟨b, off + i * 4 + 1, none⟩ = some (.int .i32 y) ∧ w.cell? ⟨b, off + i * 4 + 2, none⟩ = some (.int .i64 u) ∧ w.cell? ⟨b, off + i * 4 + 3, none⟩ = some (.int .i64 v) := by
  obtain ⟨b, off, ⟨x, y, u, v⟩, h1, h2, h3, h4⟩ := h.at_ hi
  exact ⟨b, off, x, y, u, v, h1, h2, h3, h4 0 _ rfl, h4 1 _ rfl, h4 2 _ rfl, h4 3 _ rfl⟩
theorem tok_info : (Tryd.prog.info? 70).map (fun i => (i.zero, i.size, i.bytes)) = some (some (.agg #[.int .i64 0, .int .i32 0, .int .i64 0, .int .i64 0]), 4, 32) := by kernel_rfl
def LexPost (w : World) (s : ByteArray) (e : Ending) (w' : World) : Prop :=
  (∃ toks A n c, lexB s = (some toks, 0) ∧ e = .returned (.tuple #[.slice A n c, .int .i64 0, .int .i64 0]) ∧ Rows 4 encT w' A n toks ∧ (n ≤ s.size ∧ n ≤ c ∧ ∀ p, A = some p → p.block < w'.heap.size) ∧ Below w.heap.size w w') ∨
  (∃ k : Nat, lexB s = (none, k) ∧ e = .returned (.tuple #[.slice none 0 0, .int .i64 (k : Int), .int .i64 1]) ∧ k < s.size ∧ Below w.heap.size w w')
theorem owns_cap {w : World} {base : Nat} {e : TypeId} {size : Nat} {A : Option Addr} {n c : Nat} {xs : List Value} (h : w.ownsRow base e size (.slice A n c) n xs) : n ≤ c := by
  rcases h.2 with ⟨h1, h2⟩ | ⟨g, cap, cur, h1, _, _, h2, _⟩
  · omega
  · injection h1 with _ _ h1; omega
theorem owns_at {w : World} {base : Nat} {e : TypeId} {size : Nat} {A : Option Addr} {n c : Nat} {xs : List Value} (h : w.ownsRow base e size (.slice A n c) n xs) : ∀ p, A = some p → p.block < w.heap.size := by
  intro p hp
  subst hp
  rcases h.2 with ⟨h1, h2⟩ | ⟨g, cap, cur, h1, _, h2, _⟩
  · injection h1 with h1; cases h1
  · injection h1 with h1; injection h1 with h1; subst h1
    exact (Array.getElem?_eq_some_iff.1 h2).1
theorem tok_cells (w : World) (a b c d : Int) (t : TypeId) (n : Nat) (hn : n = w.heap.size) : Cells (w.alloc (.cells #[.int .i64 a, .int .i32 b, .int .i64 c, .int .i64 d] t)) (some ⟨n, 0, none⟩) 1 4 [.int .i64 a, .int .i32 b, .int .i64 c, .int .i64 d] := by
  subst hn
  refine ⟨rfl, by decide, fun _ => ⟨_, _, rfl, by simp, fun j u hu => ?_⟩⟩
  rw [Nat.zero_add]; exact (Box.new w [.int .i64 a, .int .i32 b, .int .i64 c, .int .i64 d] t).2.2 j u hu
theorem tok_cell4 (a b c d : Int) : ∀ u ∈ ([.int .i64 a, .int .i32 b, .int .i64 c, .int .i64 d] : List Value), u.oneCell' = true := by
  intro u hu; simp at hu; rcases hu with rfl | rfl | rfl | rfl <;> rfl
theorem toks_snoc (out : List Tok) (t : Tok) : (out ++ [t]).flatMap encT = out.flatMap encT ++ encT t := by rw [List.flatMap_append]; simp
end Go.Proofs.YtechccoongilcaaDoor
/- The program's package lex: the token of a piece. -/
namespace Go.Proofs.YtechccoongilcaaDoor
open Go.RowKit
set_option linter.unusedVariables false
set_option linter.unusedSimpArgs false
/-- the library's tables of UTF-8 lie where the program has them. -/
def Tabs (w : World) : Prop := Lib.Utf8Tabs (decLays_ren.g 3) (decLays_ren.g 4) w
theorem Tabs.lt {w : World} (h : Tabs w) : decLays_ren.g 3 < w.heap.size ∧ decLays_ren.g 4 < w.heap.size :=
  ⟨cell_lt (h.1 0 (by decide)), cell_lt (h.2 0 (by decide)).1⟩
theorem Tabs.behind {B : Nat} {w w' : World} (h : Tabs w) (hb : Below B w w') (hB : w.heap.size ≤ B) : Tabs w' := by
  obtain ⟨l1, l2⟩ := h.lt
  exact ⟨fun c hc => (hb.cell (p := ⟨_, c, none⟩) (by simp only; omega)).trans (h.1 c hc), fun i hi => ⟨(hb.cell (p := ⟨_, _, none⟩) (by simp only; omega)).trans (h.2 i hi).1, (hb.cell (p := ⟨_, _, none⟩) (by simp only; omega)).trans (h.2 i hi).2⟩⟩
theorem Tabs.below {w w' : World} (h : Tabs w) (hb : Below w.heap.size w w') : Tabs w' := h.behind hb (Nat.le_refl _)
theorem Tabs.belowB {B : Nat} {w w' : World} (h : Tabs w) (hb : Below B w w') (h3 : decLays_ren.g 3 < B) (h4 : decLays_ren.g 4 < B) : Tabs w' :=
  ⟨fun c hc => (hb.cell (p := ⟨_, c, none⟩) h3).trans (h.1 c hc), fun i hi => ⟨(hb.cell (p := ⟨_, _, none⟩) h4).trans (h.2 i hi).1, (hb.cell (p := ⟨_, _, none⟩) h4).trans (h.2 i hi).2⟩⟩
theorem dec_any (t : ByteArray) (w : World) (hT : Tabs w) (h1 : 0 < t.size) (hz : sizeB t 0 ≠ 0) : ∃ z : Nat, Calls Tryd.prog 76 #[.string t] w fun e w' => e = .returned (.tuple #[.int .i32 (runeB t 0 (sizeB t 0)), .int .i64 z]) ∧ Below w.heap.size w w' := by
  have h := Any.utf8_DecodeRuneInString decLays t w hT
  obtain ⟨hd, hp⟩ := (decode_size t 0 h1).2 hz
  have e : Lib.decodeGo t = ((runeB t 0 (sizeB t 0)).toNat, sizeB t 0) := by
    unfold Lib.decodeGo
    rw [if_neg (by omega), hd]
  rw [e, Int.toNat_of_nonneg hp] at h
  exact ⟨_, h⟩
/-- the token of a piece that begins at k; whether it may be. -/
def tokR (t : ByteArray) (k : Nat) : Tok × Bool :=
  if digitC (runeB t 0 (sizeB t 0)) then
    if 1099511627776 < (numB t 0).1 ∨ (bAt t 0 = 48 ∧ 1 < t.size) then (⟨0, 0, 0, k⟩, false) else (⟨2, 0, (numB t 0).1, k⟩, true)
  else (⟨1, runeB t 0 (sizeB t 0), 0, k⟩, true)
def tokV (x : Tok × Bool) : Value := .tuple #[.agg #[.int .i64 x.1.kind, .int .i32 x.1.sign, .int .i64 x.1.n, .int .i64 x.1.at_], .bool x.2]
theorem box4_new (w : World) (a b c d : Value) (t : TypeId) (n : Nat) (h : n = w.heap.size) : Box (w.alloc (.cells #[a, b, c, d] t)) n [a, b, c, d] := by subst h; exact Box.new w [a, b, c, d] t
theorem box4_of {w : World} {n : Nat} {a b c d : Value} (h : Box w n [a, b, c, d]) : (w.cell? ⟨n, 0, none⟩ = some a ∧ w.cell? ⟨n, 1, none⟩ = some b ∧ w.cell? ⟨n, 2, none⟩ = some c ∧ w.cell? ⟨n, 3, none⟩ = some d) ∧ (w.frozen? ⟨n, 0, none⟩ = false ∧ w.frozen? ⟨n, 1, none⟩ = false ∧ w.frozen? ⟨n, 2, none⟩ = false ∧ w.frozen? ⟨n, 3, none⟩ = false) ∧ n < w.heap.size :=
  ⟨⟨h.2.2 0 _ rfl, h.2.2 1 _ rfl, h.2.2 2 _ rfl, h.2.2 3 _ rfl⟩, ⟨h.2.1 _, h.2.1 _, h.2.1 _, h.2.1 _⟩, h.1⟩
theorem token_any (t : ByteArray) (k : Nat) (w : World) (hT : Tabs w) (h1 : 0 < t.size) (hz : sizeB t 0 ≠ 0) (ht : t.size ≤ 600000) (hk : k ≤ 600000)
    (hd : digitC (runeB t 0 (sizeB t 0)) = true → ∀ i, i < t.size → digB t i = true) : Calls Tryd.prog 54 #[.int .i64 k, .string t] w fun e w' => e = .returned (tokV (tokR t k)) ∧ Below w.heap.size w w' := by
  have HT := Lib.hid hT
  have HD := Lib.hid hd
  have HZ := Lib.hid hz
  clear hT hd hz
  go_enter Tryd.func54, Tryd.ntmps54
  go_wp2_with fail
  generalize hW : w.alloc (.cells #[.int .i64 0, .int .i32 0, .int .i64 0, .int .i64 0] 70) = W
  have hA : Box W w.heap.size [.int .i64 0, .int .i32 0, .int .i64 0, .int .i64 0] := by rw [← hW]; exact box4_new _ _ _ _ _ _ _ rfl
  have HB := Lib.hid (show Below w.heap.size w W by rw [← hW]; go_grown)
  have HT2 := Lib.hid (HT.out.below HB.out)
  clear hW HT
  obtain ⟨z, hcal⟩ := dec_any t W HT2.out h1 HZ.out
  refine hcal.mono ?_
  rintro e w2 ⟨rfl, hb2⟩
  replace hA := On.box hA _ hb2
  replace HB := Lib.hid (below_then HB.out hb2)
  clear hb2 hcal HT2
  obtain ⟨c, hc⟩ : ∃ c, runeB t 0 (sizeB t 0) = c := ⟨_, rfl⟩
  have HC := Lib.hid hc
  have HD2 := Lib.hid HD.out
  rw [hc] at HD2 ⊢
  clear HD hc
  rcases hdc : digitC c with _ | _
  · have HV := Lib.hid (show tokR t k = (⟨1, c, 0, k⟩, true) by unfold tokR; rw [HC.out, hdc]; rfl)
    obtain ⟨⟨r0, r1, r2, r3⟩, ⟨f0, f1, f2, f3⟩, r4⟩ := box4_of hA
    go_wp2_with (go_at_call 77; refine (digit_any _ _).mono ?_; rintro e w' ⟨rfl, rfl⟩)
    refine bodyPost_ret (v := .tuple #[.agg #[.int .i64 1, .int .i32 c, .int .i64 0, .int .i64 k], .bool true]) (by simp [results, Tryd.results54, go_sem, r0, r1, r2, r3]) rfl ⟨by rw [HV.out]; rfl, ?_⟩
    exact Below.setCell (Below.setCell (Below.setCell (Below.setCell HB.out (by go_size) _) (by go_size) _) (by go_size) _) (by go_size) _
  · have HDD := Lib.hid (HD2.out hdc)
    have hnum := number_any t w2 h1 HDD.out ht
    by_cases hbad : 1099511627776 < (numB t 0).1 ∨ (bAt t 0 = 48 ∧ 1 < t.size)
    · rw [numV, if_pos hbad] at hnum
      have HV := Lib.hid (show tokR t k = (⟨0, 0, 0, k⟩, false) by unfold tokR; rw [HC.out, hdc, if_pos hbad]; rfl)
      clear hbad
      go_wp2_with (first | (go_at_call 77; refine (digit_any _ _).mono ?_; rintro e w' ⟨rfl, rfl⟩) | (go_at_call 78; refine hnum.mono ?_; clear hnum; rintro e w3 ⟨rfl, hb3⟩; replace hA := On.box hA _ hb3; replace HB := Lib.hid (below_then HB.out hb3); obtain ⟨⟨r0, r1, r2, r3⟩, ⟨f0, f1, f2, f3⟩, r4⟩ := box4_of hA))
      refine bodyPost_ret (v := .tuple #[.agg #[.int .i64 0, .int .i32 0, .int .i64 0, .int .i64 k], .bool false]) (by simp [results, Tryd.results54, go_sem, r0, r1, r2, r3]) rfl ⟨by rw [HV.out]; rfl, ?_⟩
      exact Below.setCell (Below.setCell (Below.setCell (Below.setCell HB.out (by go_size) _) (by go_size) _) (by go_size) _) (by go_size) _
    · rw [numV, if_neg hbad] at hnum
      have HV := Lib.hid (show tokR t k = (⟨2, 0, (numB t 0).1, k⟩, true) by unfold tokR; rw [HC.out, hdc, if_neg hbad]; rfl)
      obtain ⟨nv, hnv⟩ : ∃ n, (numB t 0).1 = n := ⟨_, rfl⟩
      rw [hnv] at hnum HV
      clear hbad hnv
      go_wp2_with (first | (go_at_call 77; refine (digit_any _ _).mono ?_; rintro e w' ⟨rfl, rfl⟩) | (go_at_call 78; refine hnum.mono ?_; clear hnum; rintro e w3 ⟨rfl, hb3⟩; replace hA := On.box hA _ hb3; replace HB := Lib.hid (below_then HB.out hb3); obtain ⟨⟨r0, r1, r2, r3⟩, ⟨f0, f1, f2, f3⟩, r4⟩ := box4_of hA))
      refine bodyPost_ret (v := .tuple #[.agg #[.int .i64 2, .int .i32 0, .int .i64 nv, .int .i64 k], .bool true]) (by simp [results, Tryd.results54, go_sem, r0, r1, r2, r3]) rfl ⟨by rw [HV.out]; rfl, ?_⟩
      exact Below.setCell (Below.setCell (Below.setCell (Below.setCell HB.out (by go_size) _) (by go_size) _) (by go_size) _) (by go_size) _
end Go.Proofs.YtechccoongilcaaDoor
/- A style as cells. -/
namespace Go.Proofs.YtechccoongilcaaDoor
open Go.RowKit
set_option linter.unusedVariables false
set_option linter.unusedSimpArgs false
def encS12 (s : Sty) : List Value := [.int .i64 s.top, .int .i64 s.bottom, .int .i64 s.padTop, .int .i64 s.padBottom, .int .i64 s.inset, .int .i64 s.orphans, .int .i64 s.widows, .int .i64 s.head, .int .i64 s.before, .int .i64 s.after, .int .i64 s.inside, .int .i64 s.clear]
end Go.Proofs.YtechccoongilcaaDoor
/- Nodes in memory; what a reader of nodes answers. -/
namespace Go.Proofs.YtechccoongilcaaDoor
open Go.RowKit
set_option linter.unusedVariables false
set_option linter.unusedSimpArgs false
structure NdM where
  kind : Int
  size : Int
  sty : Sty
  line : Int
  space : Int
  A : Option Addr
  n : Nat
  c : Nat
  side : Int
  w : Int
  h : Int
def encM (m : NdM) : List Value := [.int .i64 m.kind, .int .i64 m.size, .int .i64 m.sty.top, .int .i64 m.sty.bottom, .int .i64 m.sty.padTop, .int .i64 m.sty.padBottom, .int .i64 m.sty.inset, .int .i64 m.sty.orphans, .int .i64 m.sty.widows, .int .i64 m.sty.head, .int .i64 m.sty.before, .int .i64 m.sty.after, .int .i64 m.sty.inside, .int .i64 m.sty.clear,
  .int .i64 m.line, .int .i64 m.space, .slice m.A m.n m.c, .int .i64 m.side, .int .i64 m.w, .int .i64 m.h]
theorem encM_len (m : NdM) : (encM m).length = 20 := rfl
theorem encM_one (m : NdM) : ∀ u ∈ encM m, u.oneCell' = true := by
  intro u hu
  simp only [encM, List.mem_cons, List.not_mem_nil, or_false] at hu
  rcases hu with h | h | h | h | h | h | h | h | h | h | h | h | h | h | h | h | h | h | h | h <;> subst h <;> rfl
theorem encMs_one (zs : List NdM) : ∀ u ∈ zs.flatMap encM, u.oneCell' = true := by
  intro u hu
  obtain ⟨m, _, hm⟩ := List.mem_flatMap.1 hu
  exact encM_one m u hm
/-- the node x lies there as m; its words in a row of their own, from block base on. -/
def Holds (base : Nat) (w : World) (m : NdM) (x : Nd) : Prop := (x.kind = m.kind ∧ x.size = m.size ∧ x.sty = m.sty ∧ x.line = m.line ∧ x.space = m.space ∧ x.side = m.side ∧ x.w = m.w ∧ x.h = m.h) ∧ w.ownsRow base 3 1 (.slice m.A m.n m.c) m.n (x.words.map (Value.int .i64))
def Holds2 (base : Nat) (w : World) (zs : List NdM) (l : List Nd) : Prop := zs.length = l.length ∧ ∀ (i : Nat) (m : NdM) (x : Nd), zs[i]? = some m → l[i]? = some x → Holds base w m x
theorem Holds2.below {base : Nat} {w w' : World} {zs : List NdM} {l : List Nd} (h : Holds2 base w zs l) (hb : Below w.heap.size w w') : Holds2 base w' zs l :=
  ⟨h.1, fun i m x h1 h2 => ⟨(h.2 i m x h1 h2).1, owns_below (h.2 i m x h1 h2).2 hb⟩⟩
theorem Holds2.nil (base : Nat) (w : World) : Holds2 base w [] [] := ⟨rfl, fun i m x h => by simp at h⟩
theorem Holds2.append {base : Nat} {w : World} {zs zs' : List NdM} {l l' : List Nd} (h : Holds2 base w zs l) (h' : Holds2 base w zs' l') : Holds2 base w (zs ++ zs') (l ++ l') := by
  refine ⟨by rw [List.length_append, List.length_append, h.1, h'.1], fun i m x h1 h2 => ?_⟩
  by_cases hi : i < zs.length
  · rw [List.getElem?_append_left hi] at h1
    rw [List.getElem?_append_left (by rw [← h.1]; exact hi)] at h2
    exact h.2 i m x h1 h2
  · rw [List.getElem?_append_right (by omega)] at h1
    rw [List.getElem?_append_right (by rw [← h.1]; omega), ← h.1] at h2
    exact h'.2 _ m x h1 h2
theorem Holds2.one {base : Nat} {w : World} {m : NdM} {x : Nd} (h : Holds base w m x) : Holds2 base w [m] [x] := by
  refine ⟨rfl, fun i m' x' h1 h2 => ?_⟩
  cases i with
  | zero => simp at h1 h2; subst h1 h2; exact h
  | succ i => simp at h1
/-- the slice's block is one from base on. -/
def Far (base : Nat) (A : Option Addr) : Prop := ∀ p, A = some p → base ≤ p.block
theorem Far.nil (base : Nat) : Far base .none := fun p h => by cases h
theorem Far.at_ {base g : Nat} (h : base ≤ g) : Far base (some ⟨g, 0, .none⟩) := fun p e => by cases e; exact h
theorem Far.up {base base' : Nat} {A : Option Addr} (h : Far base A) (hb : base' ≤ base) : Far base' A := fun p e => Nat.le_trans hb (h p e)
theorem Far.owns {w : World} {base : Nat} {e : TypeId} {size : Nat} {A : Option Addr} {n c : Nat} {xs : List Value} (h : w.ownsRow base e size (.slice A n c) n xs) : Far base A := fun p hp => owns_block h p.block (by subst hp; rfl)
/-- all blocks from base on are as they were. -/
def Same (base : Nat) (w w' : World) : Prop := w.heap.size ≤ w'.heap.size ∧ ∀ k, base ≤ k → k < w.heap.size → w'.heap[k]? = w.heap[k]?
theorem Same.refl (base : Nat) (w : World) : Same base w w := ⟨Nat.le_refl _, fun _ _ _ => rfl⟩
theorem Same.below {base : Nat} {w w' : World} (h : Below w.heap.size w w') : Same base w w' := ⟨h.size, fun k _ hk => h.block k hk⟩
theorem Same.set {base : Nat} (w : World) {m : Nat} (hm : m < base) (j : Nat) (v : Value) : Same base w (w.setCell ⟨m, j, .none⟩ v) :=
  ⟨by simp, fun k hk _ => Below.heap_setCell _ _ _ _ (fun e => by simp at e; omega)⟩
theorem Same.trans {base : Nat} {a b c : World} (h : Same base a b) (k : Same base b c) : Same base a c := ⟨Nat.le_trans h.1 k.1, fun i hi hl => (k.2 i hi (Nat.lt_of_lt_of_le hl h.1)).trans (h.2 i hi hl)⟩
theorem Rows.same {α : Type} {k : Nat} {enc : α → List Value} {w w' : World} {A : Option Addr} {n : Nat} {zs : List α} {base : Nat} (h : Rows k enc w A n zs) (hA : Far base A) (hs : Same base w w') : Rows k enc w' A n zs :=
  ⟨h.1, h.2.1, fun hn => by
    obtain ⟨b, off, e, hl, hc⟩ := h.2.2 hn
    have hb := hA _ e
    exact ⟨b, off, e, Nat.lt_of_lt_of_le hl hs.1, fun i x hx j v hv => (World.cell?_of_block (w := w) (a := ⟨b, _, .none⟩) (hs.2 b hb hl)).trans (hc i x hx j v hv)⟩⟩
theorem owns_same {w w' : World} {base : Nat} {e : TypeId} {size : Nat} {v : Value} {n : Nat} {xs : List Value} (h : w.ownsRow base e size v n xs) (hs : Same base w w') : w'.ownsRow base e size v n xs := by
  refine ⟨h.1, ?_⟩
  rcases h.2 with h2 | ⟨g, cap, cur, h1, h2, h3, h4⟩
  · exact .inl h2
  · exact .inr ⟨g, cap, cur, h1, h2, (hs.2 g h2 (Array.getElem?_eq_some_iff.1 h3).1).trans h3, h4⟩
theorem owns_up {w : World} {base base' : Nat} {e : TypeId} {size : Nat} {v : Value} {n : Nat} {xs : List Value} (h : w.ownsRow base e size v n xs) (hb : base' ≤ base) : w.ownsRow base' e size v n xs := by
  refine ⟨h.1, ?_⟩
  rcases h.2 with h2 | ⟨g, cap, cur, h1, h2, h3⟩
  · exact .inl h2
  · exact .inr ⟨g, cap, cur, h1, by omega, h3⟩
/-- a step that turns a row of another type. -/
theorem owns_grown {w w' : World} {base base' : Nat} {e e' : TypeId} {size size' : Nat} {v v' : Value} {n n' : Nat} {xs xs' : List Value} (h : w.ownsRow base e size v n xs) (h' : w.ownsRow base' e' size' v' n' xs') (hne : e ≠ e') (hg : w.grownBy w' v'.ownBlock) : w'.ownsRow base e size v n xs := by
  refine ⟨h.1, ?_⟩
  rcases h.2 with h2 | ⟨g, cap, cur, h1, h2, h3, h4⟩
  · exact .inl h2
  · refine .inr ⟨g, cap, cur, h1, h2, (hg.block g (Array.getElem?_eq_some_iff.1 h3).1 (fun q => ?_)).trans h3, h4⟩
    rcases h'.2 with ⟨k, _⟩ | ⟨g', cap', cur', k, _, k3, _⟩
    · rw [k] at q; cases q
    · rw [k] at q
      injection q with q
      rw [show g = g' from q, k3] at h3
      injection h3 with h3
      injection h3 with _ h3 _
      exact hne h3.symm
theorem Holds2.grown {base base' : Nat} {w w' : World} {zs : List NdM} {l : List Nd} {e' : TypeId} {size' n' : Nat} {v' : Value} {xs' : List Value} (h : Holds2 base w zs l) (h' : w.ownsRow base' e' size' v' n' xs') (hne : 3 ≠ e') (hg : w.grownBy w' v'.ownBlock) : Holds2 base w' zs l :=
  ⟨h.1, fun i m x h1 h2 => ⟨(h.2 i m x h1 h2).1, owns_grown (h.2 i m x h1 h2).2 h' hne hg⟩⟩
theorem Holds2.same {base : Nat} {w w' : World} {zs : List NdM} {l : List Nd} (h : Holds2 base w zs l) (hs : Same base w w') : Holds2 base w' zs l :=
  ⟨h.1, fun i m x h1 h2 => ⟨(h.2 i m x h1 h2).1, owns_same (h.2 i m x h1 h2).2 hs⟩⟩
theorem Holds2.up {base base' : Nat} {w : World} {zs : List NdM} {l : List Nd} (h : Holds2 base w zs l) (hb : base' ≤ base) : Holds2 base' w zs l :=
  ⟨h.1, fun i m x h1 h2 => ⟨(h.2 i m x h1 h2).1, owns_up (h.2 i m x h1 h2).2 hb⟩⟩
theorem Holds.ints {base : Nat} {w : World} {m : NdM} {x : Nd} (h : Holds base w m x) : Ints w m.A m.n x.words := (ownsRow_cells h.2).ints
/-- nodes in memory, all of it from block base on. -/
def Nds (base : Nat) (w : World) (A : Option Addr) (n : Nat) (l : List Nd) : Prop := ∃ zs : List NdM, Rows 20 encM w A n zs ∧ Holds2 base w zs l ∧ Far base A
theorem Nds.same {base : Nat} {w w' : World} {A : Option Addr} {n : Nat} {l : List Nd} (h : Nds base w A n l) (hs : Same base w w') : Nds base w' A n l := by
  obtain ⟨zs, h1, h2, h3⟩ := h
  exact ⟨zs, h1.same h3 hs, h2.same hs, h3⟩
theorem Nds.below {base : Nat} {w w' : World} {A : Option Addr} {n : Nat} {l : List Nd} (h : Nds base w A n l) (hb : Below w.heap.size w w') : Nds base w' A n l := h.same (Same.below hb)
theorem Nds.up {base base' : Nat} {w : World} {A : Option Addr} {n : Nat} {l : List Nd} (h : Nds base w A n l) (hb : base' ≤ base) : Nds base' w A n l := by
  obtain ⟨zs, h1, h2, h3⟩ := h
  exact ⟨zs, h1, h2.up hb, h3.up hb⟩
theorem Nds.nil (base : Nat) (w : World) : Nds base w .none 0 [] := ⟨[], Rows.nil _ _, Holds2.nil _ _, Far.nil _⟩
theorem Nds.len {base : Nat} {w : World} {A : Option Addr} {n : Nat} {l : List Nd} (h : Nds base w A n l) : l.length = n := by
  obtain ⟨zs, h1, h2, _⟩ := h
  rw [← h2.1]; exact h1.1
/-- a number of nodes is no more than that of the tokens. -/
theorem Parse.len {l : List Tok} {t : Bool} {i : Nat} {out : List Nd} {r : Res (List Nd)} (h : Parse l t i out r) : ∀ x b, r = .ok x b → x.length + i ≤ out.length + b := by
  have hbox : ∀ i kind side e x b, boxR l i kind side e = .ok x b → x.length + i ≤ b := by
    intro i kind side e x b hr
    unfold boxR at hr
    split at hr
    · cases hr
    split at hr
    · cases hr
    split at hr
    · cases hr
    · cases hr; simp; omega
  induction h with
  | stop _ => intro x b h; cases h; omega
  | more _ _ _ ih1 ih2 => intro x b h; have := ih1 _ _ rfl; have := ih2 _ _ h; simp at *; omega
  | fail _ _ _ => intro x b h; cases h
  | blockA _ _ => intro x b h; cases h
  | blockN _ _ _ _ => intro x b h; cases h
  | blockE _ _ _ _ _ => intro x b h; cases h
  | block _ g2 _ _ ih => intro x b h; cases h; have := ih _ _ rfl; have := g2.le; simp [Res.at_] at *; omega
  | textL _ _ => intro x b h; cases h
  | textS _ _ _ => intro x b h; cases h
  | textW _ _ _ _ _ => intro x b h; cases h
  | text _ _ _ g4 _ _ => intro x b h; cases h; have := g4.le; simp; omega
  | mono _ => intro x b h; have := hbox _ _ _ _ _ _ h; simp; omega
  | left _ _ => intro x b h; have := hbox _ _ _ _ _ _ h; simp; omega
  | right _ _ => intro x b h; have := hbox _ _ _ _ _ _ h; simp; omega
  | side _ _ _ => intro x b h; cases h
def gotV (A : Option Addr) (n c : Nat) (p wrong : Int) : Value := .agg #[.slice A n c, .int .i64 p, .int .i64 wrong]
/-- what one of the readers answers. -/
def GotR (w : World) (r : Res (List Nd)) (e : Ending) (w' : World) : Prop := match r with
  | .ok x b => ∃ A n c, e = .returned (gotV A n c b 0) ∧ Nds w.heap.size w' A n x ∧ Below w.heap.size w w'
  | .bad p => e = .returned (gotV none 0 0 p 1) ∧ Below w.heap.size w w'
def GotP (toks : List Tok) (t : Bool) (i : Nat) (w : World) (e : Ending) (w' : World) : Prop := ∃ r, Parse toks t i [] r ∧ GotR w r e w'
/-- a block that holds a struct, read whole. -/
theorem box_load {P : Program} {w : World} {n k : Nat} {vs : List Value} (h : Box w n vs) (hk : vs.length = k) (cs : Array Value) (hc : cs = vs.toArray) : (loadCellsFrom ⟨n, 0, none⟩ 0 k #[]).run P w = .ok cs w := by
  subst hk hc
  have := run_loadCells_list (P := P) w ⟨n, 0, none⟩ vs (fun j v hv => by
    rw [Go.WideShapes.add_plain, Nat.zero_add]; exact h.2.2 j v hv)
  simpa [loadCells] using this
theorem box3_of {w : World} {n : Nat} {a b c : Value} (h : Box w n [a, b, c]) : (w.cell? ⟨n, 0, none⟩ = some a ∧ w.cell? ⟨n, 1, none⟩ = some b ∧ w.cell? ⟨n, 2, none⟩ = some c) ∧ (w.frozen? ⟨n, 0, none⟩ = false ∧ w.frozen? ⟨n, 1, none⟩ = false ∧ w.frozen? ⟨n, 2, none⟩ = false) ∧ n < w.heap.size :=
  ⟨⟨h.2.2 0 _ rfl, h.2.2 1 _ rfl, h.2.2 2 _ rfl⟩, ⟨h.2.1 _, h.2.1 _, h.2.1 _⟩, h.1⟩
theorem rows_box {α : Type} {k : Nat} {enc : α → List Value} (hk : ∀ x, (enc x).length = k) {w : World} {n : Nat} {zs : List α} (h : Box w n (zs.flatMap enc)) (hl : zs.length ≤ 1000000) : Rows k enc w (some ⟨n, 0, none⟩) zs.length zs := by
  refine ⟨rfl, by omega, fun _ => ⟨n, 0, rfl, h.1, fun i x hx j v hv => ?_⟩⟩
  rw [Nat.zero_add]
  exact h.2.2 _ _ (flat_get hk zs i x j v hx hv)
theorem box_new (w : World) (vs : List Value) (t : TypeId) (n : Nat) (h : n = w.heap.size) (cs : Array Value) (hc : cs = vs.toArray) : Box (w.alloc (.cells cs t)) n vs := by subst h hc; exact Box.new w vs t
end Go.Proofs.YtechccoongilcaaDoor
/- The program's package read: the reader in memory; what is left of the tokens; one token taken. -/
namespace Go.Proofs.YtechccoongilcaaDoor
open Go.RowKit
set_option linter.unusedVariables false
set_option linter.unusedSimpArgs false
/-- block g alone may have changed; new blocks may have been made. -/
structure Bar (g : Nat) (w w' : World) : Prop where
  os : w'.os = w.os
  tape : w'.tape = w.tape
  output : w'.output = w.output
  size : w.heap.size ≤ w'.heap.size
  block : ∀ k, k < w.heap.size → k ≠ g → w'.heap[k]? = w.heap[k]?
theorem Bar.refl (g : Nat) (w : World) : Bar g w w := ⟨rfl, rfl, rfl, Nat.le_refl _, fun _ _ _ => rfl⟩
theorem Bar.trans {g : Nat} {a b c : World} (h : Bar g a b) (k : Bar g b c) : Bar g a c :=
  ⟨k.os.trans h.os, k.tape.trans h.tape, k.output.trans h.output, Nat.le_trans h.size k.size, fun i hi hg => (k.block i (Nat.lt_of_lt_of_le hi h.size) hg).trans (h.block i hi hg)⟩
theorem Bar.of_below {g : Nat} {w w' : World} (h : Below w.heap.size w w') : Bar g w w' := ⟨h.os, h.tape, h.output, h.size, fun k hk _ => h.block k hk⟩
theorem Bar.below {g B : Nat} {w w' : World} (h : Bar g w w') (hg : B ≤ g) (hB : B ≤ w.heap.size) : Below B w w' := ⟨h.os, h.tape, h.output, h.size, fun k hk => h.block k (by omega) (by omega)⟩
theorem Bar.set {g : Nat} {w w' : World} (h : Bar g w w') (j : Nat) (v : Value) : Bar g w (w'.setCell ⟨g, j, none⟩ v) :=
  ⟨h.os, h.tape, h.output, by simpa using h.size, fun k hk hg => (Below.heap_setCell _ _ _ _ (fun e => hg (by simpa using e))).trans (h.block k hk hg)⟩
theorem Bar.drew {g : Nat} {w w' : World} (h : Bar g w w') : Bar g w w'.drew := ⟨h.os, h.tape, h.output, h.size, h.block⟩
theorem Bar.alloc {g : Nat} {w w' : World} (h : Bar g w w') (o : Obj) : Bar g w (w'.alloc o) := h.trans (Bar.of_below ((Below.refl _ _).alloc (Nat.le_refl _) o))
theorem Box.bar {g : Nat} {w w' : World} {n : Nat} {vs : List Value} (h : Box w n vs) (hb : Bar g w w') (hn : n ≠ g) : Box w' n vs := by
  have e := hb.block n h.1 hn
  refine ⟨Nat.lt_of_lt_of_le h.1 hb.size, fun o => ?_, fun j v hv => ?_⟩
  · rw [← h.2.1 o]; simp only [World.frozen?, e]
  · rw [← h.2.2 j v hv]; simp only [World.cell?, e]
theorem Blk.bar {g : Nat} {w w' : World} {n : Nat} {t : TypeId} {vs : List Value} (h : Blk w n t vs) (hb : Bar g w w') (hn : n ≠ g) : Blk w' n t vs := (hb.block n (Array.getElem?_eq_some_iff.1 h).1 hn).trans h
/-- the slice's block is one below g. -/
def Apart (g : Nat) (A : Option Addr) : Prop := ∀ p, A = some p → p.block < g
theorem Rows.bar {α : Type} {k g : Nat} {enc : α → List Value} {w w' : World} {A : Option Addr} {n : Nat} {zs : List α} (h : Rows k enc w A n zs) (hb : Bar g w w') (hA : Apart g A) : Rows k enc w' A n zs :=
  ⟨h.1, h.2.1, fun hn => by
    obtain ⟨b, off, e, hl, hc⟩ := h.2.2 hn
    have hg := Nat.ne_of_lt (hA _ e)
    exact ⟨b, off, e, Nat.lt_of_lt_of_le hl hb.size, fun i x hx j v hv => (World.cell?_of_block (w := w) (a := ⟨b, _, .none⟩) (hb.block b hl hg)).trans (hc i x hx j v hv)⟩⟩
theorem owns_bar {g : Nat} {w w' : World} {base : Nat} {e : TypeId} {size : Nat} {v : Value} {n : Nat} {xs : List Value} (h : w.ownsRow base e size v n xs) (hb : Bar g w w') (hg : g < base) : w'.ownsRow base e size v n xs := by
  refine ⟨h.1, ?_⟩
  rcases h.2 with h2 | ⟨k, cap, cur, h1, h2, h3, h4⟩
  · exact .inl h2
  · exact .inr ⟨k, cap, cur, h1, h2, (hb.block k (Array.getElem?_eq_some_iff.1 h3).1 (by omega)).trans h3, h4⟩
/-- the tail of a row. -/
theorem Rows.tail {α : Type} {k : Nat} {enc : α → List Value} {w : World} {b off n : Nat} {z : α} {zs : List α} (h : Rows k enc w (some ⟨b, off, .none⟩) (n + 1) (z :: zs)) : Rows k enc w (some ⟨b, off + k, .none⟩) n zs :=
  ⟨by have := h.1; simpa using this, by have := h.2.1; omega, fun _ => by
    obtain ⟨b', off', e, hl, hc⟩ := h.2.2 (by omega)
    injection e with e; injection e with e1 e2; subst e1 e2
    exact ⟨b, off + k, rfl, hl, fun i x hx j v hv => by
      have := hc (i + 1) x (by simpa using hx) j v hv
      rw [show off + (i + 1) * k + j = off + k + i * k + j by rw [Nat.add_mul]; omega] at this
      exact this⟩⟩
/-- a reader's cells. -/
def rcells (left : Value) (size : Int) (wr : Bool) (row opn : Value) (s : Sty) (mp : Value) : List Value :=
  [left, .int .i64 size, .bool wr, row, opn, .int .i64 s.top, .int .i64 s.bottom, .int .i64 s.padTop, .int .i64 s.padBottom, .int .i64 s.inset, .int .i64 s.orphans, .int .i64 s.widows, .int .i64 s.head, .int .i64 s.before, .int .i64 s.after, .int .i64 s.inside, .int .i64 s.clear, mp]
/-- the reader in block g: i tokens are taken. -/
def Rd (toks : List Tok) (size : Int) (g : Nat) (w : World) (i : Nat) (wr : Bool) (row opn : Value) (s : Sty) (mp : Value) : Prop :=
  ∃ A m c, Rows 4 encT w A m (toks.drop i) ∧ Apart g A ∧ m ≤ c ∧ i ≤ toks.length ∧ Blk w g 47 (rcells (.slice A m c) size wr row opn s mp)
theorem Rd.bar {toks : List Tok} {size : Int} {g : Nat} {w w' : World} {i : Nat} {wr : Bool} {row opn : Value} {s : Sty} {mp : Value} (h : Rd toks size g w i wr row opn s mp) (hb : Bar g w w') (hg : w'.heap[g]? = w.heap[g]?) : Rd toks size g w' i wr row opn s mp := by
  obtain ⟨A, m, c, h1, h2, h3, h4, h5⟩ := h
  exact ⟨A, m, c, h1.bar hb h2, h2, h3, h4, hg.trans h5⟩
theorem Rd.below {toks : List Tok} {size : Int} {g : Nat} {w w' : World} {i : Nat} {wr : Bool} {row opn : Value} {s : Sty} {mp : Value} (h : Rd toks size g w i wr row opn s mp) (hb : Below w.heap.size w w') : Rd toks size g w' i wr row opn s mp := by
  have hg : g < w.heap.size := by
    obtain ⟨A, m, c, h1, h2, h3, h4, h5⟩ := h
    exact (Array.getElem?_eq_some_iff.1 h5).1
  exact h.bar (Bar.of_below hb) (hb.block g hg)
theorem Rd.low {toks : List Tok} {size : Int} {g : Nat} {w w' : World} {i : Nat} {wr : Bool} {row opn : Value} {s : Sty} {mp : Value} (h : Rd toks size g w i wr row opn s mp) (hb : Below (g + 1) w w') : Rd toks size g w' i wr row opn s mp := by
  obtain ⟨A, m, c, h1, h2, h3, h4, h5⟩ := h
  refine ⟨A, m, c, ⟨h1.1, h1.2.1, fun hn => ?_⟩, h2, h3, h4, (hb.block g (Nat.lt_succ_self g)).trans h5⟩
  obtain ⟨b, off, e, hl, hc⟩ := h1.2.2 hn
  have hg := h2 _ e
  exact ⟨b, off, e, Nat.lt_of_lt_of_le hl hb.size, fun i x hx j v hv => (World.cell?_of_block (w := w) (a := ⟨b, _, none⟩) (hb.block b (by simp only at hg; omega))).trans (hc i x hx j v hv)⟩
theorem Rd.lt {toks : List Tok} {size : Int} {g : Nat} {w : World} {i : Nat} {wr : Bool} {row opn : Value} {s : Sty} {mp : Value} (h : Rd toks size g w i wr row opn s mp) : g < w.heap.size := by
  obtain ⟨A, m, c, h1, h2, h3, h4, h5⟩ := h
  exact (Array.getElem?_eq_some_iff.1 h5).1
theorem Rd.le {toks : List Tok} {size : Int} {g : Nat} {w : World} {i : Nat} {wr : Bool} {row opn : Value} {s : Sty} {mp : Value} (h : Rd toks size g w i wr row opn s mp) : i ≤ toks.length := by
  obtain ⟨A, m, c, h1, h2, h3, h4, h5⟩ := h
  exact h4
/-- what the reader's block says when a cell of it is stored into. -/
theorem Rd.set {toks : List Tok} {size : Int} {g : Nat} {w : World} {i : Nat} {wr : Bool} {row opn : Value} {s : Sty} {mp : Value} (h : Rd toks size g w i wr row opn s mp) {wr' : Bool} {row' opn' : Value} {s' : Sty} {mp' : Value} (j : Nat) (v : Value)
    (e : ∀ left, (rcells left size wr row opn s mp).set j v = rcells left size wr' row' opn' s' mp') : Rd toks size g (w.setCell ⟨g, j, none⟩ v) i wr' row' opn' s' mp' := by
  obtain ⟨A, m, c, h1, h2, h3, h4, h5⟩ := h
  have := h5.set j v
  rw [e] at this
  exact ⟨A, m, c, h1.bar ((Bar.refl _ _).set _ _) h2, h2, h3, h4, this⟩
theorem drop_get (toks : List Tok) (i : Nat) : (toks.drop i)[0]? = toks[i]? := by rw [List.getElem?_drop]; rfl
theorem sgB_drop (toks : List Tok) (i : Nat) (c : Int) : sgB toks i c = sgB (toks.drop i) 0 c := by unfold sgB; rw [drop_get]
/-- the first of what is left: where it lies; what is left behind it. -/
theorem left_at {w : World} {A : Option Addr} {m i : Nat} {toks : List Tok} (h : Rows 4 encT w A m (toks.drop i)) (hm : 0 < m) :
    ∃ b off x y u v, A = some ⟨b, off, none⟩ ∧ b < w.heap.size ∧ toks[i]? = some ⟨x, y, u, v⟩ ∧ (w.cell? ⟨b, off, none⟩ = some (.int .i64 x) ∧ w.cell? ⟨b, off + 1, none⟩ = some (.int .i32 y) ∧ w.cell? ⟨b, off + 2, none⟩ = some (.int .i64 u) ∧ w.cell? ⟨b, off + 3, none⟩ = some (.int .i64 v)) ∧
      Rows 4 encT w (some ⟨b, off + 4, none⟩) (m - 1) (toks.drop (i + 1)) := by
  obtain ⟨b, off, x, y, u, v, rfl, hb, hx, c0, c1, c2, c3⟩ := toks_at h hm
  rw [drop_get] at hx
  simp only [Nat.zero_mul, Nat.add_zero] at c0 c1 c2 c3
  refine ⟨b, off, x, y, u, v, rfl, hb, hx, ⟨c0, c1, c2, c3⟩, ?_⟩
  have hlt := (List.getElem?_eq_some_iff.1 hx).1
  have e : toks.drop i = ⟨x, y, u, v⟩ :: toks.drop (i + 1) := by
    rw [List.drop_eq_getElem_cons hlt]
    congr 1
    have := List.getElem?_eq_getElem hlt
    rw [hx] at this
    injection this with this
    exact this.symm
  rw [e, show m = (m - 1) + 1 by omega] at h
  exact h.tail
theorem left_none {w : World} {A : Option Addr} {i : Nat} {toks : List Tok} (h : Rows 4 encT w A 0 (toks.drop i)) : toks[i]? = none := by
  have := h.1
  rw [List.length_drop] at this
  exact List.getElem?_eq_none (by omega)
theorem tmore_any {toks : List Tok} {size : Int} {g : Nat} {w : World} {i : Nat} {wr : Bool} {row opn : Value} {s : Sty} {mp : Value} (h : Rd toks size g w i wr row opn s mp) :
    Calls Tryd.prog 32 #[.pointer (some ⟨g, 0, none⟩)] w fun e w' => e = .returned (.bool (!wr && decide (i < toks.length))) ∧ w = w' := by
  obtain ⟨A, m, c, h1, h2, h3, h4, h5⟩ := h
  have c0 : w.cell? ⟨g, 0, none⟩ = some (.slice A m c) := h5.box.2.2 0 _ rfl
  have c2 : w.cell? ⟨g, 2, none⟩ = some (.bool wr) := h5.box.2.2 2 _ rfl
  have hm := h1.1
  rw [List.length_drop] at hm
  have hm2 := h1.2.1
  have HE := Lib.hid (show decide (i < toks.length) = decide ((0 : Int) < (m : Int)) from decide_eq_decide.2 (by omega))
  clear h1 h5 hm
  cases wr with
  | true =>
    go_enter Tryd.func32, Tryd.ntmps32
    go_wp2
    go_ret
    exact ⟨rfl, rfl⟩
  | false =>
    go_enter Tryd.func32, Tryd.ntmps32
    go_wp2
    go_ret
    exact ⟨ret_bool (by rw [HE.out]; simp), rfl⟩
end Go.Proofs.YtechccoongilcaaDoor
/- Styles compared; nodes compared. -/
namespace Go.Proofs.YtechccoongilcaaDoor
open Go.RowKit
set_option linter.unusedVariables false
set_option linter.unusedSimpArgs false
def litS (s : Sty) : List Lit := [.int .i64 s.top, .int .i64 s.bottom, .int .i64 s.padTop, .int .i64 s.padBottom, .int .i64 s.inset, .int .i64 s.orphans, .int .i64 s.widows, .int .i64 s.head, .int .i64 s.before, .int .i64 s.after, .int .i64 s.inside, .int .i64 s.clear]
def styB (s t : Sty) : Bool := s.top == t.top && s.bottom == t.bottom && s.padTop == t.padTop && s.padBottom == t.padBottom && s.inset == t.inset && s.orphans == t.orphans && s.widows == t.widows && s.head == t.head && s.before == t.before && s.after == t.after && s.inside == t.inside && s.clear == t.clear
theorem styB_iff (s t : Sty) : styB s t = true ↔ s = t := by
  obtain ⟨a0, a1, a2, a3, a4, a5, a6, a7, a8, a9, a10, a11⟩ := s
  obtain ⟨b0, b1, b2, b3, b4, b5, b6, b7, b8, b9, b10, b11⟩ := t
  simp [styB, and_assoc]
theorem litS_iff (s t : Sty) : litS s = litS t ↔ s = t := by
  obtain ⟨a0, a1, a2, a3, a4, a5, a6, a7, a8, a9, a10, a11⟩ := s
  obtain ⟨b0, b1, b2, b3, b4, b5, b6, b7, b8, b9, b10, b11⟩ := t
  simp [litS]
theorem part_int (xs : Array Value) (k : Nat) (v : Value) (h : xs[k]? = some v) (w : World) : (part 3 xs k).run Tryd.prog w = .ok v w := run_part_plain w (by kernel_rfl) h
theorem ite_ok {p : Prop} [Decidable p] {c : Bool} {w : World} : (if p then Result.ok c w else Result.ok false w) = Result.ok (decide p && c) w := by split <;> simp_all
theorem ite_and {b : Bool} {c : Bool} {w : World} : (if (!b) = true then Result.ok false w else Result.ok c w) = Result.ok (b && c) w := by cases b <;> rfl
set_option maxRecDepth 10000 in
theorem sty_equal (s t : Sty) (w : World) : (Op.equalIn 10000 44 (.agg (encS12 s).toArray) (.agg (encS12 t).toArray)).run Tryd.prog w = .ok (styB s t) w := by
  obtain ⟨a0, a1, a2, a3, a4, a5, a6, a7, a8, a9, a10, a11⟩ := s
  obtain ⟨b0, b1, b2, b3, b4, b5, b6, b7, b8, b9, b10, b11⟩ := t
  rw [show (10000 : Nat) = 9999 + 1 from rfl, run_equalIn_struct w 9999 _ _ _ (by kernel_rfl) (by kernel_rfl)]
  have hi : ∀ (a b : Int) (w : World), (Op.equalIn 9999 3 (.int .i64 a) (.int .i64 b)).run Tryd.prog w = .ok (a == b) w := fun a b w => run_equalIn_int w 9998 3 .i64 .i64 a b Tryd.underlying3
  simp [Program.fieldsOf, Tryd.underlying44, Op.eqFields, encS12, part_int, hi, styB, ite_and]
  simp only [ite_ok]
  congr 1
  rw [Bool.eq_iff_iff]
  simp [and_assoc]
/-- two nodes are the same. -/
def ndB (x y : Nd) : Bool := x.kind == y.kind && x.size == y.size && styB x.sty y.sty && x.line == y.line && x.space == y.space && x.side == y.side && x.w == y.w && x.h == y.h && x.words == y.words
theorem ndB_iff (x y : Nd) : ndB x y = true ↔ x = y := by
  obtain ⟨a0, a1, a2, a3, a4, a5, a6, a7, a8⟩ := x
  obtain ⟨b0, b1, b2, b3, b4, b5, b6, b7, b8⟩ := y
  simp [ndB, styB_iff]
  constructor
  · rintro ⟨⟨⟨⟨⟨⟨⟨⟨h1, h2⟩, h3⟩, h4⟩, h5⟩, h6⟩, h7⟩, h8⟩, h9⟩
    exact ⟨h1, h2, h3, h4, h5, h9, h6, h7, h8⟩
  · rintro ⟨h1, h2, h3, h4, h5, h9, h6, h7, h8⟩
    exact ⟨⟨⟨⟨⟨⟨⟨⟨h1, h2⟩, h3⟩, h4⟩, h5⟩, h6⟩, h7⟩, h8⟩, h9⟩
/-- a node that can be read there: its words, too. -/
def Shows (w : World) (m : NdM) (x : Nd) : Prop := (x.kind = m.kind ∧ x.size = m.size ∧ x.sty = m.sty ∧ x.line = m.line ∧ x.space = m.space ∧ x.side = m.side ∧ x.w = m.w ∧ x.h = m.h) ∧ Ints w m.A m.n x.words
theorem Shows.below {w w' : World} {m : NdM} {x : Nd} (h : Shows w m x) (hb : Below w.heap.size w w') : Shows w' m x := ⟨h.1, (h.2.cells.below hb rfl).ints⟩
theorem Holds.shows {base : Nat} {w : World} {m : NdM} {x : Nd} (h : Holds base w m x) : Shows w m x := ⟨h.1, h.ints⟩
/-- nodes that can be read there. -/
def Sees (w : World) (A : Option Addr) (n : Nat) (l : List Nd) : Prop := ∃ zs : List NdM, Rows 20 encM w A n zs ∧ zs.length = l.length ∧ ∀ (i : Nat) (m : NdM) (x : Nd), zs[i]? = some m → l[i]? = some x → Shows w m x
theorem Sees.below {w w' : World} {A : Option Addr} {n : Nat} {l : List Nd} (h : Sees w A n l) (hb : Below w.heap.size w w') : Sees w' A n l := by
  obtain ⟨zs, h1, h2, h3⟩ := h
  exact ⟨zs, h1.below hb, h2, fun i m x h4 h5 => (h3 i m x h4 h5).below hb⟩
theorem Nds.sees {base : Nat} {w : World} {A : Option Addr} {n : Nat} {l : List Nd} (h : Nds base w A n l) : Sees w A n l := by
  obtain ⟨zs, h1, h2, h3⟩ := h
  exact ⟨zs, h1, h2.1, fun i m x h4 h5 => (h2.2 i m x h4 h5).shows⟩
theorem Sees.len {w : World} {A : Option Addr} {n : Nat} {l : List Nd} (h : Sees w A n l) : l.length = n := by
  obtain ⟨zs, h1, h2, _⟩ := h
  rw [← h2]; exact h1.1
end Go.Proofs.YtechccoongilcaaDoor
/- A string that comes in. -/
namespace Go.Proofs.YtechccoongilcaaDoor
open Go.ChangeShapes Go.WideShapes Go.ChangeAt Go.RowKit
set_option linter.unusedVariables false
section
variable {H : Type} {enc : TypeId × Value → H} {W : World}
set_option maxRecDepth 100000 in
theorem open_str {base : Nat} {v : Value} {d : DataW H} {p : List MemPlace} (hv : Value.okWide Tryd.prog W .any base 9 v) (h : DataW.Trod enc Tryd.prog W 0 (fun _ => true) true 9 v d p) :
    ∃ s : ByteArray, v = .string s ∧ s.size ≤ 9223372036854775807 := by
  obtain ⟨s, h1, _, _, h4⟩ := Go.ChangeMaps.open_string Tryd.underlying9 hv h
  exact ⟨s, h1, by unfold maxLen at h4; exact h4⟩
end
end Go.Proofs.YtechccoongilcaaDoor
/- The program's package lex: a script in pieces, and the pieces' tokens, are the document's reading. -/
namespace Go.Proofs.YtechccoongilcaaDoor
open Go
set_option linter.unusedVariables false
set_option linter.unusedSimpArgs false
def piecesF (s : ByteArray) : Nat → Nat → Nat → More → List (Nat × Nat)
  | 0, _, from_, _ => [(from_, s.size)]
  | f + 1, k, from_, m =>
    if k < s.size then
      if m.goes (runeB s k (sizeB s k)) then piecesF s f (k + sizeB s k) from_ m
      else (from_, k) :: piecesF s f (k + sizeB s k) k (More.behind (runeB s k (sizeB s k)))
    else [(from_, s.size)]
def piecesB (s : ByteArray) : List (Nat × Nat) := piecesF s (s.size + 1) 0 0 .white
/-- what a piece is read as. -/
def nothingB (t : ByteArray) : Bool := decide (t.size = 0) || bAt t 0 == 35 || whiteC (bAt t 0)
def pieceTok (s : ByteArray) (p : Nat × Nat) : Option (Tok × Bool) := if nothingB (s.extract p.1 p.2) then none else some (tokR (s.extract p.1 p.2) p.1)
def toksP (s : ByteArray) (ps : List (Nat × Nat)) : List (Tok × Bool) := ps.filterMap (pieceTok s)
def foldT : List (Tok × Bool) → List Tok → Option (List Tok) × Nat
  | [], out => (some out, 0)
  | (x, true) :: r, out => foldT r (out ++ [x])
  | (x, false) :: _, _ => (none, x.at_.toNat)
theorem lexF_fuel {s : ByteArray} : ∀ (f f' : Nat) (c : Bool) (k : Nat) (out : List Tok), s.size ≤ k + f → s.size ≤ k + f' → lexF s f c k out = lexF s f' c k out := by
  intro f
  induction f with
  | zero =>
    intro f' c k out h1 h2
    rw [lexF_end (by omega), lexF_end (by omega)]
  | succ f ih =>
    intro f' c k out h1 h2
    by_cases hk : k < s.size
    · match f', h2 with
      | 0, h2 => omega
      | f' + 1, h2 =>
        rw [lexF, if_pos hk, lexF, if_pos hk]
        by_cases hz : sizeB s k = 0
        · rw [if_pos hz, if_pos hz]
        rw [if_neg hz, if_neg hz]
        cases c
        · simp only [Bool.false_eq_true, if_false]
          rw [ih f' true (k + 1) out (by omega) (by omega), ih f' false (k + 1) out (by omega) (by omega), ih f' false (k + sizeB s k) _ (by omega) (by omega)]
          rcases hd : digB s k with _ | _
          · rfl
          · have := numB_gt hd
            rw [ih f' false (numB s k).2 _ (by omega) (by omega)]
        · simp only [if_true]
          rw [ih f' _ (k + sizeB s k) out (by omega) (by omega)]
    · rw [lexF_end hk, lexF_end hk]
/-- the reading from k on; with a comment open. -/
def lexK (s : ByteArray) (c : Bool) (k : Nat) (out : List Tok) : Option (List Tok) × Nat := lexF s (s.size + 1) c k out
theorem lexK_end {s : ByteArray} {c : Bool} {k : Nat} {out : List Tok} (h : ¬ k < s.size) : lexK s c k out = (some out, 0) := lexF_end h
theorem lexK_open {s : ByteArray} {k : Nat} {c : Bool} {out : List Tok} (h : k < s.size) : lexK s c k out =
      if sizeB s k = 0 then (none, k)
      else if c then lexK s (decide (bAt s k ≠ 10)) (k + sizeB s k) out
      else if bAt s k = 35 then lexK s true (k + 1) out
      else if bAt s k = 32 ∨ bAt s k = 9 ∨ bAt s k = 10 then lexK s false (k + 1) out
      else if digB s k then
        if 1099511627776 < (numB s k).1 ∨ (bAt s k = 48 ∧ k + 1 < (numB s k).2) then (none, k) else lexK s false (numB s k).2 (out ++ [⟨2, 0, (numB s k).1, k⟩])
      else lexK s false (k + sizeB s k) (out ++ [⟨1, runeB s k (sizeB s k), 0, k⟩]) := by
  unfold lexK
  rw [lexF, if_pos h]
  by_cases hz : sizeB s k = 0
  · rw [if_pos hz, if_pos hz]
  rw [if_neg hz, if_neg hz]
  have ih := fun (c : Bool) (k' : Nat) (o : List Tok) (hk : k < k') => lexF_fuel (s := s) s.size (s.size + 1) c k' o (by omega) (by omega)
  cases c
  · simp only [Bool.false_eq_true, if_false]
    rw [ih true (k + 1) out (by omega), ih false (k + 1) out (by omega), ih false (k + sizeB s k) _ (by omega)]
    rcases hd : digB s k with _ | _
    · rfl
    · have := numB_gt hd
      rw [ih false (numB s k).2 _ (by omega)]
  · simp only [if_true]
    rw [ih _ (k + sizeB s k) out (by omega)]
/-- what has been read, and what is to be read on, in a piece that began at from_ and has gone to k. -/
def stay (s : ByteArray) : More → Nat → Nat → List Tok → Option (List Tok) × Nat
  | .white, _, k, out => lexK s false k out
  | .hash, _, k, out => lexK s true k out
  | .digit, from_, _, out => lexK s false from_ out
  | .sign, from_, k, out => lexK s false k (out ++ [⟨1, runeB s from_ (sizeB s from_), 0, from_⟩])
/-- what is known of a piece that began at from_ and has gone to k. -/
def Piece (s : ByteArray) : More → Nat → Nat → Prop
  | .white, from_, k => from_ ≤ k ∧ (from_ < k → whiteC (bAt s from_) = true)
  | .hash, from_, k => from_ < k ∧ bAt s from_ = 35
  | .digit, from_, k => from_ < k ∧ (∀ i, from_ ≤ i → i < k → digB s i = true)
  | .sign, from_, k => k = from_ + sizeB s from_ ∧ sizeB s from_ ≠ 0 ∧ bAt s from_ ≠ 35 ∧ whiteC (runeB s from_ (sizeB s from_)) = false ∧ digitC (runeB s from_ (sizeB s from_)) = false
theorem whiteC_big {c : Int} (h : 128 ≤ c) : whiteC c = false := by unfold whiteC; simp; omega
theorem digitC_big {c : Int} (h : 128 ≤ c) : digitC c = false := by unfold digitC; simp; omega
theorem whiteC_iff {c : Int} : whiteC c = true ↔ c = 32 ∨ c = 9 ∨ c = 10 := by unfold whiteC; simp; omega
theorem digB_digitC {s : ByteArray} {k : Nat} (hk : k < s.size) : digB s k = digitC (bAt s k) := by unfold digB digitC; rw [inB_at hk]
/-- a piece begins: what the first character tells. -/
theorem begin_piece {s : ByteArray} {k : Nat} {out : List Tok} (hk : k < s.size) (hz : sizeB s k ≠ 0) :
    Piece s (More.behind (runeB s k (sizeB s k))) k (k + sizeB s k) ∧ stay s (More.behind (runeB s k (sizeB s k))) k (k + sizeB s k) out = lexK s false k out := by
  rw [lexK_open hk, if_neg hz]
  simp only [Bool.false_eq_true, if_false]
  unfold More.behind
  rcases rune_byte hz with ⟨h1, h2, h3⟩ | ⟨h1, h2, h3⟩
  · rw [h3, h2]
    rcases hw : whiteC (bAt s k) with _ | _
    · have hnw : ¬ (bAt s k = 32 ∨ bAt s k = 9 ∨ bAt s k = 10) := by rw [← whiteC_iff, hw]; simp
      rw [if_neg hnw]
      rcases hd : digitC (bAt s k) with _ | _
      · rw [digB_digitC hk, hd]
        simp only [Bool.false_eq_true, if_false]
        by_cases h35 : bAt s k = 35
        · rw [if_pos h35, if_pos h35]
          exact ⟨⟨by omega, h35⟩, rfl⟩
        · rw [if_neg h35, if_neg h35]
          refine ⟨⟨by rw [h2], hz, h35, by rw [h3]; exact hw, by rw [h3]; exact hd⟩, ?_⟩
          show lexK s false (k + 1) (out ++ [⟨1, runeB s k (sizeB s k), 0, k⟩]) = _
          rw [h3]
      · have h35 : bAt s k ≠ 35 := by unfold digitC at hd; simp at hd; omega
        simp only [Bool.false_eq_true, if_false, if_true]
        rw [if_neg h35, digB_digitC hk, hd]
        simp only [if_true]
        refine ⟨⟨by omega, fun i hi1 hi2 => ?_⟩, ?_⟩
        · obtain rfl : i = k := by omega
          rw [digB_digitC hk, hd]
        · show lexK s false k out = _
          rw [lexK_open hk, if_neg hz]
          simp only [Bool.false_eq_true, if_false]
          rw [if_neg h35, if_neg hnw, digB_digitC hk, hd]
          simp only [if_true]
    · have hyw := whiteC_iff.1 hw
      simp only [if_true]
      rw [if_neg (by omega), if_pos hyw]
      exact ⟨⟨by omega, fun _ => hw⟩, rfl⟩
  · rw [whiteC_big h3, digitC_big h3]
    simp only [Bool.false_eq_true, if_false]
    rw [if_neg (show ¬ runeB s k (sizeB s k) = 35 by omega), if_neg (by omega), if_neg (by omega), digB_digitC hk, digitC_big h1]
    simp only [Bool.false_eq_true, if_false]
    exact ⟨⟨rfl, hz, by omega, whiteC_big h3, digitC_big h3⟩, rfl⟩
end Go.Proofs.YtechccoongilcaaDoor
/- The program's package lex: the pieces' tokens are the document's reading; a text that is not well-formed. -/
namespace Go.Proofs.YtechccoongilcaaDoor
open Go
set_option linter.unusedVariables false
set_option linter.unusedSimpArgs false
theorem size_one {s : ByteArray} {k : Nat} (h : inB s k 0 127 = true) : sizeB s k = 1 := by unfold sizeB; rw [if_pos h]
theorem size_dig {s : ByteArray} {k : Nat} (h : digB s k = true) : sizeB s k = 1 := by
  have hl := inB_lt h
  have q := inB_at hl 48 57
  rw [show inB s k 48 57 = true from h] at q
  have q2 := q.symm
  simp only [Bool.and_eq_true, decide_eq_true_eq] at q2
  exact size_one (inB_yes hl (by omega) (by omega))
/-- the piece goes on. -/
theorem goes_on {s : ByteArray} {m : More} {from_ k : Nat} {out : List Tok} (hp : Piece s m from_ k) (hk : k < s.size) (hz : sizeB s k ≠ 0) (hg : m.goes (runeB s k (sizeB s k)) = true) :
    Piece s m from_ (k + sizeB s k) ∧ stay s m from_ (k + sizeB s k) out = stay s m from_ k out := by
  rcases rune_byte hz with ⟨h1, h2, h3⟩ | ⟨h1, h2, h3⟩
  · rw [h3] at hg
    rw [h2]
    cases m with
    | white =>
      obtain ⟨p1, p2⟩ := hp
      have hw := whiteC_iff.1 hg
      refine ⟨⟨by omega, fun _ => ?_⟩, ?_⟩
      · by_cases q : from_ < k
        · exact p2 q
        · obtain rfl : from_ = k := by omega
          exact hg
      · show lexK s false (k + 1) out = lexK s false k out
        rw [lexK_open (k := k) hk, if_neg hz]
        simp only [Bool.false_eq_true, if_false]
        rw [if_neg (by omega), if_pos hw]
    | hash =>
      obtain ⟨p1, p2⟩ := hp
      refine ⟨⟨by omega, p2⟩, ?_⟩
      show lexK s true (k + 1) out = lexK s true k out
      have h10 : bAt s k ≠ 10 := by simpa [More.goes] using hg
      rw [lexK_open (k := k) hk, if_neg hz, h2]
      simp only [if_true]
      rw [decide_eq_true h10]
    | digit =>
      obtain ⟨p1, p2⟩ := hp
      refine ⟨⟨by omega, fun i hi1 hi2 => ?_⟩, rfl⟩
      by_cases q : i < k
      · exact p2 i hi1 q
      · obtain rfl : i = k := by omega
        rw [digB_digitC hk]; exact hg
    | sign => exact absurd hg (by simp [More.goes])
  · cases m with
    | white => rw [show More.goes .white (runeB s k (sizeB s k)) = whiteC (runeB s k (sizeB s k)) from rfl, whiteC_big h3] at hg; exact absurd hg (by simp)
    | hash =>
      obtain ⟨p1, p2⟩ := hp
      refine ⟨⟨by omega, p2⟩, ?_⟩
      show lexK s true (k + sizeB s k) out = lexK s true k out
      rw [lexK_open (k := k) hk, if_neg hz]
      simp only [if_true]
      rw [decide_eq_true (show bAt s k ≠ 10 by omega)]
    | digit => rw [show More.goes .digit (runeB s k (sizeB s k)) = digitC (runeB s k (sizeB s k)) from rfl, digitC_big h3] at hg; exact absurd hg (by simp)
    | sign => exact absurd hg (by simp [More.goes])
/-- what a piece owes the function that makes its token. -/
def PieceOk (s : ByteArray) (p : Nat × Nat) : Prop := p.1 ≤ p.2 ∧ p.2 ≤ s.size ∧ (nothingB (s.extract p.1 p.2) = false →
  0 < (s.extract p.1 p.2).size ∧ sizeB (s.extract p.1 p.2) 0 ≠ 0 ∧ (digitC (runeB (s.extract p.1 p.2) 0 (sizeB (s.extract p.1 p.2) 0)) = true → ∀ i, i < (s.extract p.1 p.2).size → digB (s.extract p.1 p.2) i = true))
def endsAs (s : ByteArray) (k : Nat) (out : List Tok) (v : Option (List Tok) × Nat) : Option (Tok × Bool) → Prop
  | none => v = lexK s false k out
  | some (x, true) => v = lexK s false k (out ++ [x])
  | some (x, false) => v = (none, x.at_.toNat)
/-- the piece ends. -/
theorem end_piece {s : ByteArray} {m : More} {from_ k : Nat} (hp : Piece s m from_ k) (hk : k ≤ s.size) (hz : k < s.size → sizeB s k ≠ 0 ∧ m.goes (runeB s k (sizeB s k)) = false) :
    PieceOk s (from_, k) ∧ ∀ out, endsAs s k out (stay s m from_ k out) (pieceTok s (from_, k)) := by
  have hle : from_ ≤ k := by
    cases m with
    | white => exact hp.1
    | hash => have := hp.1; omega
    | digit => have := hp.1; omega
    | sign => have := hp.1; omega
  obtain ⟨t, ht⟩ : ∃ t, s.extract from_ k = t := ⟨_, rfl⟩
  have hx : Ext s t from_ := ht ▸ ext_extract hle hk
  have hts : t.size = k - from_ := by rw [← ht, ByteArray.size_extract]; omega
  have hb0 : from_ < k → bAt t 0 = bAt s from_ := fun q => by have := hx.at_ 0 (by omega); rwa [Nat.add_zero] at this
  unfold PieceOk pieceTok
  simp only [ht]
  cases m with
  | white =>
    have hn : nothingB t = true := by
      unfold nothingB
      by_cases q : from_ < k
      · rw [hb0 q, hp.2 q]; simp
      · rw [decide_eq_true (by omega)]; simp
    rw [hn]
    exact ⟨⟨hle, hk, fun q => absurd q (by simp)⟩, fun out => rfl⟩
  | hash =>
    have hn : nothingB t = true := by
      unfold nothingB
      rw [hb0 hp.1, hp.2]; simp
    rw [hn]
    refine ⟨⟨hle, hk, fun q => absurd q (by simp)⟩, fun out => ?_⟩
    show lexK s true k out = lexK s false k out
    by_cases hlt : k < s.size
    · obtain ⟨hz1, hz2⟩ := hz hlt
      rcases rune_byte hz1 with ⟨h1, h2, h3⟩ | ⟨h1, h2, h3⟩
      · rw [h3] at hz2
        have h10 : bAt s k = 10 := by simpa [More.goes] using hz2
        rw [lexK_open hlt, if_neg hz1, lexK_open hlt, if_neg hz1, h2]
        simp [h10]
      · have h10 : runeB s k (sizeB s k) = 10 := by simpa [More.goes] using hz2
        omega
    · rw [lexK_end hlt, lexK_end hlt]
  | sign =>
    obtain ⟨p1, p2, p3, p4, p5⟩ := hp
    have hst : sizeB t 0 = sizeB s from_ := by
      have := hx.sizeB (k := 0) (by rw [Nat.add_zero]; exact p2) (by rw [Nat.add_zero]; omega)
      rwa [Nat.add_zero] at this
    have hru : runeB t 0 (sizeB t 0) = runeB s from_ (sizeB s from_) := by
      have := hx.runeB (k := 0) (n := sizeB s from_) (by omega) (by omega)
      rw [Nat.add_zero] at this
      rw [hst, this]
    have hn : nothingB t = false := by
      have hw : whiteC (bAt s from_) = false := by
        rcases rune_byte p2 with ⟨h1, h2, h3⟩ | ⟨h1, h2, h3⟩
        · rw [← h3]; exact p4
        · exact whiteC_big h1
      unfold nothingB
      rw [hb0 (by omega), hw, decide_eq_false (by omega)]
      simp [p3]
    rw [hn, hru, hst]
    refine ⟨⟨hle, hk, fun _ => ⟨by omega, p2, fun q => absurd q (by rw [p5]; simp)⟩⟩, fun out => ?_⟩
    unfold tokR
    rw [hru, p5]
    rfl
  | digit =>
    obtain ⟨p1, p2⟩ := hp
    have hd0 := p2 from_ (by omega) (by omega)
    have hs1 := size_dig hd0
    have hl0 := inB_lt hd0
    have h48 : 48 ≤ bAt s from_ ∧ bAt s from_ ≤ 57 := by
      rw [digB_digitC hl0] at hd0
      unfold digitC at hd0; simp at hd0; omega
    have hst : sizeB t 0 = 1 := by
      have := hx.sizeB (k := 0) (by rw [Nat.add_zero]; omega) (by rw [Nat.add_zero]; omega)
      rw [Nat.add_zero] at this
      omega
    have hru : runeB t 0 (sizeB t 0) = bAt s from_ := by rw [hst]; show bAt t 0 = _; exact hb0 p1
    have hdc : digitC (bAt s from_) = true := by unfold digitC; simp; omega
    have hall : ∀ i, i < t.size → digB t i = true := fun i hi => by rw [hx.digB hi]; exact p2 _ (by omega) (by omega)
    have hn : nothingB t = false := by
      unfold nothingB
      rw [hb0 p1, decide_eq_false (by omega)]
      have : whiteC (bAt s from_) = false := by unfold whiteC; simp; omega
      rw [this]; simp; omega
    have hkk : from_ + t.size = k := by omega
    have hend : digB s (from_ + t.size) = false := by
      rw [hkk]
      by_cases hlt : k < s.size
      · obtain ⟨hz1, hz2⟩ := hz hlt
        rw [digB_digitC hlt]
        rcases rune_byte hz1 with ⟨h1, h2, h3⟩ | ⟨h1, h2, h3⟩
        · rw [← h3]; exact hz2
        · exact digitC_big h1
      · exact inB_ge hlt _ _
    have hnum := hx.numB hend (k := 0) (by omega)
    have h2 : (numB t 0).2 = t.size := numF_all hall _ _ 0 (by omega) (by omega)
    rw [Nat.add_zero, h2, hkk] at hnum
    rw [hn, hru, hst]
    refine ⟨⟨hle, hk, fun _ => ⟨by omega, by omega, fun _ => hall⟩⟩, fun out => ?_⟩
    show endsAs s k out (lexK s false from_ out) (some (tokR t from_))
    unfold tokR
    rw [hru, hdc, if_pos rfl, hb0 p1, lexK_open hl0, if_neg (by omega)]
    simp only [Bool.false_eq_true, if_false]
    rw [if_neg (by omega), if_neg (by omega), if_pos hd0, hnum]
    by_cases hbad : 1099511627776 < (numB t 0).1 ∨ (bAt s from_ = 48 ∧ 1 < t.size)
    · rw [if_pos hbad, if_pos (by simp only; omega)]
      show ((none, from_) : Option (List Tok) × Nat) = (none, ((from_ : Nat) : Int).toNat)
      rfl
    · rw [if_neg hbad, if_neg (by simp only; omega)]
      rfl
theorem foldT_end {s : ByteArray} {k : Nat} {out : List Tok} {v : Option (List Tok) × Nat} {p : Nat × Nat} {ps : List (Nat × Nat)} (h : endsAs s k out v (pieceTok s p))
    (hr : ∀ out, foldT (toksP s ps) out = lexK s false k out) : foldT (toksP s (p :: ps)) out = v := by
  unfold toksP at hr ⊢
  rw [List.filterMap_cons]
  rcases hq : pieceTok s p with _ | ⟨x, _ | _⟩
  · rw [hq] at h; rw [show v = _ from h]; exact hr out
  · rw [hq] at h; exact h.symm
  · rw [hq] at h; rw [show v = _ from h]; exact hr (out ++ [x])
/-- all pieces' tokens, one after another, are the document's reading. -/
theorem pieces_fold {s : ByteArray} : ∀ (f k from_ : Nat) (m : More) (out : List Tok), k ≤ s.size → s.size ≤ k + f → textF s f k = none → Piece s m from_ k →
    (∀ p ∈ piecesF s f k from_ m, PieceOk s p) ∧ foldT (toksP s (piecesF s f k from_ m)) out = stay s m from_ k out := by
  have last : ∀ (from_ : Nat) (m : More) (out : List Tok), Piece s m from_ s.size → (∀ p ∈ [(from_, s.size)], PieceOk s p) ∧ foldT (toksP s [(from_, s.size)]) out = stay s m from_ s.size out := by
    intro from_ m out hp
    obtain ⟨h1, h2⟩ := end_piece hp (Nat.le_refl _) (fun q => absurd q (by omega))
    refine ⟨fun p hp => by simp at hp; subst hp; exact h1, ?_⟩
    refine foldT_end (h2 out) (fun o => ?_)
    rw [lexK_end (by omega)]; rfl
  intro f
  induction f with
  | zero =>
    intro k from_ m out hk hf ht hp
    obtain rfl : k = s.size := by omega
    exact last from_ m out hp
  | succ f ih =>
    intro k from_ m out hk hf ht hp
    by_cases hlt : k < s.size
    · rw [textF, if_pos hlt] at ht
      by_cases hz : sizeB s k = 0
      · rw [if_pos hz] at ht; exact absurd ht (by simp)
      rw [if_neg hz] at ht
      have hin := sizeB_in (s := s) (k := k) (by omega)
      rw [piecesF, if_pos hlt]
      rcases hg : m.goes (runeB s k (sizeB s k)) with _ | _
      · simp only [Bool.false_eq_true, if_false]
        obtain ⟨h1, h2⟩ := end_piece hp hk (fun _ => ⟨hz, hg⟩)
        obtain ⟨b1, _⟩ := begin_piece (out := out) hlt hz
        have i1 := (ih (k + sizeB s k) k _ out hin (by omega) ht b1).1
        refine ⟨fun p hp => ?_, foldT_end (h2 out) (fun o => ?_)⟩
        · rcases List.mem_cons.1 hp with rfl | hp
          · exact h1
          · exact i1 p hp
        · rw [(ih (k + sizeB s k) k _ o hin (by omega) ht b1).2, (begin_piece (out := o) hlt hz).2]
      · simp only [if_true]
        obtain ⟨g1, g2⟩ := goes_on (out := out) hp hlt hz hg
        rw [← g2]
        exact ih (k + sizeB s k) from_ m out hin (by omega) ht g1
    · obtain rfl : k = s.size := by omega
      rw [piecesF, if_neg hlt]
      exact last from_ m out hp
theorem piecesF_len {s : ByteArray} : ∀ (f k from_ : Nat) (m : More), (piecesF s f k from_ m).length ≤ f + 1
  | 0, k, from_, m => by simp [piecesF]
  | f + 1, k, from_, m => by
    rw [piecesF]
    split
    · split
      · have := piecesF_len (s := s) f (k + sizeB s k) from_ m; omega
      · have := piecesF_len (s := s) f (k + sizeB s k) k (More.behind (runeB s k (sizeB s k))); simp; omega
    · simp
theorem pieces_whole {s : ByteArray} (h : textB s = none) : (∀ p ∈ piecesB s, PieceOk s p) ∧ foldT (toksP s (piecesB s)) [] = lexB s :=
  pieces_fold (s.size + 1) 0 0 .white [] (by omega) (by omega) h ⟨by omega, fun q => absurd q (by omega)⟩
theorem pieces_len (s : ByteArray) : (piecesB s).length ≤ s.size + 2 := piecesF_len _ _ _ _

/-! ### a text that is not well-formed -/
def Bad (s : ByteArray) (k p : Nat) : Prop := ∃ f, s.size ≤ k + f ∧ textF s f k = some p
theorem Bad.lt {s : ByteArray} {k p : Nat} (h : Bad s k p) : k ≤ p ∧ p < s.size ∧ sizeB s p = 0 := by
  obtain ⟨f, hf, ht⟩ := h
  induction f generalizing k with
  | zero => exact absurd ht (by simp [textF])
  | succ f ih =>
    rw [textF] at ht
    by_cases hk : k < s.size
    · rw [if_pos hk] at ht
      by_cases hz : sizeB s k = 0
      · rw [if_pos hz] at ht
        injection ht with ht
        subst ht
        exact ⟨Nat.le_refl _, hk, hz⟩
      · rw [if_neg hz] at ht
        have := ih (by omega) ht
        exact ⟨by omega, this.2⟩
    · rw [if_neg hk] at ht; exact absurd ht (by simp)
theorem Bad.step {s : ByteArray} {k p : Nat} (h : Bad s k p) (hk : k < p) : sizeB s k ≠ 0 ∧ Bad s (k + sizeB s k) p := by
  have hl := h.lt
  obtain ⟨f, hf, ht⟩ := h
  cases f with
  | zero => exact absurd ht (by simp [textF])
  | succ f =>
    rw [textF, if_pos (by omega)] at ht
    by_cases hz : sizeB s k = 0
    · rw [if_pos hz] at ht
      injection ht with ht
      omega
    · rw [if_neg hz] at ht
      exact ⟨hz, f, by omega, ht⟩
theorem Bad.digits {s : ByteArray} {p : Nat} : ∀ (f : Nat) (n : Int) (k : Nat), Bad s k p → Bad s (numF s f n k).2 p
  | 0, n, k, h => h
  | f + 1, n, k, h => by
    rw [numF]
    rcases hd : digB s k with _ | _
    · exact h
    · simp only [if_true]
      have hs := size_dig hd
      have hl := h.lt
      have hne : k ≠ p := fun e => by subst e; omega
      have := (h.step (by omega)).2
      rw [hs] at this
      exact Bad.digits f _ (k + 1) this
def headThen (p : Nat) : Option (List Tok) × Nat → Option (List Tok) × Nat
  | (none, q) => (none, q)
  | (some _, _) => (none, p)
theorem lex_head {s t : ByteArray} {p : Nat} (hx : Ext s t 0) (hts : t.size = p) : ∀ (n k : Nat) (c : Bool) (out : List Tok), p - k = n → Bad s k p → lexK s c k out = headThen p (lexK t c k out) := by
  intro n
  induction n using Nat.strongRecOn with
  | ind n ih =>
    intro k c out hn hb
    obtain ⟨l1, l2, l3⟩ := hb.lt
    by_cases hk : k < p
    · obtain ⟨hz, hb2⟩ := hb.step hk
      have l4 := hb2.lt.1
      have e1 : sizeB t k = sizeB s k := by have := hx.sizeB (k := k) (by rw [Nat.zero_add]; exact hz) (by rw [Nat.zero_add]; omega); rwa [Nat.zero_add] at this
      have e2 : bAt t k = bAt s k := by have := hx.at_ k (by omega); rwa [Nat.zero_add] at this
      have e3 : runeB t k (sizeB s k) = runeB s k (sizeB s k) := by have := hx.runeB (k := k) (n := sizeB s k) (by omega) (by omega); rwa [Nat.zero_add] at this
      have e4 : digB t k = digB s k := by have := hx.digB (k := k) (by omega); rwa [Nat.zero_add] at this
      have hend : digB s (0 + t.size) = false := by
        rw [Nat.zero_add, hts]
        rcases hd : digB s p with _ | _
        · rfl
        · have := size_dig hd; omega
      have e5 : numB s k = numB t k := by have := hx.numB hend (k := k) (by omega); rw [Nat.zero_add, Nat.zero_add] at this; exact this
      rw [lexK_open (show k < s.size by omega), lexK_open (show k < t.size by omega), e1, e2, e3, e4, e5, if_neg hz, if_neg hz]
      cases c
      · simp only [Bool.false_eq_true, if_false]
        by_cases h35 : bAt s k = 35
        · rw [if_pos h35, if_pos h35]
          have h1 : sizeB s k = 1 := size_one (inB_yes (by omega) (by omega) (by omega))
          rw [h1] at hb2
          exact ih (p - (k + 1)) (by omega) _ _ _ rfl hb2
        rw [if_neg h35, if_neg h35]
        by_cases hw : bAt s k = 32 ∨ bAt s k = 9 ∨ bAt s k = 10
        · rw [if_pos hw, if_pos hw]
          have h1 : sizeB s k = 1 := size_one (inB_yes (by omega) (by omega) (by omega))
          rw [h1] at hb2
          exact ih (p - (k + 1)) (by omega) _ _ _ rfl hb2
        rw [if_neg hw, if_neg hw]
        rcases hd : digB s k with _ | _
        · simp only [Bool.false_eq_true, if_false]
          exact ih (p - (k + sizeB s k)) (by omega) _ _ _ rfl hb2
        · simp only [if_true]
          have hb3 : Bad s (numB s k).2 p := Bad.digits _ _ _ hb
          have hgt := numB_gt hd
          rw [e5] at hb3 hgt
          by_cases hbad : 1099511627776 < (numB t k).1 ∨ (bAt s k = 48 ∧ k + 1 < (numB t k).2)
          · rw [if_pos hbad, if_pos hbad]; rfl
          · rw [if_neg hbad, if_neg hbad]
            exact ih (p - (numB t k).2) (by omega) _ _ _ rfl hb3
      · simp only [if_true]
        exact ih (p - (k + sizeB s k)) (by omega) _ _ _ rfl hb2
    · obtain rfl : k = p := by omega
      rw [lexK_open l2, if_pos l3, lexK_end (show ¬ k < t.size by omega)]
      rfl
theorem text_head {s t : ByteArray} {p : Nat} (hx : Ext s t 0) (hts : t.size = p) : ∀ (f k : Nat), t.size ≤ k + f → Bad s k p → textF t f k = none := by
  intro f
  induction f with
  | zero => intro k _ _; rfl
  | succ f ih =>
    intro k hf hb
    obtain ⟨l1, l2, l3⟩ := hb.lt
    rw [textF]
    by_cases hk : k < t.size
    · obtain ⟨hz, hb2⟩ := hb.step (by omega)
      have l4 := hb2.lt.1
      have e1 : sizeB t k = sizeB s k := by have := hx.sizeB (k := k) (by rw [Nat.zero_add]; exact hz) (by rw [Nat.zero_add]; omega); rwa [Nat.zero_add] at this
      rw [if_pos hk, e1, if_neg hz]
      exact ih _ (by omega) hb2
    · rw [if_neg hk]
/-- a text that is not well-formed is read up to there. -/
theorem lex_part {s : ByteArray} {p : Nat} (h : textB s = some p) : p < s.size ∧ textB (s.extract 0 p) = none ∧ lexB s = headThen p (lexB (s.extract 0 p)) := by
  have hb : Bad s 0 p := ⟨s.size + 1, by omega, h⟩
  have hl := hb.lt
  have hx : Ext s (s.extract 0 p) 0 := ext_extract (Nat.zero_le _) (by omega)
  have hts : (s.extract 0 p).size = p := by rw [ByteArray.size_extract]; omega
  exact ⟨hl.2.1, text_head hx hts _ 0 (by omega) hb, lex_head hx hts _ 0 false [] rfl hb⟩
end Go.Proofs.YtechccoongilcaaDoor
/- The document's answers for package lex: the character that stands there; whether a text is well-formed. -/
namespace Go.Proofs.YtechccoongilcaaDoor
open Go.RowKit
set_option linter.unusedVariables false
set_option linter.unusedSimpArgs false
theorem ret_i32 {a b : Int} (h : a = b) : Ending.returned (.int .i32 a) = Ending.returned (.int .i32 b) := by rw [h]
theorem size_to {s : ByteArray} {k n : Nat} (hn : sizeB s k = n) (w : World) (hk : k ≤ 800000) (hs : s.size ≤ 800000) : Calls Tryd.prog 44 #[.string s, .int .i64 k] w fun e w' => e = .returned (.int .i64 (n : Int)) ∧ w = w' := by
  subst hn; exact size_any s k w hk hs
set_option maxRecDepth 100000 in
theorem rune_any (s : ByteArray) (k n : Nat) (w : World) (h1 : 1 ≤ n) (h4 : n ≤ 4) (hin : k + n ≤ s.size) (hs : s.size ≤ 800000) : Calls Tryd.prog 46 #[.string s, .int .i64 k, .int .i64 n] w fun e w' => e = .returned (.int .i32 (runeB s k n)) ∧ Below w.heap.size w w' := by
  have hk : k < s.size := by omega
  have hb := bAt_get s k hk
  have hbd := bAt_bd s k
  have hk2 : (k : Int) < (s.size : Int) := by omega
  by_cases hn1 : n = 1
  · subst hn1
    have HR := Lib.hid (show runeB s k 1 = bAt s k from if_pos rfl)
    have o1 : IntKind.i32.wrap (bAt s k) = bAt s k := by rw [IntKind.wrap_i32]; omega
    go_enter Tryd.func46, Tryd.ntmps46
    go_wp2
    go_ret
    exact ⟨ret_i32 HR.out.symm, Below.refl _ _⟩
  · have hnn : ((n : Int) == 1) = false := by simp; omega
    have HR := Lib.hid (show runeB s k n = runeP s k (firstB n) n from if_neg hn1)
    have hcell : (#[Value.int .i64 0, .int .i64 0, .int .i64 192, .int .i64 224, .int .i64 240] : Array Value)[n]? = some (.int .i64 (firstB n)) := by
      rcases (show n = 2 ∨ n = 3 ∨ n = 4 by omega) with rfl | rfl | rfl <;> rfl
    have hfb : 0 ≤ firstB n ∧ firstB n ≤ 240 := by unfold firstB; split <;> (try split) <;> (try split) <;> omega
    have hBd := fun j hj => runeP_bd s k (base := firstB n) (by omega) j hj
    have HBd := Lib.hid hBd
    have hfirst : runeP s k (firstB n) 1 = bAt s k - firstB n := rfl
    have HP1 := Lib.hid hfirst
    clear hfirst
    have hBx : Box (w.alloc (.cells #[.int .i64 0, .int .i64 0, .int .i64 192, .int .i64 224, .int .i64 240] 3)) w.heap.size [.int .i64 0, .int .i64 0, .int .i64 192, .int .i64 224, .int .i64 240] := Box.new _ _ _
    have hc := hBx.2.2 n (.int .i64 (firstB n)) (by simpa using hcell)
    clear hBd hcell
    go_enter Tryd.func46, Tryd.ntmps46
    go_wp2_with fail
    have hB0 : Below w.heap.size w (w.alloc (.cells #[.int .i64 0, .int .i64 0, .int .i64 192, .int .i64 224, .int .i64 240] 3)) := by go_grown
    clear hBx
    generalize w.alloc (.cells #[.int .i64 0, .int .i64 0, .int .i64 192, .int .i64 224, .int .i64 240] 3) = W at hc hB0 ⊢
    have HB0 := Lib.hid hB0
    have hn5 : (n : Int) < 5 := by omega
    have hn0 : (0 : Int) ≤ (n : Int) := by omega
    clear hB0
    go_quiet (fail)
    clear hb
    go_wp2_with fail
    go_loopw [8, 9] (fun v i wr => ∃ j m : Nat, 1 ≤ j ∧ j ≤ n ∧ i = .int .i64 j ∧ v = .int .i64 (runeP s k (firstB n) j) ∧ wr = W.drewN m) (fun _ i _ => n - (intOf i).toNat)
    case atStart => exact ⟨1, _, by omega, by omega, rfl, by rw [HP1.out], rfl⟩
    case round =>
      obtain ⟨j, m, hj1, hj, rfl, rfl, rfl⟩ := hrel
      obtain ⟨hp1, hp2⟩ := HBd.out j (by omega)
      by_cases hlt : j < n
      · have hbj := bAt_get s (k + j) (by omega)
        have hbd2 := bAt_bd s (k + j)
        have HSu := Lib.hid (runeP_succ s k (firstB n) hj1)
        have hkj : (k : Int) + (j : Int) < (s.size : Int) := by omega
        have htn : ((k : Int) + (j : Int)).toNat = k + j := by omega
        go_wp2_with fail
        go_roundw
        case rel => exact ⟨j + 1, _, by omega, by omega, by go_num, by rw [HSu.out], rfl⟩
        case measure => simp [intOf]; omega
      · obtain rfl : j = n := by omega
        have o1 : IntKind.i32.wrap (runeP s k (firstB j) j) = runeP s k (firstB j) j := by rw [IntKind.wrap_i32]; omega
        go_wp2_with fail
        go_ret
        exact ⟨ret_i32 HR.out.symm, below_drewN HB0.out m⟩
end Go.Proofs.YtechccoongilcaaDoor
/- What a script is read as; what a reader of scripts answers. -/
namespace Go.Proofs.YtechccoongilcaaDoor
open Go.RowKit
set_option linter.unusedVariables false
set_option linter.unusedSimpArgs false
/-- what a script is read as, by the document's words. -/
def ReadB (s : ByteArray) (r : Option (List Nd) × Nat) : Prop := (∃ k, lexB s = (none, k) ∧ r = (none, k)) ∨ (∃ toks q, lexB s = (some toks, q) ∧ Read toks s.size r)
theorem ReadB.det {s : ByteArray} {r r' : Option (List Nd) × Nat} (h : ReadB s r) (h' : ReadB s r') : r = r' := by
  rcases h with ⟨k, h1, rfl⟩ | ⟨t, q, h1, h2⟩ <;> rcases h' with ⟨k', h1', rfl⟩ | ⟨t', q', h1', h2'⟩ <;> rw [h1] at h1'
  · injection h1' with _ h; rw [h]
  · injection h1' with h _; cases h
  · injection h1' with h _; cases h
  · injection h1' with h _; injection h with h; subst h; exact h2.det h2'
/-- what Of answers. -/
def OfPost (w : World) (s : ByteArray) (e : Ending) (w' : World) : Prop :=
  (∃ x A n c, ReadB s (some x, 0) ∧ e = .returned (.tuple #[.slice A n c, .int .i64 0, .int .i64 0]) ∧ Nds w.heap.size w' A n x ∧ Below w.heap.size w w') ∨
  (∃ k : Nat, ReadB s (none, k) ∧ e = .returned (.tuple #[.slice none 0 0, .int .i64 (k : Int), .int .i64 1]) ∧ Below w.heap.size w w')
end Go.Proofs.YtechccoongilcaaDoor
