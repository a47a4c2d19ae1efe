import Derived.Test.YtechccoongilcaaDoorJD703
import Derived.Test.YtechccoongilcaaDoorJD701
import Derived.Test.YtechccoongilcaaDoorJD702
import Derived.BigRegion
/- The program's package read: a node of the row. (Written by program: tools/drafts/gennode.py.) -/
namespace Go.Proofs.YtechccoongilcaaDoor
open Go.RowKit
set_option linter.unusedVariables false
set_option linter.unusedSimpArgs false
theorem block_as_block (v : Value) (w : World) : (Instr.typeAssert (.iface 81 v) 84 81 true).run Tryd.prog w = .ok (.tuple #[v, .bool true]) w := by kernel_rfl
theorem block_as_text (v : Value) (w : World) : (Instr.typeAssert (.iface 81 v) 84 111 true).run Tryd.prog w = .ok (.tuple #[.agg #[.int .i64 0, .int .i64 0, .slice none 0 0], .bool false]) w := by kernel_rfl
theorem block_as_box (v : Value) (w : World) : (Instr.typeAssert (.iface 81 v) 84 114 true).run Tryd.prog w = .ok (.tuple #[.agg #[.int .i64 0, .int .i64 0], .bool false]) w := by kernel_rfl
theorem block_as_float (v : Value) (w : World) : (Instr.typeAssert (.iface 81 v) 84 116 true).run Tryd.prog w = .ok (.tuple #[.agg #[.int .i64 0, .int .i64 0, .int .i64 0], .bool false]) w := by kernel_rfl
theorem text_as_block (v : Value) (w : World) : (Instr.typeAssert (.iface 111 v) 84 81 true).run Tryd.prog w = .ok (.tuple #[.agg (encS12 .none).toArray, .bool false]) w := by kernel_rfl
theorem text_as_text (v : Value) (w : World) : (Instr.typeAssert (.iface 111 v) 84 111 true).run Tryd.prog w = .ok (.tuple #[v, .bool true]) w := by kernel_rfl
theorem text_as_box (v : Value) (w : World) : (Instr.typeAssert (.iface 111 v) 84 114 true).run Tryd.prog w = .ok (.tuple #[.agg #[.int .i64 0, .int .i64 0], .bool false]) w := by kernel_rfl
theorem text_as_float (v : Value) (w : World) : (Instr.typeAssert (.iface 111 v) 84 116 true).run Tryd.prog w = .ok (.tuple #[.agg #[.int .i64 0, .int .i64 0, .int .i64 0], .bool false]) w := by kernel_rfl
theorem box_as_block (v : Value) (w : World) : (Instr.typeAssert (.iface 114 v) 84 81 true).run Tryd.prog w = .ok (.tuple #[.agg (encS12 .none).toArray, .bool false]) w := by kernel_rfl
theorem box_as_text (v : Value) (w : World) : (Instr.typeAssert (.iface 114 v) 84 111 true).run Tryd.prog w = .ok (.tuple #[.agg #[.int .i64 0, .int .i64 0, .slice none 0 0], .bool false]) w := by kernel_rfl
theorem box_as_box (v : Value) (w : World) : (Instr.typeAssert (.iface 114 v) 84 114 true).run Tryd.prog w = .ok (.tuple #[v, .bool true]) w := by kernel_rfl
theorem box_as_float (v : Value) (w : World) : (Instr.typeAssert (.iface 114 v) 84 116 true).run Tryd.prog w = .ok (.tuple #[.agg #[.int .i64 0, .int .i64 0, .int .i64 0], .bool false]) w := by kernel_rfl
theorem float_as_block (v : Value) (w : World) : (Instr.typeAssert (.iface 116 v) 84 81 true).run Tryd.prog w = .ok (.tuple #[.agg (encS12 .none).toArray, .bool false]) w := by kernel_rfl
theorem float_as_text (v : Value) (w : World) : (Instr.typeAssert (.iface 116 v) 84 111 true).run Tryd.prog w = .ok (.tuple #[.agg #[.int .i64 0, .int .i64 0, .slice none 0 0], .bool false]) w := by kernel_rfl
theorem float_as_box (v : Value) (w : World) : (Instr.typeAssert (.iface 116 v) 84 114 true).run Tryd.prog w = .ok (.tuple #[.agg #[.int .i64 0, .int .i64 0], .bool false]) w := by kernel_rfl
theorem float_as_float (v : Value) (w : World) : (Instr.typeAssert (.iface 116 v) 84 116 true).run Tryd.prog w = .ok (.tuple #[v, .bool true]) w := by kernel_rfl
theorem results_cell {P : Program} {fn : Func} {t : Tmp} {ty te : TypeId} (h : fn.results = #[.cell t ty]) {tmps : Array Value} {w : World} {g : Nat} (hp : tmps.getD t undef = .pointer (some ⟨g, 0, none⟩)) {cs : Array Value} {d : TypeDesc} (hg : w.heap[g]? = some (.cells cs te (0, 0)))
    (hu : P.underlying ty = some d) (hd : (match d with | .struct _ | .array _ _ => true | _ => false) = true) (hi : (P.info? ty).map (·.size) = some cs.size) : (results fn tmps).run P w = .ok (.agg cs) w := by
  have hr := run_loadVar_row (P := P) w g te ty cs (0, 0) d hg hu hd hi
  rw [Array.getD_eq_getD_getElem?] at hp
  simp [results, h, hp, hr, asAddr]
theorem encM_all (m : NdM) : ((encM m).toArray.all (·.oneCell')) = true := by
  rw [List.all_toArray]
  exact List.all_eq_true.2 (encM_one m)
def nd0 : NdM := ⟨0, 1, .none, 0, 0, none, 0, 0, 0, 0, 0⟩
set_option maxHeartbeats 4000000 in
set_option maxRecDepth 100000 in
theorem node_box (x y : Int) (w : World) : Calls Tryd.prog 63 #[.iface 114 (.agg #[.int .i64 x, .int .i64 y])] w fun e w' => e = .returned (.agg (encM ⟨3, 1, .none, 0, 0, none, 0, 0, 0, x, y⟩).toArray) ∧ Below w.heap.size w w' := by
  have ha := box_as_block
  have hb := box_as_text
  have hc := box_as_box
  have hd := box_as_float
  simp only [encS12, Sty.none] at ha
  obtain ⟨D, hD⟩ : ∃ D, w.heap.size = D := ⟨_, rfl⟩
  go_enter Tryd.func63, Tryd.ntmps63
  go_wp2_with (refine wpList_store_row rfl 50 (.tmp 3) (.tmp 12) rfl (D + 1) rfl 50 _ (encM nd0).toArray rfl (Blk.new (vs := encM ⟨0, 0, .none, 0, 0, none, 0, 0, 0, 0, 0⟩) _ _ _ (by simp [hD]) _ rfl) (by kernel_rfl) rfl (encM_all _) ?_; intro w5 hw5; have HX5 := Lib.hid (show Blk w5 (D + 1) 50 (encM nd0) by rw [hw5]; exact Blk.row (Blk.new (vs := encM ⟨0, 0, .none, 0, 0, none, 0, 0, 0, 0, 0⟩) _ _ _ (by simp [hD]) _ rfl) _ _ rfl); have HD5 := Lib.hid (show Blk w5 D 50 (encM ⟨0, 0, .none, 0, 0, none, 0, 0, 0, 0, 0⟩) by rw [hw5]; exact ((Blk.new _ _ _ _ hD.symm _ rfl).alloc _).row_other (by omega) _); have HB5 := Lib.hid (show Below D w w5 by rw [hw5]; exact below_setRow (((Below.refl D w).alloc (by omega) _).alloc (by simp; omega) _) (by omega) _); have hs5 : w5.heap.size = D + 2 := (by rw [hw5, setRow_size]; simp [hD]); clear hw5)
  generalize hV : World.alloc _ _ = V
  have HX := Lib.hid (show Blk V (D + 1) 50 (encM nd0) by rw [← hV]; exact (((HX5.out.alloc _).alloc _).alloc _))
  have HD := Lib.hid (show Blk V D 50 (encM ⟨0, 0, .none, 0, 0, none, 0, 0, 0, 0, 0⟩) by rw [← hV]; exact (((HD5.out.alloc _).alloc _).alloc _))
  have HT := Lib.hid (show Box V (D + 4) [.int .i64 x, .int .i64 y] by rw [← hV]; exact box_new _ _ _ _ (by simp [hs5]) _ rfl)
  have HB := Lib.hid (show Below D w V by rw [← hV]; exact (((HB5.out.alloc (by simp [hs5] <;> omega) _).alloc (by simp [hs5] <;> omega) _).alloc (by simp [hs5] <;> omega) _))
  have hsV : V.heap.size = D + 5 := by rw [← hV]; simp [hs5]
  clear hV HX5 HD5 HB5 hs5
  refine wp_region_held (S := fun W' => W'.cell? ⟨D + 4, 0, none⟩ = some (.int .i64 x) ∧ W'.cell? ⟨D + 4, 1, none⟩ = some (.int .i64 y)) (by kernel_rfl) ?_
  show wpAnyH _ _ _ _ _ _ _ _ V.drew
  have HX := Lib.hid HX.out.drew
  have HD := Lib.hid HD.out.drew
  have HT := Lib.hid HT.out.drew
  have HB := Lib.hid HB.out.drew
  have hsV : V.drew.heap.size = D + 5 := hsV
  generalize V.drew = U at HX HD HT HB hsV ⊢
  have h0 : U.cell? ⟨D + 4, 0, none⟩ = some (.int .i64 x) ∧ U.cell? ⟨D + 4, 1, none⟩ = some (.int .i64 y) := ⟨HT.out.2.2 0 _ rfl, HT.out.2.2 1 _ rfl⟩
  have c0 := HX.out.box.2.2 0 _ rfl
  have f0 := HX.out.box.2.1 0
  have c18 := HX.out.box.2.2 18 _ rfl
  have f18 := HX.out.box.2.1 18
  have c19 := HX.out.box.2.2 19 _ rfl
  have f19 := HX.out.box.2.1 19
  refine wpAnyH_take (i := 0) (v := ?_) rfl (by kernel_rfl) (by kernel_rfl) (by kernel_rfl) (fun _ _ _ h => h) (Or.inl ⟨by rfl, ?_⟩) h0 ?_
  rotate_left
  · intro w hSw; (try dsimp only at hSw); obtain ⟨s0, s1⟩ := hSw; go_simp; with_reducible rfl
  try simp only [Act.put, List.setIfInBounds_toArray, List.set_cons_zero, List.set_cons_succ]
  refine wpAnyH_take (i := 1) (v := ?_) rfl (by kernel_rfl) (by kernel_rfl) (by kernel_rfl) (fun _ _ _ h => h) (Or.inl ⟨by rfl, ?_⟩) h0 ?_
  rotate_left
  · intro w hSw; (try dsimp only at hSw); obtain ⟨s0, s1⟩ := hSw; go_simp; with_reducible rfl
  try simp only [Act.put, List.setIfInBounds_toArray, List.set_cons_zero, List.set_cons_succ]
  refine wpAnyH_take (i := 2) (v := ?_) rfl (by kernel_rfl) (by kernel_rfl) (by kernel_rfl) (fun _ _ _ h => h) (Or.inl ⟨by rfl, ?_⟩) h0 ?_
  rotate_left
  · intro w hSw; (try dsimp only at hSw); obtain ⟨s0, s1⟩ := hSw; go_simp; with_reducible rfl
  try simp only [Act.put, List.setIfInBounds_toArray, List.set_cons_zero, List.set_cons_succ]
  refine wpAnyH_take (i := 3) (v := ?_) rfl (by kernel_rfl) (by kernel_rfl) (by kernel_rfl) (fun _ _ _ h => h) (Or.inl ⟨by rfl, ?_⟩) h0 ?_
  rotate_left
  · intro w hSw; (try dsimp only at hSw); obtain ⟨s0, s1⟩ := hSw; go_simp; with_reducible rfl
  try simp only [Act.put, List.setIfInBounds_toArray, List.set_cons_zero, List.set_cons_succ]
  refine wpAnyH_take (i := 4) (v := ?_) rfl (by kernel_rfl) (by kernel_rfl) (by kernel_rfl) (fun _ _ _ h => h) (Or.inl ⟨by rfl, ?_⟩) h0 ?_
  rotate_left
  · intro w hSw; (try dsimp only at hSw); obtain ⟨s0, s1⟩ := hSw; go_simp; with_reducible rfl
  try simp only [Act.put, List.setIfInBounds_toArray, List.set_cons_zero, List.set_cons_succ]
  refine wpAnyH_ready (rs := [5]) (by kernel_rfl) (by simp) ?_
  refine AllReadyH.cons rfl (fun K hK => ?_) AllReadyH.nil
  go_simp
  have ht0 := (HT.out.set_other (m := D + 1) (by omega) 0 (.int .i64 3))
  refine hK.out _ _ ⟨ht0.2.2 0 _ rfl, ht0.2.2 1 _ rfl⟩ (fun h1 => ?_)
  clear hK K
  try simp only [Act.put, List.setIfInBounds_toArray, List.set_cons_zero, List.set_cons_succ]
  refine wpAnyH_take (i := 6) (v := ?_) rfl (by kernel_rfl) (by kernel_rfl) (by kernel_rfl) (fun _ _ _ h => h) (Or.inl ⟨by rfl, ?_⟩) h1 ?_
  rotate_left
  · intro w hSw; (try dsimp only at hSw); obtain ⟨s0, s1⟩ := hSw; go_simp; with_reducible rfl
  try simp only [Act.put, List.setIfInBounds_toArray, List.set_cons_zero, List.set_cons_succ]
  refine wpAnyH_ready (rs := [7]) (by kernel_rfl) (by simp) ?_
  refine AllReadyH.cons rfl (fun K hK => ?_) AllReadyH.nil
  go_simp
  have ht1 := ((HT.out.set_other (m := D + 1) (by omega) 0 (.int .i64 3)).set_other (m := D + 1) (by omega) 18 (.int .i64 x))
  refine hK.out _ _ ⟨ht1.2.2 0 _ rfl, ht1.2.2 1 _ rfl⟩ (fun h2 => ?_)
  clear hK K
  try simp only [Act.put, List.setIfInBounds_toArray, List.set_cons_zero, List.set_cons_succ]
  refine wpAnyH_take (i := 8) (v := ?_) rfl (by kernel_rfl) (by kernel_rfl) (by kernel_rfl) (fun _ _ _ h => h) (Or.inl ⟨by rfl, ?_⟩) h2 ?_
  rotate_left
  · intro w hSw; (try dsimp only at hSw); obtain ⟨s0, s1⟩ := hSw; go_simp; with_reducible rfl
  try simp only [Act.put, List.setIfInBounds_toArray, List.set_cons_zero, List.set_cons_succ]
  refine wpAnyH_ready (rs := [9]) (by kernel_rfl) (by simp) ?_
  refine AllReadyH.cons rfl (fun K hK => ?_) AllReadyH.nil
  go_simp
  have ht2 := (((HT.out.set_other (m := D + 1) (by omega) 0 (.int .i64 3)).set_other (m := D + 1) (by omega) 18 (.int .i64 x)).set_other (m := D + 1) (by omega) 19 (.int .i64 y))
  refine hK.out _ _ ⟨ht2.2.2 0 _ rfl, ht2.2.2 1 _ rfl⟩ (fun h3 => ?_)
  clear hK K
  try simp only [Act.put, List.setIfInBounds_toArray, List.set_cons_zero, List.set_cons_succ]
  refine wpAnyH_done (by kernel_rfl) ?_ _
  have hx1 : Blk (((U.setCell ⟨D + 1, 0, none⟩ (.int .i64 3)).setCell ⟨D + 1, 18, none⟩ (.int .i64 x)).setCell ⟨D + 1, 19, none⟩ (.int .i64 y)) (D + 1) 50 (encM ⟨3, 1, .none, 0, 0, none, 0, 0, 0, x, y⟩) := (((HX.out.set 0 (.int .i64 3)).set 18 (.int .i64 x)).set 19 (.int .i64 y))
  have hd1 : Blk (((U.setCell ⟨D + 1, 0, none⟩ (.int .i64 3)).setCell ⟨D + 1, 18, none⟩ (.int .i64 x)).setCell ⟨D + 1, 19, none⟩ (.int .i64 y)) D 50 (encM ⟨0, 0, .none, 0, 0, none, 0, 0, 0, 0, 0⟩) := (((HD.out.set_other (m := D + 1) (by omega) 0 (.int .i64 3)).set_other (m := D + 1) (by omega) 18 (.int .i64 x)).set_other (m := D + 1) (by omega) 19 (.int .i64 y))
  have hb1 : Below D w (((U.setCell ⟨D + 1, 0, none⟩ (.int .i64 3)).setCell ⟨D + 1, 18, none⟩ (.int .i64 x)).setCell ⟨D + 1, 19, none⟩ (.int .i64 y)) := (Below.setCell (Below.setCell (Below.setCell HB.out (p := ⟨D + 1, 0, none⟩) (by simp) (.int .i64 3)) (p := ⟨D + 1, 18, none⟩) (by simp) (.int .i64 x)) (p := ⟨D + 1, 19, none⟩) (by simp) (.int .i64 y))
  have hs1 : ((((U.setCell ⟨D + 1, 0, none⟩ (.int .i64 3)).setCell ⟨D + 1, 18, none⟩ (.int .i64 x)).setCell ⟨D + 1, 19, none⟩ (.int .i64 y))).heap.size = D + 5 := by simp [hsV]
  generalize (((U.setCell ⟨D + 1, 0, none⟩ (.int .i64 3)).setCell ⟨D + 1, 18, none⟩ (.int .i64 x)).setCell ⟨D + 1, 19, none⟩ (.int .i64 y)) = Z at hx1 hd1 hb1 hs1 ⊢
  have HX1 := Lib.hid hx1
  have HD1 := Lib.hid hd1
  have HB1 := Lib.hid hb1
  clear hx1 hd1 hb1 ht0 ht1 ht2 h0 h1 h2 h3 HX HD HT HB c0 f0 c18 f18 c19 f19
  go_wp2_with (first | (refine wpList_load_row rfl 50 (.tmp 3) rfl (D + 1) rfl 50 (encM ⟨3, 1, .none, 0, 0, none, 0, 0, 0, x, y⟩).toArray _ (HX1.out.alloc _) Tryd.underlying50 rfl (by kernel_rfl) ?_) | (refine wpList_store_row rfl 50 (.tmp 2) (.tmp 68) rfl D rfl 50 _ (encM ⟨3, 1, .none, 0, 0, none, 0, 0, 0, x, y⟩).toArray rfl (HD1.out.alloc _) (by kernel_rfl) rfl (encM_all _) ?_; intro w6 hw6; have HD6 := Lib.hid (show Blk w6 D 50 (encM ⟨3, 1, .none, 0, 0, none, 0, 0, 0, x, y⟩) by rw [hw6]; exact Blk.row ((HD1.out.alloc _)) _ _ rfl); have HB6 := Lib.hid (show Below D w w6 by rw [hw6]; exact below_setRow (HB1.out.alloc (by simp [hs1] <;> omega) _) (by omega) _); clear hw6))
  exact bodyPost_ret (v := .agg (encM ⟨3, 1, .none, 0, 0, none, 0, 0, 0, x, y⟩).toArray) (results_cell rfl rfl HD6.out Tryd.underlying50 rfl (by kernel_rfl)) rfl ⟨rfl, by rw [hD]; exact HB6.out⟩
set_option maxHeartbeats 4000000 in
set_option maxRecDepth 100000 in
theorem node_float (z x y : Int) (w : World) : Calls Tryd.prog 63 #[.iface 116 (.agg #[.int .i64 z, .int .i64 x, .int .i64 y])] w fun e w' => e = .returned (.agg (encM ⟨4, 1, .none, 0, 0, none, 0, 0, z, x, y⟩).toArray) ∧ Below w.heap.size w w' := by
  have ha := float_as_block
  have hb := float_as_text
  have hc := float_as_box
  have hd := float_as_float
  simp only [encS12, Sty.none] at ha
  obtain ⟨D, hD⟩ : ∃ D, w.heap.size = D := ⟨_, rfl⟩
  go_enter Tryd.func63, Tryd.ntmps63
  go_wp2_with (refine wpList_store_row rfl 50 (.tmp 3) (.tmp 12) rfl (D + 1) rfl 50 _ (encM nd0).toArray rfl (Blk.new (vs := encM ⟨0, 0, .none, 0, 0, none, 0, 0, 0, 0, 0⟩) _ _ _ (by simp [hD]) _ rfl) (by kernel_rfl) rfl (encM_all _) ?_; intro w5 hw5; have HX5 := Lib.hid (show Blk w5 (D + 1) 50 (encM nd0) by rw [hw5]; exact Blk.row (Blk.new (vs := encM ⟨0, 0, .none, 0, 0, none, 0, 0, 0, 0, 0⟩) _ _ _ (by simp [hD]) _ rfl) _ _ rfl); have HD5 := Lib.hid (show Blk w5 D 50 (encM ⟨0, 0, .none, 0, 0, none, 0, 0, 0, 0, 0⟩) by rw [hw5]; exact ((Blk.new _ _ _ _ hD.symm _ rfl).alloc _).row_other (by omega) _); have HB5 := Lib.hid (show Below D w w5 by rw [hw5]; exact below_setRow (((Below.refl D w).alloc (by omega) _).alloc (by simp; omega) _) (by omega) _); have hs5 : w5.heap.size = D + 2 := (by rw [hw5, setRow_size]; simp [hD]); clear hw5)
  generalize hV : World.alloc _ _ = V
  have HX := Lib.hid (show Blk V (D + 1) 50 (encM nd0) by rw [← hV]; exact ((((HX5.out.alloc _).alloc _).alloc _).alloc _))
  have HD := Lib.hid (show Blk V D 50 (encM ⟨0, 0, .none, 0, 0, none, 0, 0, 0, 0, 0⟩) by rw [← hV]; exact ((((HD5.out.alloc _).alloc _).alloc _).alloc _))
  have HT := Lib.hid (show Box V (D + 5) [.int .i64 z, .int .i64 x, .int .i64 y] by rw [← hV]; exact box_new _ _ _ _ (by simp [hs5]) _ rfl)
  have HB := Lib.hid (show Below D w V by rw [← hV]; exact ((((HB5.out.alloc (by simp [hs5] <;> omega) _).alloc (by simp [hs5] <;> omega) _).alloc (by simp [hs5] <;> omega) _).alloc (by simp [hs5] <;> omega) _))
  have hsV : V.heap.size = D + 6 := by rw [← hV]; simp [hs5]
  clear hV HX5 HD5 HB5 hs5
  refine wp_region_held (S := fun W' => W'.cell? ⟨D + 5, 0, none⟩ = some (.int .i64 z) ∧ W'.cell? ⟨D + 5, 1, none⟩ = some (.int .i64 x) ∧ W'.cell? ⟨D + 5, 2, none⟩ = some (.int .i64 y)) (by kernel_rfl) ?_
  show wpAnyH _ _ _ _ _ _ _ _ V.drew
  have HX := Lib.hid HX.out.drew
  have HD := Lib.hid HD.out.drew
  have HT := Lib.hid HT.out.drew
  have HB := Lib.hid HB.out.drew
  have hsV : V.drew.heap.size = D + 6 := hsV
  generalize V.drew = U at HX HD HT HB hsV ⊢
  have h0 : U.cell? ⟨D + 5, 0, none⟩ = some (.int .i64 z) ∧ U.cell? ⟨D + 5, 1, none⟩ = some (.int .i64 x) ∧ U.cell? ⟨D + 5, 2, none⟩ = some (.int .i64 y) := ⟨HT.out.2.2 0 _ rfl, HT.out.2.2 1 _ rfl, HT.out.2.2 2 _ rfl⟩
  have c0 := HX.out.box.2.2 0 _ rfl
  have f0 := HX.out.box.2.1 0
  have c17 := HX.out.box.2.2 17 _ rfl
  have f17 := HX.out.box.2.1 17
  have c18 := HX.out.box.2.2 18 _ rfl
  have f18 := HX.out.box.2.1 18
  have c19 := HX.out.box.2.2 19 _ rfl
  have f19 := HX.out.box.2.1 19
  refine wpAnyH_take (i := 0) (v := ?_) rfl (by kernel_rfl) (by kernel_rfl) (by kernel_rfl) (fun _ _ _ h => h) (Or.inl ⟨by rfl, ?_⟩) h0 ?_
  rotate_left
  · intro w hSw; (try dsimp only at hSw); obtain ⟨s0, s1, s2⟩ := hSw; go_simp; with_reducible rfl
  try simp only [Act.put, List.setIfInBounds_toArray, List.set_cons_zero, List.set_cons_succ]
  refine wpAnyH_take (i := 1) (v := ?_) rfl (by kernel_rfl) (by kernel_rfl) (by kernel_rfl) (fun _ _ _ h => h) (Or.inl ⟨by rfl, ?_⟩) h0 ?_
  rotate_left
  · intro w hSw; (try dsimp only at hSw); obtain ⟨s0, s1, s2⟩ := hSw; go_simp; with_reducible rfl
  try simp only [Act.put, List.setIfInBounds_toArray, List.set_cons_zero, List.set_cons_succ]
  refine wpAnyH_take (i := 2) (v := ?_) rfl (by kernel_rfl) (by kernel_rfl) (by kernel_rfl) (fun _ _ _ h => h) (Or.inl ⟨by rfl, ?_⟩) h0 ?_
  rotate_left
  · intro w hSw; (try dsimp only at hSw); obtain ⟨s0, s1, s2⟩ := hSw; go_simp; with_reducible rfl
  try simp only [Act.put, List.setIfInBounds_toArray, List.set_cons_zero, List.set_cons_succ]
  refine wpAnyH_take (i := 3) (v := ?_) rfl (by kernel_rfl) (by kernel_rfl) (by kernel_rfl) (fun _ _ _ h => h) (Or.inl ⟨by rfl, ?_⟩) h0 ?_
  rotate_left
  · intro w hSw; (try dsimp only at hSw); obtain ⟨s0, s1, s2⟩ := hSw; go_simp; with_reducible rfl
  try simp only [Act.put, List.setIfInBounds_toArray, List.set_cons_zero, List.set_cons_succ]
  refine wpAnyH_take (i := 4) (v := ?_) rfl (by kernel_rfl) (by kernel_rfl) (by kernel_rfl) (fun _ _ _ h => h) (Or.inl ⟨by rfl, ?_⟩) h0 ?_
  rotate_left
  · intro w hSw; (try dsimp only at hSw); obtain ⟨s0, s1, s2⟩ := hSw; go_simp; with_reducible rfl
  try simp only [Act.put, List.setIfInBounds_toArray, List.set_cons_zero, List.set_cons_succ]
  refine wpAnyH_take (i := 5) (v := ?_) rfl (by kernel_rfl) (by kernel_rfl) (by kernel_rfl) (fun _ _ _ h => h) (Or.inl ⟨by rfl, ?_⟩) h0 ?_
  rotate_left
  · intro w hSw; (try dsimp only at hSw); obtain ⟨s0, s1, s2⟩ := hSw; go_simp; with_reducible rfl
  try simp only [Act.put, List.setIfInBounds_toArray, List.set_cons_zero, List.set_cons_succ]
  refine wpAnyH_take (i := 6) (v := ?_) rfl (by kernel_rfl) (by kernel_rfl) (by kernel_rfl) (fun _ _ _ h => h) (Or.inl ⟨by rfl, ?_⟩) h0 ?_
  rotate_left
  · intro w hSw; (try dsimp only at hSw); obtain ⟨s0, s1, s2⟩ := hSw; go_simp; with_reducible rfl
  try simp only [Act.put, List.setIfInBounds_toArray, List.set_cons_zero, List.set_cons_succ]
  refine wpAnyH_ready (rs := [7]) (by kernel_rfl) (by simp) ?_
  refine AllReadyH.cons rfl (fun K hK => ?_) AllReadyH.nil
  go_simp
  have ht0 := (HT.out.set_other (m := D + 1) (by omega) 0 (.int .i64 4))
  refine hK.out _ _ ⟨ht0.2.2 0 _ rfl, ht0.2.2 1 _ rfl, ht0.2.2 2 _ rfl⟩ (fun h1 => ?_)
  clear hK K
  try simp only [Act.put, List.setIfInBounds_toArray, List.set_cons_zero, List.set_cons_succ]
  refine wpAnyH_take (i := 8) (v := ?_) rfl (by kernel_rfl) (by kernel_rfl) (by kernel_rfl) (fun _ _ _ h => h) (Or.inl ⟨by rfl, ?_⟩) h1 ?_
  rotate_left
  · intro w hSw; (try dsimp only at hSw); obtain ⟨s0, s1, s2⟩ := hSw; go_simp; with_reducible rfl
  try simp only [Act.put, List.setIfInBounds_toArray, List.set_cons_zero, List.set_cons_succ]
  refine wpAnyH_ready (rs := [9]) (by kernel_rfl) (by simp) ?_
  refine AllReadyH.cons rfl (fun K hK => ?_) AllReadyH.nil
  go_simp
  have ht1 := ((HT.out.set_other (m := D + 1) (by omega) 0 (.int .i64 4)).set_other (m := D + 1) (by omega) 17 (.int .i64 z))
  refine hK.out _ _ ⟨ht1.2.2 0 _ rfl, ht1.2.2 1 _ rfl, ht1.2.2 2 _ rfl⟩ (fun h2 => ?_)
  clear hK K
  try simp only [Act.put, List.setIfInBounds_toArray, List.set_cons_zero, List.set_cons_succ]
  refine wpAnyH_take (i := 10) (v := ?_) rfl (by kernel_rfl) (by kernel_rfl) (by kernel_rfl) (fun _ _ _ h => h) (Or.inl ⟨by rfl, ?_⟩) h2 ?_
  rotate_left
  · intro w hSw; (try dsimp only at hSw); obtain ⟨s0, s1, s2⟩ := hSw; go_simp; with_reducible rfl
  try simp only [Act.put, List.setIfInBounds_toArray, List.set_cons_zero, List.set_cons_succ]
  refine wpAnyH_ready (rs := [11]) (by kernel_rfl) (by simp) ?_
  refine AllReadyH.cons rfl (fun K hK => ?_) AllReadyH.nil
  go_simp
  have ht2 := (((HT.out.set_other (m := D + 1) (by omega) 0 (.int .i64 4)).set_other (m := D + 1) (by omega) 17 (.int .i64 z)).set_other (m := D + 1) (by omega) 18 (.int .i64 x))
  refine hK.out _ _ ⟨ht2.2.2 0 _ rfl, ht2.2.2 1 _ rfl, ht2.2.2 2 _ rfl⟩ (fun h3 => ?_)
  clear hK K
  try simp only [Act.put, List.setIfInBounds_toArray, List.set_cons_zero, List.set_cons_succ]
  refine wpAnyH_take (i := 12) (v := ?_) rfl (by kernel_rfl) (by kernel_rfl) (by kernel_rfl) (fun _ _ _ h => h) (Or.inl ⟨by rfl, ?_⟩) h3 ?_
  rotate_left
  · intro w hSw; (try dsimp only at hSw); obtain ⟨s0, s1, s2⟩ := hSw; go_simp; with_reducible rfl
  try simp only [Act.put, List.setIfInBounds_toArray, List.set_cons_zero, List.set_cons_succ]
  refine wpAnyH_ready (rs := [13]) (by kernel_rfl) (by simp) ?_
  refine AllReadyH.cons rfl (fun K hK => ?_) AllReadyH.nil
  go_simp
  have ht3 := ((((HT.out.set_other (m := D + 1) (by omega) 0 (.int .i64 4)).set_other (m := D + 1) (by omega) 17 (.int .i64 z)).set_other (m := D + 1) (by omega) 18 (.int .i64 x)).set_other (m := D + 1) (by omega) 19 (.int .i64 y))
  refine hK.out _ _ ⟨ht3.2.2 0 _ rfl, ht3.2.2 1 _ rfl, ht3.2.2 2 _ rfl⟩ (fun h4 => ?_)
  clear hK K
  try simp only [Act.put, List.setIfInBounds_toArray, List.set_cons_zero, List.set_cons_succ]
  refine wpAnyH_done (by kernel_rfl) ?_ _
  have hx1 : Blk ((((U.setCell ⟨D + 1, 0, none⟩ (.int .i64 4)).setCell ⟨D + 1, 17, none⟩ (.int .i64 z)).setCell ⟨D + 1, 18, none⟩ (.int .i64 x)).setCell ⟨D + 1, 19, none⟩ (.int .i64 y)) (D + 1) 50 (encM ⟨4, 1, .none, 0, 0, none, 0, 0, z, x, y⟩) := ((((HX.out.set 0 (.int .i64 4)).set 17 (.int .i64 z)).set 18 (.int .i64 x)).set 19 (.int .i64 y))
  have hd1 : Blk ((((U.setCell ⟨D + 1, 0, none⟩ (.int .i64 4)).setCell ⟨D + 1, 17, none⟩ (.int .i64 z)).setCell ⟨D + 1, 18, none⟩ (.int .i64 x)).setCell ⟨D + 1, 19, none⟩ (.int .i64 y)) D 50 (encM ⟨0, 0, .none, 0, 0, none, 0, 0, 0, 0, 0⟩) := ((((HD.out.set_other (m := D + 1) (by omega) 0 (.int .i64 4)).set_other (m := D + 1) (by omega) 17 (.int .i64 z)).set_other (m := D + 1) (by omega) 18 (.int .i64 x)).set_other (m := D + 1) (by omega) 19 (.int .i64 y))
  have hb1 : Below D w ((((U.setCell ⟨D + 1, 0, none⟩ (.int .i64 4)).setCell ⟨D + 1, 17, none⟩ (.int .i64 z)).setCell ⟨D + 1, 18, none⟩ (.int .i64 x)).setCell ⟨D + 1, 19, none⟩ (.int .i64 y)) := (Below.setCell (Below.setCell (Below.setCell (Below.setCell HB.out (p := ⟨D + 1, 0, none⟩) (by simp) (.int .i64 4)) (p := ⟨D + 1, 17, none⟩) (by simp) (.int .i64 z)) (p := ⟨D + 1, 18, none⟩) (by simp) (.int .i64 x)) (p := ⟨D + 1, 19, none⟩) (by simp) (.int .i64 y))
  have hs1 : (((((U.setCell ⟨D + 1, 0, none⟩ (.int .i64 4)).setCell ⟨D + 1, 17, none⟩ (.int .i64 z)).setCell ⟨D + 1, 18, none⟩ (.int .i64 x)).setCell ⟨D + 1, 19, none⟩ (.int .i64 y))).heap.size = D + 6 := by simp [hsV]
  generalize ((((U.setCell ⟨D + 1, 0, none⟩ (.int .i64 4)).setCell ⟨D + 1, 17, none⟩ (.int .i64 z)).setCell ⟨D + 1, 18, none⟩ (.int .i64 x)).setCell ⟨D + 1, 19, none⟩ (.int .i64 y)) = Z at hx1 hd1 hb1 hs1 ⊢
  have HX1 := Lib.hid hx1
  have HD1 := Lib.hid hd1
  have HB1 := Lib.hid hb1
  clear hx1 hd1 hb1 ht0 ht1 ht2 ht3 h0 h1 h2 h3 h4 HX HD HT HB c0 f0 c17 f17 c18 f18 c19 f19
  go_wp2_with (first | (refine wpList_load_row rfl 50 (.tmp 3) rfl (D + 1) rfl 50 (encM ⟨4, 1, .none, 0, 0, none, 0, 0, z, x, y⟩).toArray _ HX1.out Tryd.underlying50 rfl (by kernel_rfl) ?_) | (refine wpList_store_row rfl 50 (.tmp 2) (.tmp 68) rfl D rfl 50 _ (encM ⟨4, 1, .none, 0, 0, none, 0, 0, z, x, y⟩).toArray rfl HD1.out (by kernel_rfl) rfl (encM_all _) ?_; intro w6 hw6; have HD6 := Lib.hid (show Blk w6 D 50 (encM ⟨4, 1, .none, 0, 0, none, 0, 0, z, x, y⟩) by rw [hw6]; exact Blk.row (HD1.out) _ _ rfl); have HB6 := Lib.hid (show Below D w w6 by rw [hw6]; exact below_setRow HB1.out (by omega) _); clear hw6))
  exact bodyPost_ret (v := .agg (encM ⟨4, 1, .none, 0, 0, none, 0, 0, z, x, y⟩).toArray) (results_cell rfl rfl HD6.out Tryd.underlying50 rfl (by kernel_rfl)) rfl ⟨rfl, by rw [hD]; exact HB6.out⟩
set_option maxHeartbeats 4000000 in
set_option maxRecDepth 100000 in
theorem node_text (x y : Int) (A : Option Addr) (m c : Nat) (w : World) : Calls Tryd.prog 63 #[.iface 111 (.agg #[.int .i64 x, .int .i64 y, .slice A m c])] w fun e w' => e = .returned (.agg (encM ⟨2, 1, .none, x, y, A, m, c, 0, 0, 0⟩).toArray) ∧ Below w.heap.size w w' := by
  have ha := text_as_block
  have hb := text_as_text
  have hc := text_as_box
  have hd := text_as_float
  simp only [encS12, Sty.none] at ha
  obtain ⟨D, hD⟩ : ∃ D, w.heap.size = D := ⟨_, rfl⟩
  go_enter Tryd.func63, Tryd.ntmps63
  go_wp2_with (refine wpList_store_row rfl 50 (.tmp 3) (.tmp 12) rfl (D + 1) rfl 50 _ (encM nd0).toArray rfl (Blk.new (vs := encM ⟨0, 0, .none, 0, 0, none, 0, 0, 0, 0, 0⟩) _ _ _ (by simp [hD]) _ rfl) (by kernel_rfl) rfl (encM_all _) ?_; intro w5 hw5; have HX5 := Lib.hid (show Blk w5 (D + 1) 50 (encM nd0) by rw [hw5]; exact Blk.row (Blk.new (vs := encM ⟨0, 0, .none, 0, 0, none, 0, 0, 0, 0, 0⟩) _ _ _ (by simp [hD]) _ rfl) _ _ rfl); have HD5 := Lib.hid (show Blk w5 D 50 (encM ⟨0, 0, .none, 0, 0, none, 0, 0, 0, 0, 0⟩) by rw [hw5]; exact ((Blk.new _ _ _ _ hD.symm _ rfl).alloc _).row_other (by omega) _); have HB5 := Lib.hid (show Below D w w5 by rw [hw5]; exact below_setRow (((Below.refl D w).alloc (by omega) _).alloc (by simp; omega) _) (by omega) _); have hs5 : w5.heap.size = D + 2 := (by rw [hw5, setRow_size]; simp [hD]); clear hw5)
  generalize hV : World.alloc _ _ = V
  have HX := Lib.hid (show Blk V (D + 1) 50 (encM nd0) by rw [← hV]; exact ((HX5.out.alloc _).alloc _))
  have HD := Lib.hid (show Blk V D 50 (encM ⟨0, 0, .none, 0, 0, none, 0, 0, 0, 0, 0⟩) by rw [← hV]; exact ((HD5.out.alloc _).alloc _))
  have HT := Lib.hid (show Box V (D + 3) [.int .i64 x, .int .i64 y, .slice A m c] by rw [← hV]; exact box_new _ _ _ _ (by simp [hs5]) _ rfl)
  have HB := Lib.hid (show Below D w V by rw [← hV]; exact ((HB5.out.alloc (by simp [hs5] <;> omega) _).alloc (by simp [hs5] <;> omega) _))
  have hsV : V.heap.size = D + 4 := by rw [← hV]; simp [hs5]
  clear hV HX5 HD5 HB5 hs5
  refine wp_region_held (S := fun W' => W'.cell? ⟨D + 3, 0, none⟩ = some (.int .i64 x) ∧ W'.cell? ⟨D + 3, 1, none⟩ = some (.int .i64 y) ∧ W'.cell? ⟨D + 3, 2, none⟩ = some (.slice A m c)) (by kernel_rfl) ?_
  show wpAnyH _ _ _ _ _ _ _ _ V.drew
  have HX := Lib.hid HX.out.drew
  have HD := Lib.hid HD.out.drew
  have HT := Lib.hid HT.out.drew
  have HB := Lib.hid HB.out.drew
  have hsV : V.drew.heap.size = D + 4 := hsV
  generalize V.drew = U at HX HD HT HB hsV ⊢
  have h0 : U.cell? ⟨D + 3, 0, none⟩ = some (.int .i64 x) ∧ U.cell? ⟨D + 3, 1, none⟩ = some (.int .i64 y) ∧ U.cell? ⟨D + 3, 2, none⟩ = some (.slice A m c) := ⟨HT.out.2.2 0 _ rfl, HT.out.2.2 1 _ rfl, HT.out.2.2 2 _ rfl⟩
  have c0 := HX.out.box.2.2 0 _ rfl
  have f0 := HX.out.box.2.1 0
  have c14 := HX.out.box.2.2 14 _ rfl
  have f14 := HX.out.box.2.1 14
  have c15 := HX.out.box.2.2 15 _ rfl
  have f15 := HX.out.box.2.1 15
  have c16 := HX.out.box.2.2 16 _ rfl
  have f16 := HX.out.box.2.1 16
  refine wpAnyH_take (i := 0) (v := ?_) rfl (by kernel_rfl) (by kernel_rfl) (by kernel_rfl) (fun _ _ _ h => h) (Or.inl ⟨by rfl, ?_⟩) h0 ?_
  rotate_left
  · intro w hSw; (try dsimp only at hSw); obtain ⟨s0, s1, s2⟩ := hSw; go_simp; with_reducible rfl
  try simp only [Act.put, List.setIfInBounds_toArray, List.set_cons_zero, List.set_cons_succ]
  refine wpAnyH_take (i := 1) (v := ?_) rfl (by kernel_rfl) (by kernel_rfl) (by kernel_rfl) (fun _ _ _ h => h) (Or.inl ⟨by rfl, ?_⟩) h0 ?_
  rotate_left
  · intro w hSw; (try dsimp only at hSw); obtain ⟨s0, s1, s2⟩ := hSw; go_simp; with_reducible rfl
  try simp only [Act.put, List.setIfInBounds_toArray, List.set_cons_zero, List.set_cons_succ]
  refine wpAnyH_take (i := 2) (v := ?_) rfl (by kernel_rfl) (by kernel_rfl) (by kernel_rfl) (fun _ _ _ h => h) (Or.inl ⟨by rfl, ?_⟩) h0 ?_
  rotate_left
  · intro w hSw; (try dsimp only at hSw); obtain ⟨s0, s1, s2⟩ := hSw; go_simp; with_reducible rfl
  try simp only [Act.put, List.setIfInBounds_toArray, List.set_cons_zero, List.set_cons_succ]
  refine wpAnyH_take (i := 3) (v := ?_) rfl (by kernel_rfl) (by kernel_rfl) (by kernel_rfl) (fun _ _ _ h => h) (Or.inl ⟨by rfl, ?_⟩) h0 ?_
  rotate_left
  · intro w hSw; (try dsimp only at hSw); obtain ⟨s0, s1, s2⟩ := hSw; go_simp; with_reducible rfl
  try simp only [Act.put, List.setIfInBounds_toArray, List.set_cons_zero, List.set_cons_succ]
  refine wpAnyH_take (i := 4) (v := ?_) rfl (by kernel_rfl) (by kernel_rfl) (by kernel_rfl) (fun _ _ _ h => h) (Or.inl ⟨by rfl, ?_⟩) h0 ?_
  rotate_left
  · intro w hSw; (try dsimp only at hSw); obtain ⟨s0, s1, s2⟩ := hSw; go_simp; with_reducible rfl
  try simp only [Act.put, List.setIfInBounds_toArray, List.set_cons_zero, List.set_cons_succ]
  refine wpAnyH_take (i := 5) (v := ?_) rfl (by kernel_rfl) (by kernel_rfl) (by kernel_rfl) (fun _ _ _ h => h) (Or.inl ⟨by rfl, ?_⟩) h0 ?_
  rotate_left
  · intro w hSw; (try dsimp only at hSw); obtain ⟨s0, s1, s2⟩ := hSw; go_simp; with_reducible rfl
  try simp only [Act.put, List.setIfInBounds_toArray, List.set_cons_zero, List.set_cons_succ]
  refine wpAnyH_take (i := 6) (v := ?_) rfl (by kernel_rfl) (by kernel_rfl) (by kernel_rfl) (fun _ _ _ h => h) (Or.inl ⟨by rfl, ?_⟩) h0 ?_
  rotate_left
  · intro w hSw; (try dsimp only at hSw); obtain ⟨s0, s1, s2⟩ := hSw; go_simp; with_reducible rfl
  try simp only [Act.put, List.setIfInBounds_toArray, List.set_cons_zero, List.set_cons_succ]
  refine wpAnyH_ready (rs := [7]) (by kernel_rfl) (by simp) ?_
  refine AllReadyH.cons rfl (fun K hK => ?_) AllReadyH.nil
  go_simp
  have ht0 := (HT.out.set_other (m := D + 1) (by omega) 0 (.int .i64 2))
  refine hK.out _ _ ⟨ht0.2.2 0 _ rfl, ht0.2.2 1 _ rfl, ht0.2.2 2 _ rfl⟩ (fun h1 => ?_)
  clear hK K
  try simp only [Act.put, List.setIfInBounds_toArray, List.set_cons_zero, List.set_cons_succ]
  refine wpAnyH_take (i := 8) (v := ?_) rfl (by kernel_rfl) (by kernel_rfl) (by kernel_rfl) (fun _ _ _ h => h) (Or.inl ⟨by rfl, ?_⟩) h1 ?_
  rotate_left
  · intro w hSw; (try dsimp only at hSw); obtain ⟨s0, s1, s2⟩ := hSw; go_simp; with_reducible rfl
  try simp only [Act.put, List.setIfInBounds_toArray, List.set_cons_zero, List.set_cons_succ]
  refine wpAnyH_ready (rs := [9]) (by kernel_rfl) (by simp) ?_
  refine AllReadyH.cons rfl (fun K hK => ?_) AllReadyH.nil
  go_simp
  have ht1 := ((HT.out.set_other (m := D + 1) (by omega) 0 (.int .i64 2)).set_other (m := D + 1) (by omega) 14 (.int .i64 x))
  refine hK.out _ _ ⟨ht1.2.2 0 _ rfl, ht1.2.2 1 _ rfl, ht1.2.2 2 _ rfl⟩ (fun h2 => ?_)
  clear hK K
  try simp only [Act.put, List.setIfInBounds_toArray, List.set_cons_zero, List.set_cons_succ]
  refine wpAnyH_take (i := 10) (v := ?_) rfl (by kernel_rfl) (by kernel_rfl) (by kernel_rfl) (fun _ _ _ h => h) (Or.inl ⟨by rfl, ?_⟩) h2 ?_
  rotate_left
  · intro w hSw; (try dsimp only at hSw); obtain ⟨s0, s1, s2⟩ := hSw; go_simp; with_reducible rfl
  try simp only [Act.put, List.setIfInBounds_toArray, List.set_cons_zero, List.set_cons_succ]
  refine wpAnyH_ready (rs := [11]) (by kernel_rfl) (by simp) ?_
  refine AllReadyH.cons rfl (fun K hK => ?_) AllReadyH.nil
  go_simp
  have ht2 := (((HT.out.set_other (m := D + 1) (by omega) 0 (.int .i64 2)).set_other (m := D + 1) (by omega) 14 (.int .i64 x)).set_other (m := D + 1) (by omega) 15 (.int .i64 y))
  refine hK.out _ _ ⟨ht2.2.2 0 _ rfl, ht2.2.2 1 _ rfl, ht2.2.2 2 _ rfl⟩ (fun h3 => ?_)
  clear hK K
  try simp only [Act.put, List.setIfInBounds_toArray, List.set_cons_zero, List.set_cons_succ]
  refine wpAnyH_take (i := 12) (v := ?_) rfl (by kernel_rfl) (by kernel_rfl) (by kernel_rfl) (fun _ _ _ h => h) (Or.inl ⟨by rfl, ?_⟩) h3 ?_
  rotate_left
  · intro w hSw; (try dsimp only at hSw); obtain ⟨s0, s1, s2⟩ := hSw; go_simp; with_reducible rfl
  try simp only [Act.put, List.setIfInBounds_toArray, List.set_cons_zero, List.set_cons_succ]
  refine wpAnyH_ready (rs := [13]) (by kernel_rfl) (by simp) ?_
  refine AllReadyH.cons rfl (fun K hK => ?_) AllReadyH.nil
  go_simp
  have ht3 := ((((HT.out.set_other (m := D + 1) (by omega) 0 (.int .i64 2)).set_other (m := D + 1) (by omega) 14 (.int .i64 x)).set_other (m := D + 1) (by omega) 15 (.int .i64 y)).set_other (m := D + 1) (by omega) 16 (.slice A m c))
  refine hK.out _ _ ⟨ht3.2.2 0 _ rfl, ht3.2.2 1 _ rfl, ht3.2.2 2 _ rfl⟩ (fun h4 => ?_)
  clear hK K
  try simp only [Act.put, List.setIfInBounds_toArray, List.set_cons_zero, List.set_cons_succ]
  refine wpAnyH_done (by kernel_rfl) ?_ _
  have hx1 : Blk ((((U.setCell ⟨D + 1, 0, none⟩ (.int .i64 2)).setCell ⟨D + 1, 14, none⟩ (.int .i64 x)).setCell ⟨D + 1, 15, none⟩ (.int .i64 y)).setCell ⟨D + 1, 16, none⟩ (.slice A m c)) (D + 1) 50 (encM ⟨2, 1, .none, x, y, A, m, c, 0, 0, 0⟩) := ((((HX.out.set 0 (.int .i64 2)).set 14 (.int .i64 x)).set 15 (.int .i64 y)).set 16 (.slice A m c))
  have hd1 : Blk ((((U.setCell ⟨D + 1, 0, none⟩ (.int .i64 2)).setCell ⟨D + 1, 14, none⟩ (.int .i64 x)).setCell ⟨D + 1, 15, none⟩ (.int .i64 y)).setCell ⟨D + 1, 16, none⟩ (.slice A m c)) D 50 (encM ⟨0, 0, .none, 0, 0, none, 0, 0, 0, 0, 0⟩) := ((((HD.out.set_other (m := D + 1) (by omega) 0 (.int .i64 2)).set_other (m := D + 1) (by omega) 14 (.int .i64 x)).set_other (m := D + 1) (by omega) 15 (.int .i64 y)).set_other (m := D + 1) (by omega) 16 (.slice A m c))
  have hb1 : Below D w ((((U.setCell ⟨D + 1, 0, none⟩ (.int .i64 2)).setCell ⟨D + 1, 14, none⟩ (.int .i64 x)).setCell ⟨D + 1, 15, none⟩ (.int .i64 y)).setCell ⟨D + 1, 16, none⟩ (.slice A m c)) := (Below.setCell (Below.setCell (Below.setCell (Below.setCell HB.out (p := ⟨D + 1, 0, none⟩) (by simp) (.int .i64 2)) (p := ⟨D + 1, 14, none⟩) (by simp) (.int .i64 x)) (p := ⟨D + 1, 15, none⟩) (by simp) (.int .i64 y)) (p := ⟨D + 1, 16, none⟩) (by simp) (.slice A m c))
  have hs1 : (((((U.setCell ⟨D + 1, 0, none⟩ (.int .i64 2)).setCell ⟨D + 1, 14, none⟩ (.int .i64 x)).setCell ⟨D + 1, 15, none⟩ (.int .i64 y)).setCell ⟨D + 1, 16, none⟩ (.slice A m c))).heap.size = D + 4 := by simp [hsV]
  generalize ((((U.setCell ⟨D + 1, 0, none⟩ (.int .i64 2)).setCell ⟨D + 1, 14, none⟩ (.int .i64 x)).setCell ⟨D + 1, 15, none⟩ (.int .i64 y)).setCell ⟨D + 1, 16, none⟩ (.slice A m c)) = Z at hx1 hd1 hb1 hs1 ⊢
  have HX1 := Lib.hid hx1
  have HD1 := Lib.hid hd1
  have HB1 := Lib.hid hb1
  clear hx1 hd1 hb1 ht0 ht1 ht2 ht3 h0 h1 h2 h3 h4 HX HD HT HB c0 f0 c14 f14 c15 f15 c16 f16
  go_wp2_with (first | (refine wpList_load_row rfl 50 (.tmp 3) rfl (D + 1) rfl 50 (encM ⟨2, 1, .none, x, y, A, m, c, 0, 0, 0⟩).toArray _ ((HX1.out.alloc _).alloc _) Tryd.underlying50 rfl (by kernel_rfl) ?_) | (refine wpList_store_row rfl 50 (.tmp 2) (.tmp 68) rfl D rfl 50 _ (encM ⟨2, 1, .none, x, y, A, m, c, 0, 0, 0⟩).toArray rfl ((HD1.out.alloc _).alloc _) (by kernel_rfl) rfl (encM_all _) ?_; intro w6 hw6; have HD6 := Lib.hid (show Blk w6 D 50 (encM ⟨2, 1, .none, x, y, A, m, c, 0, 0, 0⟩) by rw [hw6]; exact Blk.row (((HD1.out.alloc _).alloc _)) _ _ rfl); have HB6 := Lib.hid (show Below D w w6 by rw [hw6]; exact below_setRow ((HB1.out.alloc (by simp [hs1] <;> omega) _).alloc (by simp [hs1] <;> omega) _) (by omega) _); clear hw6))
  exact bodyPost_ret (v := .agg (encM ⟨2, 1, .none, x, y, A, m, c, 0, 0, 0⟩).toArray) (results_cell rfl rfl HD6.out Tryd.underlying50 rfl (by kernel_rfl)) rfl ⟨rfl, by rw [hD]; exact HB6.out⟩
set_option maxHeartbeats 4000000 in
set_option maxRecDepth 100000 in
theorem node_block (s : Sty) (w : World) : Calls Tryd.prog 63 #[.iface 81 (.agg (encS12 s).toArray)] w fun e w' => e = .returned (.agg (encM ⟨1, 1, s, 0, 0, none, 0, 0, 0, 0, 0⟩).toArray) ∧ Below w.heap.size w w' := by
  have ha := block_as_block
  have hb := block_as_text
  have hc := block_as_box
  have hd := block_as_float
  simp only [encS12]
  obtain ⟨D, hD⟩ : ∃ D, w.heap.size = D := ⟨_, rfl⟩
  go_enter Tryd.func63, Tryd.ntmps63
  go_wp2_with (refine wpList_store_row rfl 50 (.tmp 3) (.tmp 12) rfl (D + 1) rfl 50 _ (encM nd0).toArray rfl (Blk.new (vs := encM ⟨0, 0, .none, 0, 0, none, 0, 0, 0, 0, 0⟩) _ _ _ (by simp [hD]) _ rfl) (by kernel_rfl) rfl (encM_all _) ?_; intro w5 hw5; have HX5 := Lib.hid (show Blk w5 (D + 1) 50 (encM nd0) by rw [hw5]; exact Blk.row (Blk.new (vs := encM ⟨0, 0, .none, 0, 0, none, 0, 0, 0, 0, 0⟩) _ _ _ (by simp [hD]) _ rfl) _ _ rfl); have HD5 := Lib.hid (show Blk w5 D 50 (encM ⟨0, 0, .none, 0, 0, none, 0, 0, 0, 0, 0⟩) by rw [hw5]; exact ((Blk.new _ _ _ _ hD.symm _ rfl).alloc _).row_other (by omega) _); have HB5 := Lib.hid (show Below D w w5 by rw [hw5]; exact below_setRow (((Below.refl D w).alloc (by omega) _).alloc (by simp; omega) _) (by omega) _); have hs5 : w5.heap.size = D + 2 := (by rw [hw5, setRow_size]; simp [hD]); clear hw5)
  generalize hV : World.alloc _ _ = V
  have HX := Lib.hid (show Blk V (D + 1) 50 (encM nd0) by rw [← hV]; exact (HX5.out.alloc _))
  have HD := Lib.hid (show Blk V D 50 (encM ⟨0, 0, .none, 0, 0, none, 0, 0, 0, 0, 0⟩) by rw [← hV]; exact (HD5.out.alloc _))
  have HT := Lib.hid (show Box V (D + 2) [.int .i64 s.top, .int .i64 s.bottom, .int .i64 s.padTop, .int .i64 s.padBottom, .int .i64 s.inset, .int .i64 s.orphans, .int .i64 s.widows, .int .i64 s.head, .int .i64 s.before, .int .i64 s.after, .int .i64 s.inside, .int .i64 s.clear] by rw [← hV]; exact box_new _ _ _ _ (by simp [hs5]) _ rfl)
  have HB := Lib.hid (show Below D w V by rw [← hV]; exact (HB5.out.alloc (by simp [hs5] <;> omega) _))
  have hsV : V.heap.size = D + 3 := by rw [← hV]; simp [hs5]
  clear hV HX5 HD5 HB5 hs5
  refine wp_region_held (S := fun W' => W'.cell? ⟨D + 2, 0, none⟩ = some (.int .i64 s.top) ∧ W'.cell? ⟨D + 2, 1, none⟩ = some (.int .i64 s.bottom) ∧ W'.cell? ⟨D + 2, 2, none⟩ = some (.int .i64 s.padTop) ∧ W'.cell? ⟨D + 2, 3, none⟩ = some (.int .i64 s.padBottom) ∧ W'.cell? ⟨D + 2, 4, none⟩ = some (.int .i64 s.inset) ∧ W'.cell? ⟨D + 2, 5, none⟩ = some (.int .i64 s.orphans) ∧ W'.cell? ⟨D + 2, 6, none⟩ = some (.int .i64 s.widows) ∧ W'.cell? ⟨D + 2, 7, none⟩ = some (.int .i64 s.head) ∧ W'.cell? ⟨D + 2, 8, none⟩ = some (.int .i64 s.before) ∧ W'.cell? ⟨D + 2, 9, none⟩ = some (.int .i64 s.after) ∧ W'.cell? ⟨D + 2, 10, none⟩ = some (.int .i64 s.inside) ∧ W'.cell? ⟨D + 2, 11, none⟩ = some (.int .i64 s.clear)) (by kernel_rfl) ?_
  show wpAnyH _ _ _ _ _ _ _ _ V.drew
  have HX := Lib.hid HX.out.drew
  have HD := Lib.hid HD.out.drew
  have HT := Lib.hid HT.out.drew
  have HB := Lib.hid HB.out.drew
  have hsV : V.drew.heap.size = D + 3 := hsV
  generalize V.drew = U at HX HD HT HB hsV ⊢
  have h0 : U.cell? ⟨D + 2, 0, none⟩ = some (.int .i64 s.top) ∧ U.cell? ⟨D + 2, 1, none⟩ = some (.int .i64 s.bottom) ∧ U.cell? ⟨D + 2, 2, none⟩ = some (.int .i64 s.padTop) ∧ U.cell? ⟨D + 2, 3, none⟩ = some (.int .i64 s.padBottom) ∧ U.cell? ⟨D + 2, 4, none⟩ = some (.int .i64 s.inset) ∧ U.cell? ⟨D + 2, 5, none⟩ = some (.int .i64 s.orphans) ∧ U.cell? ⟨D + 2, 6, none⟩ = some (.int .i64 s.widows) ∧ U.cell? ⟨D + 2, 7, none⟩ = some (.int .i64 s.head) ∧ U.cell? ⟨D + 2, 8, none⟩ = some (.int .i64 s.before) ∧ U.cell? ⟨D + 2, 9, none⟩ = some (.int .i64 s.after) ∧ U.cell? ⟨D + 2, 10, none⟩ = some (.int .i64 s.inside) ∧ U.cell? ⟨D + 2, 11, none⟩ = some (.int .i64 s.clear) := ⟨HT.out.2.2 0 _ rfl, HT.out.2.2 1 _ rfl, HT.out.2.2 2 _ rfl, HT.out.2.2 3 _ rfl, HT.out.2.2 4 _ rfl, HT.out.2.2 5 _ rfl, HT.out.2.2 6 _ rfl, HT.out.2.2 7 _ rfl, HT.out.2.2 8 _ rfl, HT.out.2.2 9 _ rfl, HT.out.2.2 10 _ rfl, HT.out.2.2 11 _ rfl⟩
  have c0 := HX.out.box.2.2 0 _ rfl
  have f0 := HX.out.box.2.1 0
  have c2 := HX.out.box.2.2 2 _ rfl
  have f2 := HX.out.box.2.1 2
  have c3 := HX.out.box.2.2 3 _ rfl
  have f3 := HX.out.box.2.1 3
  have c4 := HX.out.box.2.2 4 _ rfl
  have f4 := HX.out.box.2.1 4
  have c5 := HX.out.box.2.2 5 _ rfl
  have f5 := HX.out.box.2.1 5
  have c6 := HX.out.box.2.2 6 _ rfl
  have f6 := HX.out.box.2.1 6
  have c7 := HX.out.box.2.2 7 _ rfl
  have f7 := HX.out.box.2.1 7
  have c8 := HX.out.box.2.2 8 _ rfl
  have f8 := HX.out.box.2.1 8
  have c9 := HX.out.box.2.2 9 _ rfl
  have f9 := HX.out.box.2.1 9
  have c10 := HX.out.box.2.2 10 _ rfl
  have f10 := HX.out.box.2.1 10
  have c11 := HX.out.box.2.2 11 _ rfl
  have f11 := HX.out.box.2.1 11
  have c12 := HX.out.box.2.2 12 _ rfl
  have f12 := HX.out.box.2.1 12
  have c13 := HX.out.box.2.2 13 _ rfl
  have f13 := HX.out.box.2.1 13
  refine wpAnyH_take (i := 0) (v := ?_) rfl (by kernel_rfl) (by kernel_rfl) (by kernel_rfl) (fun _ _ _ h => h) (Or.inl ⟨by rfl, ?_⟩) h0 ?_
  rotate_left
  · intro w hSw; (try dsimp only at hSw); obtain ⟨s0, s1, s2, s3, s4, s5, s6, s7, s8, s9, s10, s11⟩ := hSw; go_simp; with_reducible rfl
  try simp only [Act.put, List.setIfInBounds_toArray, List.set_cons_zero, List.set_cons_succ]
  refine wpAnyH_take (i := 1) (v := ?_) rfl (by kernel_rfl) (by kernel_rfl) (by kernel_rfl) (fun _ _ _ h => h) (Or.inl ⟨by rfl, ?_⟩) h0 ?_
  rotate_left
  · intro w hSw; (try dsimp only at hSw); obtain ⟨s0, s1, s2, s3, s4, s5, s6, s7, s8, s9, s10, s11⟩ := hSw; go_simp; with_reducible rfl
  try simp only [Act.put, List.setIfInBounds_toArray, List.set_cons_zero, List.set_cons_succ]
  refine wpAnyH_take (i := 2) (v := ?_) rfl (by kernel_rfl) (by kernel_rfl) (by kernel_rfl) (fun _ _ _ h => h) (Or.inl ⟨by rfl, ?_⟩) h0 ?_
  rotate_left
  · intro w hSw; (try dsimp only at hSw); obtain ⟨s0, s1, s2, s3, s4, s5, s6, s7, s8, s9, s10, s11⟩ := hSw; go_simp; with_reducible rfl
  try simp only [Act.put, List.setIfInBounds_toArray, List.set_cons_zero, List.set_cons_succ]
  refine wpAnyH_ready (rs := [3]) (by kernel_rfl) (by simp) ?_
  refine AllReadyH.cons rfl (fun K hK => ?_) AllReadyH.nil
  go_simp
  have ht0 := (HT.out.set_other (m := D + 1) (by omega) 0 (.int .i64 1))
  refine hK.out _ _ ⟨ht0.2.2 0 _ rfl, ht0.2.2 1 _ rfl, ht0.2.2 2 _ rfl, ht0.2.2 3 _ rfl, ht0.2.2 4 _ rfl, ht0.2.2 5 _ rfl, ht0.2.2 6 _ rfl, ht0.2.2 7 _ rfl, ht0.2.2 8 _ rfl, ht0.2.2 9 _ rfl, ht0.2.2 10 _ rfl, ht0.2.2 11 _ rfl⟩ (fun h1 => ?_)
  clear hK K
  try simp only [Act.put, List.setIfInBounds_toArray, List.set_cons_zero, List.set_cons_succ]
  refine wpAnyH_take (i := 4) (v := ?_) rfl (by kernel_rfl) (by kernel_rfl) (by kernel_rfl) (fun _ _ _ h => h) (Or.inl ⟨by rfl, ?_⟩) h1 ?_
  rotate_left
  · intro w hSw; (try dsimp only at hSw); obtain ⟨s0, s1, s2, s3, s4, s5, s6, s7, s8, s9, s10, s11⟩ := hSw; go_simp; with_reducible rfl
  try simp only [Act.put, List.setIfInBounds_toArray, List.set_cons_zero, List.set_cons_succ]
  refine wpAnyH_ready (rs := [5]) (by kernel_rfl) (by simp) ?_
  refine AllReadyH.cons rfl (fun K hK => ?_) AllReadyH.nil
  go_simp
  have ht1 := (((((((((((((HT.out.set_other (m := D + 1) (by omega) 0 (.int .i64 1)).set_other (m := D + 1) (by omega) 2 (.int .i64 s.top)).set_other (m := D + 1) (by omega) 3 (.int .i64 s.bottom)).set_other (m := D + 1) (by omega) 4 (.int .i64 s.padTop)).set_other (m := D + 1) (by omega) 5 (.int .i64 s.padBottom)).set_other (m := D + 1) (by omega) 6 (.int .i64 s.inset)).set_other (m := D + 1) (by omega) 7 (.int .i64 s.orphans)).set_other (m := D + 1) (by omega) 8 (.int .i64 s.widows)).set_other (m := D + 1) (by omega) 9 (.int .i64 s.head)).set_other (m := D + 1) (by omega) 10 (.int .i64 s.before)).set_other (m := D + 1) (by omega) 11 (.int .i64 s.after)).set_other (m := D + 1) (by omega) 12 (.int .i64 s.inside)).set_other (m := D + 1) (by omega) 13 (.int .i64 s.clear))
  refine hK.out _ _ ⟨ht1.2.2 0 _ rfl, ht1.2.2 1 _ rfl, ht1.2.2 2 _ rfl, ht1.2.2 3 _ rfl, ht1.2.2 4 _ rfl, ht1.2.2 5 _ rfl, ht1.2.2 6 _ rfl, ht1.2.2 7 _ rfl, ht1.2.2 8 _ rfl, ht1.2.2 9 _ rfl, ht1.2.2 10 _ rfl, ht1.2.2 11 _ rfl⟩ (fun h2 => ?_)
  clear hK K
  try simp only [Act.put, List.setIfInBounds_toArray, List.set_cons_zero, List.set_cons_succ]
  refine wpAnyH_done (by kernel_rfl) ?_ _
  have hx1 : Blk (((((((((((((U.setCell ⟨D + 1, 0, none⟩ (.int .i64 1)).setCell ⟨D + 1, 2, none⟩ (.int .i64 s.top)).setCell ⟨D + 1, 3, none⟩ (.int .i64 s.bottom)).setCell ⟨D + 1, 4, none⟩ (.int .i64 s.padTop)).setCell ⟨D + 1, 5, none⟩ (.int .i64 s.padBottom)).setCell ⟨D + 1, 6, none⟩ (.int .i64 s.inset)).setCell ⟨D + 1, 7, none⟩ (.int .i64 s.orphans)).setCell ⟨D + 1, 8, none⟩ (.int .i64 s.widows)).setCell ⟨D + 1, 9, none⟩ (.int .i64 s.head)).setCell ⟨D + 1, 10, none⟩ (.int .i64 s.before)).setCell ⟨D + 1, 11, none⟩ (.int .i64 s.after)).setCell ⟨D + 1, 12, none⟩ (.int .i64 s.inside)).setCell ⟨D + 1, 13, none⟩ (.int .i64 s.clear)) (D + 1) 50 (encM ⟨1, 1, s, 0, 0, none, 0, 0, 0, 0, 0⟩) := (((((((((((((HX.out.set 0 (.int .i64 1)).set 2 (.int .i64 s.top)).set 3 (.int .i64 s.bottom)).set 4 (.int .i64 s.padTop)).set 5 (.int .i64 s.padBottom)).set 6 (.int .i64 s.inset)).set 7 (.int .i64 s.orphans)).set 8 (.int .i64 s.widows)).set 9 (.int .i64 s.head)).set 10 (.int .i64 s.before)).set 11 (.int .i64 s.after)).set 12 (.int .i64 s.inside)).set 13 (.int .i64 s.clear))
  have hd1 : Blk (((((((((((((U.setCell ⟨D + 1, 0, none⟩ (.int .i64 1)).setCell ⟨D + 1, 2, none⟩ (.int .i64 s.top)).setCell ⟨D + 1, 3, none⟩ (.int .i64 s.bottom)).setCell ⟨D + 1, 4, none⟩ (.int .i64 s.padTop)).setCell ⟨D + 1, 5, none⟩ (.int .i64 s.padBottom)).setCell ⟨D + 1, 6, none⟩ (.int .i64 s.inset)).setCell ⟨D + 1, 7, none⟩ (.int .i64 s.orphans)).setCell ⟨D + 1, 8, none⟩ (.int .i64 s.widows)).setCell ⟨D + 1, 9, none⟩ (.int .i64 s.head)).setCell ⟨D + 1, 10, none⟩ (.int .i64 s.before)).setCell ⟨D + 1, 11, none⟩ (.int .i64 s.after)).setCell ⟨D + 1, 12, none⟩ (.int .i64 s.inside)).setCell ⟨D + 1, 13, none⟩ (.int .i64 s.clear)) D 50 (encM ⟨0, 0, .none, 0, 0, none, 0, 0, 0, 0, 0⟩) := (((((((((((((HD.out.set_other (m := D + 1) (by omega) 0 (.int .i64 1)).set_other (m := D + 1) (by omega) 2 (.int .i64 s.top)).set_other (m := D + 1) (by omega) 3 (.int .i64 s.bottom)).set_other (m := D + 1) (by omega) 4 (.int .i64 s.padTop)).set_other (m := D + 1) (by omega) 5 (.int .i64 s.padBottom)).set_other (m := D + 1) (by omega) 6 (.int .i64 s.inset)).set_other (m := D + 1) (by omega) 7 (.int .i64 s.orphans)).set_other (m := D + 1) (by omega) 8 (.int .i64 s.widows)).set_other (m := D + 1) (by omega) 9 (.int .i64 s.head)).set_other (m := D + 1) (by omega) 10 (.int .i64 s.before)).set_other (m := D + 1) (by omega) 11 (.int .i64 s.after)).set_other (m := D + 1) (by omega) 12 (.int .i64 s.inside)).set_other (m := D + 1) (by omega) 13 (.int .i64 s.clear))
  have hb1 : Below D w (((((((((((((U.setCell ⟨D + 1, 0, none⟩ (.int .i64 1)).setCell ⟨D + 1, 2, none⟩ (.int .i64 s.top)).setCell ⟨D + 1, 3, none⟩ (.int .i64 s.bottom)).setCell ⟨D + 1, 4, none⟩ (.int .i64 s.padTop)).setCell ⟨D + 1, 5, none⟩ (.int .i64 s.padBottom)).setCell ⟨D + 1, 6, none⟩ (.int .i64 s.inset)).setCell ⟨D + 1, 7, none⟩ (.int .i64 s.orphans)).setCell ⟨D + 1, 8, none⟩ (.int .i64 s.widows)).setCell ⟨D + 1, 9, none⟩ (.int .i64 s.head)).setCell ⟨D + 1, 10, none⟩ (.int .i64 s.before)).setCell ⟨D + 1, 11, none⟩ (.int .i64 s.after)).setCell ⟨D + 1, 12, none⟩ (.int .i64 s.inside)).setCell ⟨D + 1, 13, none⟩ (.int .i64 s.clear)) := (Below.setCell (Below.setCell (Below.setCell (Below.setCell (Below.setCell (Below.setCell (Below.setCell (Below.setCell (Below.setCell (Below.setCell (Below.setCell (Below.setCell (Below.setCell HB.out (p := ⟨D + 1, 0, none⟩) (by simp) (.int .i64 1)) (p := ⟨D + 1, 2, none⟩) (by simp) (.int .i64 s.top)) (p := ⟨D + 1, 3, none⟩) (by simp) (.int .i64 s.bottom)) (p := ⟨D + 1, 4, none⟩) (by simp) (.int .i64 s.padTop)) (p := ⟨D + 1, 5, none⟩) (by simp) (.int .i64 s.padBottom)) (p := ⟨D + 1, 6, none⟩) (by simp) (.int .i64 s.inset)) (p := ⟨D + 1, 7, none⟩) (by simp) (.int .i64 s.orphans)) (p := ⟨D + 1, 8, none⟩) (by simp) (.int .i64 s.widows)) (p := ⟨D + 1, 9, none⟩) (by simp) (.int .i64 s.head)) (p := ⟨D + 1, 10, none⟩) (by simp) (.int .i64 s.before)) (p := ⟨D + 1, 11, none⟩) (by simp) (.int .i64 s.after)) (p := ⟨D + 1, 12, none⟩) (by simp) (.int .i64 s.inside)) (p := ⟨D + 1, 13, none⟩) (by simp) (.int .i64 s.clear))
  have hs1 : ((((((((((((((U.setCell ⟨D + 1, 0, none⟩ (.int .i64 1)).setCell ⟨D + 1, 2, none⟩ (.int .i64 s.top)).setCell ⟨D + 1, 3, none⟩ (.int .i64 s.bottom)).setCell ⟨D + 1, 4, none⟩ (.int .i64 s.padTop)).setCell ⟨D + 1, 5, none⟩ (.int .i64 s.padBottom)).setCell ⟨D + 1, 6, none⟩ (.int .i64 s.inset)).setCell ⟨D + 1, 7, none⟩ (.int .i64 s.orphans)).setCell ⟨D + 1, 8, none⟩ (.int .i64 s.widows)).setCell ⟨D + 1, 9, none⟩ (.int .i64 s.head)).setCell ⟨D + 1, 10, none⟩ (.int .i64 s.before)).setCell ⟨D + 1, 11, none⟩ (.int .i64 s.after)).setCell ⟨D + 1, 12, none⟩ (.int .i64 s.inside)).setCell ⟨D + 1, 13, none⟩ (.int .i64 s.clear))).heap.size = D + 3 := by simp [hsV]
  generalize (((((((((((((U.setCell ⟨D + 1, 0, none⟩ (.int .i64 1)).setCell ⟨D + 1, 2, none⟩ (.int .i64 s.top)).setCell ⟨D + 1, 3, none⟩ (.int .i64 s.bottom)).setCell ⟨D + 1, 4, none⟩ (.int .i64 s.padTop)).setCell ⟨D + 1, 5, none⟩ (.int .i64 s.padBottom)).setCell ⟨D + 1, 6, none⟩ (.int .i64 s.inset)).setCell ⟨D + 1, 7, none⟩ (.int .i64 s.orphans)).setCell ⟨D + 1, 8, none⟩ (.int .i64 s.widows)).setCell ⟨D + 1, 9, none⟩ (.int .i64 s.head)).setCell ⟨D + 1, 10, none⟩ (.int .i64 s.before)).setCell ⟨D + 1, 11, none⟩ (.int .i64 s.after)).setCell ⟨D + 1, 12, none⟩ (.int .i64 s.inside)).setCell ⟨D + 1, 13, none⟩ (.int .i64 s.clear)) = Z at hx1 hd1 hb1 hs1 ⊢
  have HX1 := Lib.hid hx1
  have HD1 := Lib.hid hd1
  have HB1 := Lib.hid hb1
  clear hx1 hd1 hb1 ht0 ht1 h0 h1 h2 HX HD HT HB c0 f0 c2 f2 c3 f3 c4 f4 c5 f5 c6 f6 c7 f7 c8 f8 c9 f9 c10 f10 c11 f11 c12 f12 c13 f13
  go_wp2_with (first | (refine wpList_load_row rfl 50 (.tmp 3) rfl (D + 1) rfl 50 (encM ⟨1, 1, s, 0, 0, none, 0, 0, 0, 0, 0⟩).toArray _ (((HX1.out.alloc _).alloc _).alloc _) Tryd.underlying50 rfl (by kernel_rfl) ?_) | (refine wpList_store_row rfl 50 (.tmp 2) (.tmp 68) rfl D rfl 50 _ (encM ⟨1, 1, s, 0, 0, none, 0, 0, 0, 0, 0⟩).toArray rfl (((HD1.out.alloc _).alloc _).alloc _) (by kernel_rfl) rfl (encM_all _) ?_; intro w6 hw6; have HD6 := Lib.hid (show Blk w6 D 50 (encM ⟨1, 1, s, 0, 0, none, 0, 0, 0, 0, 0⟩) by rw [hw6]; exact Blk.row ((((HD1.out.alloc _).alloc _).alloc _)) _ _ rfl); have HB6 := Lib.hid (show Below D w w6 by rw [hw6]; exact below_setRow (((HB1.out.alloc (by simp [hs1] <;> omega) _).alloc (by simp [hs1] <;> omega) _).alloc (by simp [hs1] <;> omega) _) (by omega) _); clear hw6))
  exact bodyPost_ret (v := .agg (encM ⟨1, 1, s, 0, 0, none, 0, 0, 0, 0, 0⟩).toArray) (results_cell rfl rfl HD6.out Tryd.underlying50 rfl (by kernel_rfl)) rfl ⟨rfl, by rw [hD]; exact HB6.out⟩
end Go.Proofs.YtechccoongilcaaDoor
