import Derived.Test.YtdjnaejblgheoaaGreatJO19
import Derived.Lib.SliceRun
import Derived.Deep.RegionHeld3
import Derived.Test.YtdjnaejblgheoaaGreatJO24
import Derived.Test.YtdjnaejblgheoaaGreatJO09
import Derived.Test.YtdjnaejblgheoaaGreatJO01
import Derived.Lib.MinMax
import Derived.Test.YtdjnaejblgheoaaGreatJO23
import Derived.Test.YtdjnaejblgheoaaGreatJO03
import Derived.Deep.QuietTactic
/- The program's walker of package flow: across, put. (Written by program: tools/drafts/genput14.py.) -/
namespace Go.Proofs.YtdjnaejblgheoaaGreat
open Go.RowKit
set_option linter.unusedVariables false
set_option linter.unusedSimpArgs false
theorem box8 (w : World) (x : Am) (t : TypeId) : Box (w.alloc (.cells #[.int .i64 x.kind, .int .i64 x.node, .int .i64 x.from_, .int .i64 x.to_, .int .i64 x.x, .int .i64 x.y, .int .i64 x.w, .int .i64 x.h] t)) w.heap.size (encAm x) := Box.new w (encAm x) t
theorem am_of {w : World} {k : Nat} {x : Am} (h : Box w k (encAm x)) : w.cell? ⟨k, 0, none⟩ = some (.int .i64 x.kind) ∧ w.cell? ⟨k, 1, none⟩ = some (.int .i64 x.node) ∧ w.cell? ⟨k, 2, none⟩ = some (.int .i64 x.from_) ∧ w.cell? ⟨k, 3, none⟩ = some (.int .i64 x.to_) ∧ w.cell? ⟨k, 4, none⟩ = some (.int .i64 x.x) ∧ w.cell? ⟨k, 5, none⟩ = some (.int .i64 x.y) ∧ w.cell? ⟨k, 6, none⟩ = some (.int .i64 x.w) ∧ w.cell? ⟨k, 7, none⟩ = some (.int .i64 x.h) :=
  ⟨h.2.2 0 _ rfl, h.2.2 1 _ rfl, h.2.2 2 _ rfl, h.2.2 3 _ rfl, h.2.2 4 _ rfl, h.2.2 5 _ rfl, h.2.2 6 _ rfl, h.2.2 7 _ rfl⟩
theorem cells_box8 {w : World} {b : Nat} {x : Am} (h : Box w b (encAm x)) : Cells w (some ⟨b, 0, none⟩) 1 8 (encAm x) :=
  ⟨rfl, by decide, fun _ => ⟨b, 0, rfl, h.1, fun j y hy => by rw [Nat.zero_add]; exact h.2.2 j y hy⟩⟩
theorem am_info14 : (Tryz.prog.info? 44).map (fun i => (i.zero, i.size, i.bytes)) = some (some (.agg #[.int .i64 0, .int .i64 0, .int .i64 0, .int .i64 0, .int .i64 0, .int .i64 0, .int .i64 0, .int .i64 0]), 8, 64) := by kernel_rfl
theorem step_append_cells_at {P : Program} {w : World} {ops : Array Oper} {o : Oper} {a : Act} {K : Act → World → Prop} {Q : Exit → Act → World → Prop} {E : Prop} (hgd : o.guard = none) (s x : Operand) (t : TypeId)
    (ho : o.op = .call { callee := .builtin .append, args := #[s, x], argTypes := #[t, t] })
    (base : Nat) (e : TypeId) (i : TypeInfo) (z : Value) (size bytes : Nat) (ht : P.underlying t = some (.slice e)) (hi : P.info? e = some i) (hz : i.zero = some z)
    (hsize : i.size = size) (hby : i.bytes = bytes) (hzs : z.cells.size = size) (hsz : 0 < size)
    (v : Value) (n : Nat) (xs : List Value) (hs : a.eval s = v) (hown : w.ownsRow base e size v n xs)
    (A : Option Addr) (m c : Nat) (news : List Value) (hm : 0 < m) (hx : a.eval x = .slice A m c) (hc : Cells w A m size news) (h1 : ∀ u ∈ news, u.oneCell' = true)
    (h63 : n + m ≤ maxLen) (hbytes : (n + m) * bytes ≤ 140737488355328) (hbase : base ≤ w.heap.size)
    (h : ∀ A' c' w', w'.ownsRow base e size (.slice A' (n + m) c') (n + m) (xs ++ news) → w.grownBy w' v.ownBlock → ((Value.slice A' (n + m) c').ownBlock = v.ownBlock ∨ (Value.slice A' (n + m) c').ownBlock = some w.heap.size) → K (a.put o.dst (.slice A' (n + m) c')) w') :
    if Region.wanted o (yielded ops a.tmps) = true then Oper.wp P o a w K Q else E := by
  obtain ⟨A', c', w', hr, h2, h3, h4⟩ := run_append_cells_at (P := P) w base t o.type e i z size bytes ht hi hz hsize hby hzs hsz v n xs hown A m c news hm hc h1 h63 hbytes hbase
  have hw : Region.wanted o (yielded ops a.tmps) = true := by simp [Region.wanted, hgd]
  rw [if_pos hw]
  unfold Oper.wp execOp
  simp only [ho, resolve, invoke, builtin, Sem.run_bind, Sem.run_pure, Result.andThen_ok, List.map_toArray, List.map_cons, List.map_nil, hs, hx, hr]
  exact h _ _ _ h2 h3 h4
section
variable {w1 : World} {An Ar : Option Addr} {nn cn nr cr : Nat} {w : World} {s : Gs} {A A2 : Option Addr} {n c m c2 : Nat}
theorem across14_to {zs : List (Int × Int)} (hR : Rows 2 encRm w1 Ar nr zs) {i : Nat} (hi : i < nr) {x u : Int} (hx : zs[i]? = some (x, u)) (hw : IntKind.i64.wrap (x + u) = x + u) (h : Wk w1 An nn cn Ar nr cr w s A n c A2 m c2) :
    Calls Tryz.prog 88 #[.pointer (some ⟨w1.heap.size, 0, none⟩), .int .i64 (i : Int)] w fun e w' => e = .returned (.agg #[.int .i64 x, .int .i64 (x + u)]) ∧ Below w.heap.size w w' := by
  obtain ⟨b, o, ⟨x', u'⟩, rfl, hb, hx', hc⟩ := (hR.below h.on).at_ hi
  obtain ⟨rfl, rfl⟩ : x = x' ∧ u = u' := by rw [hx] at hx'; injection hx' with e; injection e with e1 e2; exact ⟨e1, e2⟩
  have r0 := hc 0 _ rfl
  have r1 := hc 1 _ rfl
  simp only [Nat.add_zero] at r0
  have hbd := hR.2.1
  obtain ⟨⟨_, _, _, _, k4, _, _⟩, _, _⟩ := h.cells
  have hi2 : (i : Int) < (nr : Int) := by omega
  clear hx hx' hc hR h
  go_enter Tryz.func88, Tryz.ntmps88
  go_wp2_with fail
  exact bodyPost_ret (v := .agg #[.int .i64 x, .int .i64 (x + u)]) (by simp [results, Tryz.results88, go_sem]) rfl ⟨rfl, by go_grown⟩
set_option maxHeartbeats 4000000 in
set_option maxRecDepth 100000 in
theorem wput14_to {x0 x1 x2 x3 x4 x5 x6 x7 : Int} (hy : NearI x5) (hh : NearI x7) (hn : n ≤ 100000) (h : Wk w1 An nn cn Ar nr cr w s A n c A2 m c2) :
    Calls Tryz.prog 89 #[.pointer (some ⟨w1.heap.size, 0, none⟩), .agg #[.int .i64 x0, .int .i64 x1, .int .i64 x2, .int .i64 x3, .int .i64 x4, .int .i64 x5, .int .i64 x6, .int .i64 x7]] w fun e w' => e = .returned (.tuple #[]) ∧ WkOut w1 An nn cn Ar nr cr w A n c { s with ams := s.ams ++ [⟨x0, x1, x2, x3, x4, x5, x6, x7⟩], pen := (x5 + x7, 0) } w' := by
  obtain ⟨q0, hq0, hy0, hy1, hy2⟩ := info_parts am_info14
  have H := Lib.hid h
  have HY := Lib.hid hy
  have HH := Lib.hid hh
  clear h hy hh
  go_enter Tryz.func89, Tryz.ntmps89
  go_wp2_with fail
  generalize hW : World.alloc w _ = W
  have hal : Below w.heap.size w W := by rw [← hW]; exact (Below.refl _ _).alloc (Nat.le_refl _) _
  have HB := Lib.hid (show Box W w.heap.size (encAm ⟨x0, x1, x2, x3, x4, x5, x6, x7⟩) by rw [← hW]; exact box8 w ⟨x0, x1, x2, x3, x4, x5, x6, x7⟩ _)
  have HK := Lib.hid (H.out.below hal)
  have HF := Lib.hid (FrW.of_below (k := w1.heap.size) (r := (Value.slice A n c).ownBlock) hal)
  have HRL := Lib.hid (owns_block_lt H.out.gs.ams)
  have hkw : w1.heap.size < w.heap.size := H.out.box.1
  have hwW : w.heap.size < W.heap.size := HB.out.1
  have HWL := Lib.hid hal.size
  clear hW hal H
  have HB' := Lib.hid HB.out.drew
  have HK' := Lib.hid (HK.out.below (Below.refl _ _).drew)
  have HF' := Lib.hid (HF.out.same (FrW.of_below (k := w1.heap.size) (r := (Value.slice A n c).ownBlock) (Below.refl W.heap.size W).drew))
  refine wp_region_held_tail 12 (S := fun W' => W'.cell? ⟨w1.heap.size, 0, none⟩ = some (.slice A n c) ∧ W'.cell? ⟨w.heap.size, 0, none⟩ = some (.int .i64 x0) ∧ W'.cell? ⟨w.heap.size, 1, none⟩ = some (.int .i64 x1) ∧ W'.cell? ⟨w.heap.size, 2, none⟩ = some (.int .i64 x2) ∧ W'.cell? ⟨w.heap.size, 3, none⟩ = some (.int .i64 x3) ∧ W'.cell? ⟨w.heap.size, 4, none⟩ = some (.int .i64 x4) ∧ W'.cell? ⟨w.heap.size, 5, none⟩ = some (.int .i64 x5) ∧ W'.cell? ⟨w.heap.size, 6, none⟩ = some (.int .i64 x6) ∧ W'.cell? ⟨w.heap.size, 7, none⟩ = some (.int .i64 x7)) (by kernel_rfl) (by kernel_rfl) rfl ⟨HK'.out.cells.1.1, am_of HB'.out⟩ (fun h0 => ?_)
  simp only [headOf, List.take_succ_cons, List.take_zero, List.getElem_toArray, List.getElem_cons_succ, List.getElem_cons_zero]
  have hsd : W.heap.size = W.drew.heap.size := rfl
  generalize W.drew = U at HK' HB' HF' h0 hsd ⊢
  rw [hsd] at hwW HWL
  clear hsd HK HB HF
  refine wpAnyH_take (i := 0) (v := ?_) rfl (by kernel_rfl) (by kernel_rfl) (by kernel_rfl) (fun _ _ _ h => h) (Or.inl ⟨by rfl, ?_⟩) h0 ?_
  rotate_left
  · intro w hSw; (try dsimp only at hSw); obtain ⟨s0, s1, s2, s3, s4, s5, s6, s7, s8⟩ := hSw; go_simp; with_reducible rfl
  try simp only [Act.put, List.setIfInBounds_toArray, List.set_cons_zero, List.set_cons_succ]
  refine wpAnyH_take (i := 1) (v := ?_) rfl (by kernel_rfl) (by kernel_rfl) (by kernel_rfl) (fun _ _ _ h => h) (Or.inl ⟨by rfl, ?_⟩) h0 ?_
  rotate_left
  · intro w hSw; (try dsimp only at hSw); obtain ⟨s0, s1, s2, s3, s4, s5, s6, s7, s8⟩ := hSw; go_simp; with_reducible rfl
  try simp only [Act.put, List.setIfInBounds_toArray, List.set_cons_zero, List.set_cons_succ]
  refine wpAnyH_take (i := 2) (v := ?_) rfl (by kernel_rfl) (by kernel_rfl) (by kernel_rfl) (fun _ _ _ h => h) (Or.inl ⟨by rfl, ?_⟩) h0 ?_
  rotate_left
  · intro w hSw; (try dsimp only at hSw); obtain ⟨s0, s1, s2, s3, s4, s5, s6, s7, s8⟩ := hSw; go_simp; with_reducible rfl
  try simp only [Act.put, List.setIfInBounds_toArray, List.set_cons_zero, List.set_cons_succ]
  refine wpAnyH_take (i := 3) (v := ?_) rfl (by kernel_rfl) (by kernel_rfl) (by kernel_rfl) (fun _ _ _ h => h) (Or.inl ⟨by rfl, ?_⟩) h0 ?_
  rotate_left
  · intro w hSw; (try dsimp only at hSw); obtain ⟨s0, s1, s2, s3, s4, s5, s6, s7, s8⟩ := hSw; go_simp; with_reducible rfl
  try simp only [Act.put, List.setIfInBounds_toArray, List.set_cons_zero, List.set_cons_succ]
  refine wpAnyH_take (i := 4) (v := ?_) rfl (by kernel_rfl) (by kernel_rfl) (by kernel_rfl) (fun _ _ _ h => h) (Or.inl ⟨by rfl, ?_⟩) h0 ?_
  rotate_left
  · intro w hSw; (try dsimp only at hSw); obtain ⟨s0, s1, s2, s3, s4, s5, s6, s7, s8⟩ := hSw; go_simp; with_reducible rfl
  try simp only [Act.put, List.setIfInBounds_toArray, List.set_cons_zero, List.set_cons_succ]
  refine wpAnyH_take (i := 5) (v := ?_) rfl (by kernel_rfl) (by kernel_rfl) (by kernel_rfl) (fun _ _ _ h => h) (Or.inl ⟨by rfl, ?_⟩) h0 ?_
  rotate_left
  · intro w hSw; (try dsimp only at hSw); obtain ⟨s0, s1, s2, s3, s4, s5, s6, s7, s8⟩ := hSw; go_simp; with_reducible rfl
  try simp only [Act.put, List.setIfInBounds_toArray, List.set_cons_zero, List.set_cons_succ]
  refine wpAnyH_take (i := 6) (v := ?_) rfl (by kernel_rfl) (by kernel_rfl) (by kernel_rfl) (fun _ _ _ h => h) (Or.inl ⟨by rfl, ?_⟩) h0 ?_
  rotate_left
  · intro w hSw; (try dsimp only at hSw); obtain ⟨s0, s1, s2, s3, s4, s5, s6, s7, s8⟩ := hSw; go_simp; with_reducible rfl
  try simp only [Act.put, List.setIfInBounds_toArray, List.set_cons_zero, List.set_cons_succ]
  refine wpAnyH_ready (rs := [7]) (by kernel_rfl) (by simp) ?_
  refine AllReadyH.cons rfl (fun K hK => ?_) AllReadyH.nil
  go_simp
  have hal : Below U.heap.size U (U.alloc (.cells #[.int .i64 x0, .int .i64 x1, .int .i64 x2, .int .i64 x3, .int .i64 x4, .int .i64 x5, .int .i64 x6, .int .i64 x7] 44)) := (Below.refl _ U).alloc (Nat.le_refl _) _
  have hN := box8 U ⟨x0, x1, x2, x3, x4, x5, x6, x7⟩ 44
  have HB2 := Lib.hid (HB'.out.below hal)
  have HK2 := Lib.hid (HK'.out.below hal)
  have HF2 := Lib.hid (HF'.out.same (FrW.of_below (k := w1.heap.size) (r := (Value.slice A n c).ownBlock) hal))
  refine hK.out _ _ ⟨HK2.out.cells.1.1, am_of HB2.out⟩ (fun h1 => ?_)
  clear hK K
  try simp only [Act.put, List.setIfInBounds_toArray, List.set_cons_zero, List.set_cons_succ]
  refine wpAnyH_ready (rs := [8]) (by kernel_rfl) (by simp) ?_
  refine AllReadyH.cons rfl (fun K hK => ?_) AllReadyH.nil
  refine step_append_cells_at rfl (.tmp 9) (.tmp 11) _ rfl (w1.heap.size + 1) 44 q0 (.agg #[.int .i64 0, .int .i64 0, .int .i64 0, .int .i64 0, .int .i64 0, .int .i64 0, .int .i64 0, .int .i64 0]) 8 64 Tryz.underlying25 hq0 hy0 hy1 hy2 rfl (by decide) _ n _ rfl HK2.out.gs.ams _ 1 1 _ (by decide) rfl (cells_box8 hN) (encAm_one _) (by unfold maxLen; omega) (by omega) (by have := HK2.out.box.1; omega) ?_
  intro A7 c7 w6 hown6 hg6 ha6
  have HW := Lib.hid (HK2.out.am hown6 hg6 ha6)
  have HNR := Lib.hid (Wk.am_new (A := A) (n := n) (c := c) ha6)
  have HFW := Lib.hid ((HF2.out.same (FrW.of_grown (k := w1.heap.size) (r := (Value.slice A n c).ownBlock) hg6 (fun j e => .inr (.inl e)))).same (FrW.set w1.heap.size _ w6 0 (.slice A7 (n + 1) c7)))
  have hb6 : Box w6 w.heap.size (encAm ⟨x0, x1, x2, x3, x4, x5, x6, x7⟩) := HB2.out.grown hg6 (fun r e => by have := HRL.out r e; omega)
  have HK6 := Lib.hid (HK2.out.box.grown hg6 (fun r e => by have := HK2.out.ra r e; omega))
  have HB6 := Lib.hid (hb6.set_other (show w1.heap.size ≠ w.heap.size by omega) 0 (.slice A7 (n + 1) c7))
  refine hK.out _ _ ⟨HK6.out.2.2 0 _ rfl, am_of hb6⟩ (fun h3 => ?_)
  clear hK K
  try simp only [Act.put, List.setIfInBounds_toArray, List.set_cons_zero, List.set_cons_succ]
  refine wpAnyH_take (i := 9) (v := ?_) rfl (by kernel_rfl) (by kernel_rfl) (by kernel_rfl) (fun _ _ _ h => h) (Or.inl ⟨by rfl, ?_⟩) h3 ?_
  rotate_left
  · intro w hSw; (try dsimp only at hSw); obtain ⟨s0, s1, s2, s3, s4, s5, s6, s7, s8⟩ := hSw; go_simp; with_reducible rfl
  try simp only [Act.put, List.setIfInBounds_toArray, List.set_cons_zero, List.set_cons_succ]
  refine wpAnyH_take (i := 10) (v := ?_) rfl (by kernel_rfl) (by kernel_rfl) (by kernel_rfl) (fun _ _ _ h => h) (Or.inl ⟨by rfl, ?_⟩) h3 ?_
  rotate_left
  · intro w hSw; (try dsimp only at hSw); obtain ⟨s0, s1, s2, s3, s4, s5, s6, s7, s8⟩ := hSw; go_simp; with_reducible rfl
  try simp only [Act.put, List.setIfInBounds_toArray, List.set_cons_zero, List.set_cons_succ]
  refine wpAnyH_take (i := 11) (v := ?_) rfl (by kernel_rfl) (by kernel_rfl) (by kernel_rfl) (fun _ _ _ h => h) (Or.inl ⟨by rfl, ?_⟩) h3 ?_
  rotate_left
  · intro w hSw; (try dsimp only at hSw); obtain ⟨s0, s1, s2, s3, s4, s5, s6, s7, s8⟩ := hSw; go_simp; with_reducible rfl
  try simp only [Act.put, List.setIfInBounds_toArray, List.set_cons_zero, List.set_cons_succ]
  refine wpAnyH_done (by kernel_rfl) ?_ _
  show wpList _ _ _ _ _ _
  have k0 : w6.cell? ⟨w1.heap.size, 0, none⟩ = some (.slice A n c) := HK6.out.2.2 0 _ rfl
  have f0 : w6.frozen? ⟨w1.heap.size, 0, none⟩ = false := HK6.out.2.1 0
  have HNR2 := Lib.hid (show NewRow w.heap.size (.slice A n c) (.slice A7 (n + 1) c7) from by rcases HNR.out with h9 | h9; exact .inl h9; exact .inr (fun r e => by have := h9 r e; simp at this; omega))
  clear h0 h1 h3 hal hN HB2 HK2 HF2 hown6 hg6 ha6 hb6 HK6 HK' HB' HF' HRL HNR
  go_wp2_with fail
  clear k0 f0
  generalize w6.setCell ⟨w1.heap.size, 0, none⟩ (.slice A7 (n + 1) c7) = V at HW HFW HB6 ⊢
  obtain ⟨⟨_, _, _, _, _, k5, k6⟩, _, _⟩ := HW.out.cells
  have p0 := OnW.cell k5
  have p1 := OnW.cell k6
  have e5 := OnW.cell (am_of HB6.out).2.2.2.2.2.1
  have e7 := OnW.cell (am_of HB6.out).2.2.2.2.2.2.2
  simp only at p0 p1 e5 e7
  clear k5 k6
  refine wp_region_on_tail 12 (by kernel_rfl) (by kernel_rfl) rfl (by kernel_rfl) ?_
  simp only [headOf, List.take_succ_cons, List.take_zero, List.getElem_toArray, List.getElem_cons_succ, List.getElem_cons_zero]
  repeat (go_big_quiet_step ((go_at_call 124; with_reducible exact Calls.on_of (put13_top HY.out HH.out))))
  refine wpQuiet_nil ?_
  intro w3 hw'
  obtain ⟨⟨w', hOn⟩, hw''⟩ := hw'
  obtain rfl : w3 = w' := hw''
  have HW3 := Lib.hid (HW.out.below hOn)
  have HF3 := Lib.hid (HFW.out.same (FrW.of_below (k := w1.heap.size) (r := (Value.slice A n c).ownBlock) hOn))
  clear hOn p0 p1 e5 e7 HW HFW HB6
  obtain ⟨⟨_, _, _, _, _, k5, k6⟩, ⟨_, _, _, f5, f6⟩, kl⟩ := HW3.out.cells
  go_wp2_with fail
  go_end0
  exact ⟨rfl, A7, n + 1, c7, A2, m, c2, HW3.out.pen (x5 + x7) 0, HF3.out.same (frw_pen _ _ _ _ _), HNR2.out⟩
end
end Go.Proofs.YtdjnaejblgheoaaGreat
/- slices.Clone of floats. -/
namespace Go.Proofs.YtdjnaejblgheoaaGreat
open Go.RowKit
set_option linter.unusedVariables false
set_option linter.unusedSimpArgs false
set_option maxHeartbeats 2000000 in
theorem clone11_to {l : List Fl} {A : Option Addr} {n c : Nat} {w : World} (h : Rows 7 encFl w A n l) (hn : n ≤ 1000) :
    Calls Tryz.prog 127 #[.slice A n c] w fun e w' => ∃ A' c', e = .returned (.slice A' n c') ∧ w'.ownsRow w.heap.size 42 7 (.slice A' n c') n (l.flatMap encFl) ∧ Below w.heap.size w w' := by
  have HA := Lib.hid h
  have HL := Lib.hid h.1
  obtain ⟨i0, hi0, hz0, hz1, hz2⟩ := info_parts fl_info'
  cases A with
  | none =>
    have hn0 : n = 0 := by
      rcases Nat.eq_zero_or_pos n with h0 | h0
      · exact h0
      · obtain ⟨b, off, e, _⟩ := h.2.2 h0
        cases e
    subst hn0
    have hl : l = [] := List.eq_nil_of_length_eq_zero HL.out
    subst hl
    clear h
    have he : ∀ w : World, (binOp .eql 26 (.slice none 0 c) (.slice none 0 0)).run Tryz.prog w = .ok (.bool true) w := fun w => Lib.run_eql_slice_nil (P := Tryz.prog) w _ _ _ _ _ _ _ Tryz.underlying26
    go_enter Tryz.func127, Tryz.ntmps127
    go_wp2_with fail
    go_ret
    exact ⟨_, _, rfl, owns_nil _ _ _ _, Below.refl _ _⟩
  | some p =>
    clear h
    have he : ∀ w : World, (binOp .eql 26 (.slice (some p) n c) (.slice none 0 0)).run Tryz.prog w = .ok (.bool false) w := fun w => Lib.run_eql_slice_nil (P := Tryz.prog) w _ _ _ _ _ _ _ Tryz.underlying26
    go_enter Tryz.func127, Tryz.ntmps127
    go_wp2_with ((with_reducible refine stop_dst 7 ?_ ?_); exact rfl)
    refine Stop.intro ?_
    have hO : (w.alloc (.cells #[] 42)).ownsRow w.heap.size 42 7 (.slice (some ⟨w.heap.size, 0, none⟩) 0 0) 0 [] := World.ownsRow_made w #[] 0 (Nat.le_refl _) (by decide) rfl
    have hC : Cells (w.alloc (.cells #[] 42)) (some p) n 7 (l.flatMap encFl) := (HA.out.below ((Below.refl _ _).alloc (Nat.le_refl _) _)).cells encFl_len (by decide)
    refine wpList_append_cells _ rfl (.tmp 5) (.tmp 6) _ rfl w.heap.size 42 i0 (.agg #[.int .i64 0, .int .i64 0, .int .i64 0, .int .i64 0, .int .i64 0, .int .i64 0, .int .i64 0]) 7 56 Tryz.underlying26 hi0 hz0 hz1 hz2 rfl (by decide) _ 0 [] rfl hO (some p) n c _ rfl hC (fls_one' l) (by unfold maxLen; omega) (by omega) (by simp) ?_
    intro A1 c1 w2 hown1 hg1
    simp only [Nat.zero_add, List.nil_append] at hown1
    have hb1 : Below w.heap.size w w2 := ((Below.refl _ _).alloc (Nat.le_refl _) _).grown hg1 (by simp) (by intro k hk; cases hk; exact Nat.le_refl _)
    clear hg1 hO hC hi0 hz0 hz1 hz2 he
    go_wp2_with fail
    go_ret
    exact ⟨A1, c1, rfl, hown1, hb1⟩
end Go.Proofs.YtdjnaejblgheoaaGreat
/- The program's function of package place that puts a float. -/
namespace Go.Proofs.YtdjnaejblgheoaaGreat
open Go.RowKit
set_option linter.unusedVariables false
set_option linter.unusedSimpArgs false
theorem owns_mono11 {w : World} {base b2 : Nat} {e : TypeId} {size : Nat} {v : Value} {n : Nat} {xs : List Value} (h : w.ownsRow base e size v n xs) (hb : b2 ≤ base) : w.ownsRow b2 e size v n xs := by
  refine ⟨h.1, ?_⟩
  rcases h.2 with h2 | ⟨g, cap, cur, h1, h2, h3⟩
  · exact .inl h2
  · exact .inr ⟨g, cap, cur, h1, by omega, h3⟩
set_option maxHeartbeats 16000000 in
set_option maxRecDepth 100000 in
theorem put11_to {l : List Fl} {f0 f1 f2 f3 f4 f5 f6 y a b x t : Int} {A : Option Addr} {n c : Nat} {w : World} (hx : spotX l ⟨f0, f1, f2, f3, f4, f5, f6⟩ y a b = x) (ht : spotY l ⟨f0, f1, f2, f3, f4, f5, f6⟩ y a b = t) (hn : ∀ g ∈ l, g.near) (hf : (⟨f0, f1, f2, f3, f4, f5, f6⟩ : Fl).near) (hy : NearI y) (ha : NearI a) (hb : NearI b) (hn2 : n ≤ 1000) (h : Rows 7 encFl w A n l) :
    Calls Tryz.prog 91 #[.slice A n c, .agg #[.int .i64 f0, .int .i64 f1, .int .i64 f2, .int .i64 f3, .int .i64 f4, .int .i64 f5, .int .i64 f6], .int .i64 y, .agg #[.int .i64 a, .int .i64 b]] w (FlsOwn w (l ++ [⟨f0, f1, f2, x, t, f5, f6⟩])) := by
  have HL := Lib.hid h.1
  obtain ⟨i0, hi0, hz0, hz1, hz2⟩ := info_parts fl_info'
  obtain ⟨W, hW⟩ : ∃ W, (w.alloc (.cells #[.int .i64 f0, .int .i64 f1, .int .i64 f2, .int .i64 f3, .int .i64 f4, .int .i64 f5, .int .i64 f6] 42)).alloc (.cells #[.int .i64 a, .int .i64 b] 94) = W := ⟨_, rfl⟩
  have hB : Below w.heap.size w W := by rw [← hW]; go_grown
  have HB := Lib.hid hB
  have HC := Lib.hid (fun (v : World) (hv : On W v) => placed11_to (c := c) hx ht hn hf hy ha hb (h.below (below_then hB hv)))
  have HK := Lib.hid (show ∀ v : World, On W v → Calls Tryz.prog 127 #[.slice A n c] v fun e w' => ∃ A' c', e = .returned (.slice A' n c') ∧ w'.ownsRow W.heap.size 42 7 (.slice A' n c') n (l.flatMap encFl) ∧ Below v.heap.size v w' from
    fun v hv => (clone11_to (c := c) (h.below (below_then hB hv)) hn2).mono (by rintro e w2 ⟨A2, c2, rfl, ho, hb⟩; exact ⟨A2, c2, rfl, owns_mono11 ho (Below.size hv), hb⟩))
  have HD := Lib.hid (show Box W w.heap.size (encFl ⟨f0, f1, f2, f3, f4, f5, f6⟩) by rw [← hW]; exact (box7 w ⟨f0, f1, f2, f3, f4, f5, f6⟩ _).alloc _)
  have hI : Box W (w.heap.size + 1) [.int .i64 a, .int .i64 b] := by rw [← hW]; exact Box.new2' _ _ _ _ _ (by simp)
  have HW := Lib.hid hW
  obtain ⟨⟨p0, p1, p2, p3, p4, p5, p6⟩, hBl2⟩ := HD.out.of7
  simp only at p0 p1 p2 p3 p4 p5 p6
  have k0 := On.cell p0
  have k1 := On.cell p1
  have k2 := On.cell p2
  have k3 := On.cell p3
  have k4 := On.cell p4
  have k5 := On.cell p5
  have k6 := On.cell p6
  obtain ⟨j0, j1⟩ := On.of2 hI
  clear hx ht hn hf hy ha hb h hW hI p0 p1 p2 p3 p4 p5 p6 hBl2 hB
  go_enter Tryz.func91, Tryz.ntmps91
  go_wp2_with fail
  rw [HW.out]
  go_region_held3 (fun W' => On W W') (first | exact (On.refl _).drew | exact hO4 | exact On.step (by assumption) hb | exact On.alloc (by assumption) _) (first
    | (go_at_call 127; ((with_reducible refine (HK.out _ (by assumption)).mono ?_); rintro e w2 ⟨A2, c2, rfl, hown2, hb⟩; have HO2 := Lib.hid hown2; clear hown2))
    | (go_at_call 128; ((with_reducible refine (HC.out _ (by assumption)).mono ?_); rintro e w3 ⟨rfl, hb⟩; have HO3 := Lib.hid (owns_below HO2.out hb)))
    | (refine step_append_cells _ (by rfl) (.tmp 10) (.tmp 16) _ (by rfl) W.heap.size 42 i0 (.agg #[.int .i64 0, .int .i64 0, .int .i64 0, .int .i64 0, .int .i64 0, .int .i64 0, .int .i64 0]) 7 56 Tryz.underlying26 hi0 hz0 hz1 hz2 rfl (by decide) _ n _ (by rfl) (owns_below HO3.out ((Below.refl _ _).alloc (Nat.le_refl _) _)) _ 1 1 _ (by rfl) (cells7 _ ⟨f0, f1, f2, x, t, f5, f6⟩ _) (encFl_one ⟨f0, f1, f2, x, t, f5, f6⟩) (by unfold maxLen; omega) (by omega) (Below.size (by assumption)) ?_; intro A4 c4 w4 hown4 hg4; have hO4 : On W w4 := Below.grown (by assumption) hg4 (Below.size (by assumption)) (fun r e => owns_block HO3.out r e)))
  go_wp2_with fail
  go_ret
  refine ⟨A4, n + 1, c4, rfl, by rw [List.length_append, HL.out]; rfl, ?_, below_then HB.out hO4⟩
  have e : (l ++ [(⟨f0, f1, f2, x, t, f5, f6⟩ : Fl)]).flatMap encFl = l.flatMap encFl ++ encFl ⟨f0, f1, f2, x, t, f5, f6⟩ := by simp [List.flatMap_append]
  rw [e]
  exact owns_mono11 hown4 HB.out.size
end Go.Proofs.YtdjnaejblgheoaaGreat
/- The document's answers for package valid: Is. (Written by program: tools/drafts/genrefcnt.py.) -/
namespace Go.Proofs.YtdjnaejblgheoaaGreat
open Go.RowKit
set_option linter.unusedVariables false
set_option linter.unusedSimpArgs false
end Go.Proofs.YtdjnaejblgheoaaGreat
/- The document's plus. -/
namespace Go.Proofs.YtdjnaejblgheoaaGreat
open Go.RowKit
set_option linter.unusedVariables false
set_option linter.unusedSimpArgs false
end Go.Proofs.YtdjnaejblgheoaaGreat
/- The program's package valid: Is. -/
namespace Go.Proofs.YtdjnaejblgheoaaGreat
open Go.RowKit
set_option linter.unusedVariables false
set_option linter.unusedSimpArgs false
def PreV (l : List Nd) (w : World) (A : Option Addr) (n : Nat) : Prop := Sees w A n l ∧ n ≤ 100000
theorem PreV.below {l : List Nd} {w w' : World} {A : Option Addr} {n : Nat} (h : PreV l w A n) (hb : Below w.heap.size w w') : PreV l w' A n := ⟨h.1.below hb, h.2⟩
theorem pcount_pre {l : List Nd} {A : Option Addr} {n ca : Nat} {w : World} (h : PreV l w A n) : Calls Tryz.prog 32 #[.slice A n ca] w (CountPost l w) := pcount_any l A n ca w h.1 h.2
theorem pIs_to {l : List Nd} {v : Bool} (ha : docB l = v) {A : Option Addr} {n ca : Nat} {w : World} (h : PreV l w A n) : Calls Tryz.prog 68 #[.slice A n ca] w fun e w' => e = .returned (.bool v) ∧ Below w.heap.size w w' := by
  have HA := Lib.hid ha
  have H := Lib.hid h
  clear ha h
  go_enter Tryz.func68, Tryz.ntmps68
  go_wp2_with fail
  refine (pcount_pre H.out).mono ?_
  rintro e w1 ⟨⟨hd, A1, k1, c1, rfl⟩ | ⟨hd, rfl⟩, hb⟩
  · have HV := Lib.hid (show v = true by rw [← HA.out]; exact (docB_iff l).2 hd)
    obtain ⟨⟨s0, s1, s2, s3⟩, hs⟩ : ∃ s, sumB l = s := ⟨_, rfl⟩
    rw [hs]
    have HB := Lib.hid hb
    clear hb hd hs
    go_wp2_with fail
    go_ret
    exact ⟨ret_bool HV.out.symm, HB.out.alloc (by have := HB.out.size; omega) _⟩
  · have HV := Lib.hid (show v = false by rw [← HA.out]; rcases hq : docB l with _ | _; rfl; exact absurd ((docB_iff l).1 hq) hd)
    have HB := Lib.hid hb
    clear hb hd
    go_wp2_with fail
    go_ret
    exact ⟨ret_bool HV.out.symm, HB.out.alloc (by have := HB.out.size; omega) _⟩
end Go.Proofs.YtdjnaejblgheoaaGreat
/- The program's package tree: an order of nodes: many, end, inset, of. -/
namespace Go.Proofs.YtdjnaejblgheoaaGreat
open Go.RowKit
set_option linter.unusedVariables false
set_option linter.unusedSimpArgs false
theorem tmany_to {L : List Nd} {A : Option Addr} {n c : Nat} {w : World} (h : Sees w A n L) : Calls Tryz.prog 35 #[.slice A n c] w fun e w' => e = .returned (.int .i64 (n : Int)) ∧ w = w' := by
  have hb := h.bound
  clear h
  go_enter Tryz.func35, Tryz.ntmps35
  go_wp2_with fail
  go_ret
  exact ⟨rfl, rfl⟩
theorem tend_to {L : List Nd} (hn : Nested L) {k : Nat} {x : Nd} (hx : L[k]? = some x) {e : Int} (he : (k : Int) + x.size = e) {A : Option Addr} {n c : Nat} {w : World} (h : Sees w A n L) (hn2 : n ≤ 100000) :
    Calls Tryz.prog 37 #[.slice A n c, .int .i64 (k : Int)] w fun r w' => r = .returned (.int .i64 e) ∧ w = w' := by
  have hl := h.len
  have hk := (List.getElem?_eq_some_iff.1 hx).1
  have hkn : k < n := by omega
  have hkn2 : (k : Int) < (n : Int) := by omega
  obtain ⟨b1, o1, m1, x1, rfl, hb1, e1, r1, s1⟩ := h.at_ hkn
  rw [hx] at e1
  injection e1 with e1
  subst e1
  have c1 := r1 1 _ rfl
  have hms : m1.size = x.size := s1.1.2.1.symm
  have hs := hn k x hx
  have hs1 := hs.1
  have hs2 := hs.2.1
  obtain ⟨z, hz⟩ : ∃ z, m1.size = z := ⟨_, rfl⟩
  have c1' : w.cell? ⟨b1, o1 + k * 20 + 1, none⟩ = some (.int .i64 z) := by rw [← hz]; exact c1
  rw [hz] at hms
  rw [← hms] at he hs1 hs2
  have hwr : IntKind.i64.wrap ((k : Int) + z) = (k : Int) + z := IntWalk.i64_in _ (by omega)
  have HE := Lib.hid he
  clear h hx r1 s1 hs hms hz c1 he hl hk
  go_enter Tryz.func37, Tryz.ntmps37
  go_wp2_with fail
  go_ret
  exact ⟨ret_int HE.out, rfl⟩
theorem tinset_to {L : List Nd} {k : Nat} {i : Int} (hk : k < L.length) (hi : insetAt L k = i) {A : Option Addr} {n c : Nat} {w : World} (h : Sees w A n L) :
    Calls Tryz.prog 39 #[.slice A n c, .int .i64 (k : Int)] w fun r w' => r = .returned (.int .i64 i) ∧ w = w' := by
  have hl := h.len
  have hkn : k < n := by omega
  have hkn2 : (k : Int) < (n : Int) := by omega
  have hb := h.bound
  obtain ⟨b1, o1, m1, x1, rfl, hb1, e1, r1, s1⟩ := h.at_ hkn
  have hins : insetAt L k = m1.sty.inset := by unfold insetAt; rw [e1]; show x1.sty.inset = _; rw [s1.1.2.2.1]
  have c1 : w.cell? ⟨b1, o1 + k * 20 + 2 + 4, none⟩ = some (.int .i64 m1.sty.inset) := r1 6 _ rfl
  rw [← hins, hi] at c1
  clear h r1 s1 e1 hins hi hl hk
  go_enter Tryz.func39, Tryz.ntmps39
  go_wp2_with fail
  go_ret
  exact ⟨rfl, rfl⟩
/-- what an order is of: a document's nodes, or none. -/
def ordL (L : List Nd) : List Nd := if docB L then L else []
theorem ordL_doc (L : List Nd) : IsDoc (ordL L) := by
  unfold ordL
  rcases hd : docB L with _ | _
  · rw [if_neg (by decide)]
    exact (docB_iff []).1 rfl
  · rw [if_pos rfl]; exact (docB_iff L).1 hd
set_option maxHeartbeats 1000000 in
set_option maxRecDepth 100000 in
theorem tof_to {L : List Nd} {A : Option Addr} {n c : Nat} {w : World} (h : PreV L w A n) :
    Calls Tryz.prog 34 #[.slice A n c] w fun e w' => ∃ A' n' c', e = .returned (.agg #[.slice A' n' c']) ∧ PreV (ordL L) w' A' n' ∧ Below w.heap.size w w' := by
  have H := Lib.hid h
  clear h
  rcases hd : docB L with _ | _
  · have HL := Lib.hid (show ordL L = [] by unfold ordL; rw [hd, if_neg (by decide)])
    have HD := Lib.hid hd
    clear hd
    go_enter Tryz.func34, Tryz.ntmps34
    go_wp2_with fail
    refine (pIs_to HD.out (H.out.below (show Below w.heap.size w _ by go_grown))).mono ?_
    rintro e w1 ⟨rfl, hb⟩
    have HB := Lib.hid (below_then (show Below w.heap.size w _ by go_grown) hb)
    have HX := Lib.hid (show Box w1 w.heap.size [.slice none 0 0] from (Box.new w [.slice none 0 0] _).below hb)
    clear hb
    obtain ⟨a0, a1, a2⟩ := HX.out.of1
    go_wp2_with fail
    have hY := HX.out.set 0 (.slice none 0 0) (by simp)
    have r0 := hY.2.2 0 _ rfl
    exact bodyPost_ret (v := .agg #[.slice none 0 0]) (by simp [results, Tryz.results34, go_sem, r0]) rfl ⟨none, 0, 0, rfl, ⟨by rw [HL.out]; exact Sees.nil _, by omega⟩, HB.out.setCell (Nat.le_refl _) _⟩
  · have HL := Lib.hid (show ordL L = L by unfold ordL; rw [hd, if_pos rfl])
    have HD := Lib.hid hd
    clear hd
    go_enter Tryz.func34, Tryz.ntmps34
    go_wp2_with fail
    refine (pIs_to HD.out (H.out.below (show Below w.heap.size w _ by go_grown))).mono ?_
    rintro e w1 ⟨rfl, hb⟩
    have HB := Lib.hid (below_then (show Below w.heap.size w _ by go_grown) hb)
    have HX := Lib.hid (show Box w1 w.heap.size [.slice none 0 0] from (Box.new w [.slice none 0 0] _).below hb)
    clear hb
    obtain ⟨a0, a1, a2⟩ := HX.out.of1
    go_wp2_with fail
    have hY := HX.out.set 0 (.slice A n c) (by simp)
    have r0 := hY.2.2 0 _ rfl
    exact bodyPost_ret (v := .agg #[.slice A n c]) (by simp [results, Tryz.results34, go_sem, r0]) rfl ⟨A, n, c, rfl, by rw [HL.out]; exact H.out.below (HB.out.setCell (Nat.le_refl _) _), HB.out.setCell (Nat.le_refl _) _⟩
end Go.Proofs.YtdjnaejblgheoaaGreat
/- Rooms that can be read. -/
namespace Go.Proofs.YtdjnaejblgheoaaGreat
open Go.RowKit
set_option linter.unusedVariables false
set_option linter.unusedSimpArgs false
/-- rooms that can be read. -/
def RoomsSeen (w : World) (zs : List (Int × Int)) (e : Ending) (w' : World) : Prop := ∃ A n c, e = .returned (.slice A n c) ∧ n = zs.length ∧ Rows 2 encRm w' A n zs ∧ Below w.heap.size w w'
end Go.Proofs.YtdjnaejblgheoaaGreat
/- The program's package valid: Check. -/
namespace Go.Proofs.YtdjnaejblgheoaaGreat
open Go.RowKit
set_option linter.unusedVariables false
set_option linter.unusedSimpArgs false
set_option maxHeartbeats 4000000 in
set_option maxRecDepth 100000 in
theorem wpList_val {P : Program} {ops : Array Oper} {rest : List Oper} {o : Oper} {a : Act} {w : World} {Q : Exit → Act → World → Prop} (hgd : o.guard = none) (v : Value) (he : (execOp a.eval o).run P w = .ok (.value v) w) (h : wpList P ops Q rest (a.put o.dst v) w) : wpList P ops Q (o :: rest) a w := by
  refine wpList_plain hgd fun K hK => ?_
  unfold Oper.wp
  rw [he, Oper.upon_value]
  exact hK _ _ h
set_option maxHeartbeats 8000000 in
set_option maxRecDepth 100000 in
theorem pCheck_to {l : List Nd} {f : Int} (ha : chkV l = f) {A : Option Addr} {n ca : Nat} {w : World} (h : PreV l w A n) : Calls Tryz.prog 13 #[.slice A n ca] w fun e w' => e = .returned (.int .i64 f) ∧ Below w.heap.size w w' := by
  have HA := Lib.hid ha
  have H := Lib.hid h
  clear ha h
  go_enter Tryz.func13, Tryz.ntmps13
  go_wp2_with fail
  refine (pcount_pre H.out).mono ?_
  rintro e w1 ⟨⟨hd, A1, k1, c1, rfl⟩ | ⟨hd, rfl⟩, hb⟩
  rotate_left
  · have HV := Lib.hid (show f = 4 by rw [← HA.out]; unfold chkV; rw [if_neg (fun e => hd ((docB_iff l).1 e))])
    have HB := Lib.hid hb
    clear hb hd
    go_wp2_with fail
    go_ret
    exact ⟨ret_int HV.out.symm, HB.out.alloc (by have := HB.out.size; omega) _⟩
  obtain ⟨⟨s0, s1, s2, s3⟩, hs⟩ : ∃ s, sumB l = s := ⟨_, rfl⟩
  have HV := Lib.hid (show f = if decide (16 < s0) || decide (2000 < s1) || decide (2000 < s2) || decide (1099511627776 < s3) then 2 else 0 by rw [← HA.out]; unfold chkV overB; rw [if_pos ((docB_iff l).2 hd), hs])
  rw [hs]
  have HB := Lib.hid hb
  have hsz := hb.size
  clear hb hd hs
  go_wp2_with fail
  go_loopw [33] (fun i wr => ∃ k : Nat, i = .int .i64 k ∧ Below w.heap.size w wr ∧ (k = 0 ∨ (k = 1 ∧ s0 ≤ 16) ∨ (k = 2 ∧ s0 ≤ 16 ∧ s1 ≤ 2000) ∨ (k = 3 ∧ s0 ≤ 16 ∧ s1 ≤ 2000 ∧ s2 ≤ 2000) ∨ (k = 4 ∧ s0 ≤ 16 ∧ s1 ≤ 2000 ∧ s2 ≤ 2000 ∧ s3 ≤ 1099511627776))) (fun i _ => 4 - (intOf i).toNat)
  case atStart => exact ⟨0, rfl, (HB.out.alloc (by omega) _).alloc (by simp; omega) _, .inl rfl⟩
  case round =>
    obtain ⟨k, rfl, hon, hk⟩ := hrel
    have HO := Lib.hid hon
    have hos := hon.size
    clear hon
    rcases hk with rfl | ⟨rfl, h0⟩ | ⟨rfl, h0, h1⟩ | ⟨rfl, h0, h1, h2⟩ | ⟨rfl, h0, h1, h2, h3⟩
    · by_cases hv : 16 < s0
      · have HW := Lib.hid (show f = 2 by rw [HV.out]; simp [hv])
        go_wp2_with ((with_reducible refine stop_dst 35 ?_ ?_); exact rfl; refine Stop.intro ?_; refine wpList_val rfl (.agg #[.int .i64 s0, .int .i64 16]) (by kernel_rfl) ?_)
        go_ret
        exact ⟨ret_int HW.out.symm, HO.out.alloc (by omega) _⟩
      · have hv2 : s0 ≤ 16 := by omega
        clear hv
        go_wp2_with ((with_reducible refine stop_dst 35 ?_ ?_); exact rfl; refine Stop.intro ?_; refine wpList_val rfl (.agg #[.int .i64 s0, .int .i64 16]) (by kernel_rfl) ?_)
        go_roundw
        case rel => exact ⟨1, by go_num, HO.out.alloc (by omega) _, .inr (.inl ⟨rfl, by omega⟩)⟩
        case measure => simp [intOf]
    · by_cases hv : 2000 < s1
      · have HW := Lib.hid (show f = 2 by rw [HV.out]; simp [hv])
        go_wp2_with ((with_reducible refine stop_dst 35 ?_ ?_); exact rfl; refine Stop.intro ?_; refine wpList_val rfl (.agg #[.int .i64 s1, .int .i64 2000]) (by kernel_rfl) ?_)
        go_ret
        exact ⟨ret_int HW.out.symm, HO.out.alloc (by omega) _⟩
      · have hv2 : s1 ≤ 2000 := by omega
        clear hv
        go_wp2_with ((with_reducible refine stop_dst 35 ?_ ?_); exact rfl; refine Stop.intro ?_; refine wpList_val rfl (.agg #[.int .i64 s1, .int .i64 2000]) (by kernel_rfl) ?_)
        go_roundw
        case rel => exact ⟨2, by go_num, HO.out.alloc (by omega) _, .inr (.inr (.inl ⟨rfl, by omega, by omega⟩))⟩
        case measure => simp [intOf]
    · by_cases hv : 2000 < s2
      · have HW := Lib.hid (show f = 2 by rw [HV.out]; simp [hv])
        go_wp2_with ((with_reducible refine stop_dst 35 ?_ ?_); exact rfl; refine Stop.intro ?_; refine wpList_val rfl (.agg #[.int .i64 s2, .int .i64 2000]) (by kernel_rfl) ?_)
        go_ret
        exact ⟨ret_int HW.out.symm, HO.out.alloc (by omega) _⟩
      · have hv2 : s2 ≤ 2000 := by omega
        clear hv
        go_wp2_with ((with_reducible refine stop_dst 35 ?_ ?_); exact rfl; refine Stop.intro ?_; refine wpList_val rfl (.agg #[.int .i64 s2, .int .i64 2000]) (by kernel_rfl) ?_)
        go_roundw
        case rel => exact ⟨3, by go_num, HO.out.alloc (by omega) _, .inr (.inr (.inr (.inl ⟨rfl, by omega, by omega, by omega⟩)))⟩
        case measure => simp [intOf]
    · by_cases hv : 1099511627776 < s3
      · have HW := Lib.hid (show f = 2 by rw [HV.out]; simp [hv])
        go_wp2_with ((with_reducible refine stop_dst 35 ?_ ?_); exact rfl; refine Stop.intro ?_; refine wpList_val rfl (.agg #[.int .i64 s3, .int .i64 1099511627776]) (by kernel_rfl) ?_)
        go_ret
        exact ⟨ret_int HW.out.symm, HO.out.alloc (by omega) _⟩
      · have hv2 : s3 ≤ 1099511627776 := by omega
        clear hv
        go_wp2_with ((with_reducible refine stop_dst 35 ?_ ?_); exact rfl; refine Stop.intro ?_; refine wpList_val rfl (.agg #[.int .i64 s3, .int .i64 1099511627776]) (by kernel_rfl) ?_)
        go_roundw
        case rel => exact ⟨4, by go_num, HO.out.alloc (by omega) _, .inr (.inr (.inr (.inr ⟨rfl, by omega, by omega, by omega, by omega⟩)))⟩
        case measure => simp [intOf]
    · have HW := Lib.hid (show f = 0 by rw [HV.out, decide_eq_false (by omega : ¬ 16 < s0), decide_eq_false (by omega : ¬ 2000 < s1), decide_eq_false (by omega : ¬ 2000 < s2), decide_eq_false (by omega : ¬ 1099511627776 < s3)]; rfl)
      go_wp2_with fail
      go_ret
      exact ⟨ret_int HW.out.symm, HO.out⟩
end Go.Proofs.YtdjnaejblgheoaaGreat
